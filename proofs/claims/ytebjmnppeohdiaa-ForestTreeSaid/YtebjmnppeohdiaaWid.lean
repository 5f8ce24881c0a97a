/-
  Plain words about numbers of two words (128 bits), without any Go function: the upper and the lower word of a whole number, what is told of one that may be beyond the range. No conditions. Plain words about blocks of two cells. No conditions. Plain words about blocks of two cells. No conditions. Plain words for walks over blocks of two cells that are made, stored to and read. No conditions. Plain words about blocks of two cells. No conditions.
-/
import Derived.Test.YtebjmnppeohdiaaMath
import Derived.BigQuiet
namespace Go.Proofs.Ytebjmnppeohdiaa
open Go.RowKit
set_option linter.unusedSimpArgs false
set_option linter.unusedVariables false

/- Plain words about numbers of two words (128 bits), without any Go function: the upper and the lower word of a whole number, what is told of one that may be beyond the range. No conditions. -/
/-- 2 to the 64. -/
def p64 : Int := 18446744073709551616
/-- The whole number that a wide one is. -/
def wideOf (h l : Int) : Int := h * p64 + l
/-- In the range of a word. -/
def InU (x : Int) : Prop := 0 ≤ x ∧ x ≤ 18446744073709551615
/-- The whole numbers that are wide ones. -/
def InV (x : Int) : Prop := -170141183460469231731687303715884105728 ≤ x ∧ x ≤ 170141183460469231731687303715884105727
instance instDecInV (x : Int) : Decidable (InV x) := by unfold InV; infer_instance

/-- The upper and the lower word. -/
def vhi (x : Int) : Int := wrap64 (x / 18446744073709551616)
def vlo (x : Int) : Int := x % 18446744073709551616
/-- What is told of a whole number: itself, or nought and the error. -/
def vt (x : Int) : Int := if InV x then x else 0
def ve (x : Int) : Int := if InV x then 0 else 10
theorem vt_in {x : Int} (h : InV x) : vt x = x := if_pos h
theorem ve_in {x : Int} (h : InV x) : ve x = 0 := if_pos h
theorem vt_out {x : Int} (h : ¬ InV x) : vt x = 0 := if_neg h
theorem ve_out {x : Int} (h : ¬ InV x) : ve x = 10 := if_neg h
theorem zero_inV : InV 0 := by unfold InV; omega
theorem vt_inV (x : Int) : InV (vt x) := by
  unfold vt; split
  · assumption
  · exact zero_inV

theorem vhi_R (x : Int) : InR (vhi x) := by unfold vhi wrap64 InR; omega
theorem vlo_U (x : Int) : InU (vlo x) := by unfold vlo InU; omega
theorem vhi_of {h l : Int} (hh : InR h) (hl : InU l) : vhi (wideOf h l) = h := by unfold vhi wrap64 wideOf p64; unfold InR at hh; unfold InU at hl; omega
theorem vlo_of {h l : Int} (hl : InU l) : vlo (wideOf h l) = l := by unfold vlo wideOf p64; unfold InU at hl; omega
theorem wide_in {h l : Int} (hh : InR h) (hl : InU l) : InV (wideOf h l) := by unfold wideOf p64 InV; unfold InR at hh; unfold InU at hl; omega
theorem of_wide {x : Int} (h : InV x) : wideOf (vhi x) (vlo x) = x := by unfold vhi vlo wrap64 wideOf p64; unfold InV at h; omega
theorem vhi_v {x : Int} (h : InV x) : vhi x = x / 18446744073709551616 := by unfold vhi wrap64; unfold InV at h; omega
theorem inV_of {x : Int} (h : InR x) : InV x := by unfold InR at h; unfold InV; omega
theorem vhi_n {n : Int} (hn : InR n) : vhi n = n / 9223372036854775808 := by unfold vhi wrap64; unfold InR at hn; omega
theorem vhi_neg {x : Int} (h : InV x) : vhi x < 0 ↔ x < 0 := by rw [vhi_v h]; omega
theorem v_ext {x y : Int} (hx : InV x) (hy : InV y) (h1 : vhi x = vhi y) (h2 : vlo x = vlo y) : x = y := by
  rw [← of_wide hx, ← of_wide hy, h1, h2]
theorem vhi_zero : vhi 0 = 0 := by unfold vhi wrap64; omega
theorem vlo_zero : vlo 0 = 0 := by unfold vlo; omega
theorem below1 (w : World) (a : Obj) : Below w.heap.size w (w.alloc a) := (Below.refl _ _).alloc (Nat.le_refl _) _
theorem u64_v (n : Int) : IntKind.u64.wrap n = vlo n := by rw [IntKind.wrap_u64]; rfl

theorem vlo_add (x y : Int) : (vlo x + vlo y) % 18446744073709551616 = vlo (x + y) := by unfold vlo; omega
theorem vhi_add (x y : Int) : wrap64 ((IntKind.u64.wrap (vhi x) + IntKind.u64.wrap (vhi y) + (vlo x + vlo y) / 18446744073709551616) % 18446744073709551616) = vhi (x + y) := by
  rw [IntKind.wrap_u64, IntKind.wrap_u64]; unfold vhi vlo wrap64; omega
theorem vlo_sub (x y : Int) : (vlo x - vlo y) % 18446744073709551616 = vlo (x - y) := by unfold vlo; omega
theorem vhi_sub (x y : Int) : wrap64 ((IntKind.u64.wrap (vhi x) - IntKind.u64.wrap (vhi y) - (if vlo x < vlo y then 1 else 0)) % 18446744073709551616) = vhi (x - y) := by
  rw [IntKind.wrap_u64, IntKind.wrap_u64]; unfold vhi vlo wrap64; split <;> omega

theorem onebox {w w1 : World} {p q : Value} {t : TypeId} (hb : Below (w.alloc (.cells #[p, q] t)).heap.size (w.alloc (.cells #[p, q] t)) w1) :
    w1.cell? ⟨w.heap.size, 0, none⟩ = some p ∧ w1.cell? ⟨w.heap.size, 1, none⟩ = some q ∧ w.heap.size < w1.heap.size := by
  obtain ⟨bc, bf⟩ := bcell hb
  have hz : w.heap.size < (w.alloc (.cells #[p, q] t)).heap.size := by simp
  refine ⟨(bc _ _ hz).trans ?_, (bc _ _ hz).trans ?_, Nat.lt_of_lt_of_le hz hb.size⟩ <;> simp [go_sem]

theorem twobox {w w1 : World} {p q r s : Value} {t t' : TypeId} (hb : Below ((w.alloc (.cells #[p, q] t)).alloc (.cells #[r, s] t')).heap.size ((w.alloc (.cells #[p, q] t)).alloc (.cells #[r, s] t')) w1) :
    w1.cell? ⟨w.heap.size, 0, none⟩ = some p ∧ w1.cell? ⟨w.heap.size, 1, none⟩ = some q ∧ w1.cell? ⟨w.heap.size + 1, 0, none⟩ = some r ∧ w1.cell? ⟨w.heap.size + 1, 1, none⟩ = some s := by
  obtain ⟨bc, bf⟩ := bcell hb
  have hz : w.heap.size < ((w.alloc (.cells #[p, q] t)).alloc (.cells #[r, s] t')).heap.size := by simp; omega
  have hz' : w.heap.size + 1 < ((w.alloc (.cells #[p, q] t)).alloc (.cells #[r, s] t')).heap.size := by simp
  refine ⟨(bc _ _ hz).trans ?_, (bc _ _ hz).trans ?_, (bc _ _ hz').trans ?_, (bc _ _ hz').trans ?_⟩ <;> simp [go_sem]

theorem twofree {w w1 : World} {p q r s : Value} {t t' : TypeId} (hb : Below ((w.alloc (.cells #[p, q] t)).alloc (.cells #[r, s] t')).heap.size ((w.alloc (.cells #[p, q] t)).alloc (.cells #[r, s] t')) w1) :
    w1.frozen? ⟨w.heap.size, 0, none⟩ = false ∧ w1.frozen? ⟨w.heap.size, 1, none⟩ = false ∧ w1.frozen? ⟨w.heap.size + 1, 0, none⟩ = false ∧ w1.frozen? ⟨w.heap.size + 1, 1, none⟩ = false := by
  obtain ⟨bc, bf⟩ := bcell hb
  have hz : w.heap.size < ((w.alloc (.cells #[p, q] t)).alloc (.cells #[r, s] t')).heap.size := by simp; omega
  have hz' : w.heap.size + 1 < ((w.alloc (.cells #[p, q] t)).alloc (.cells #[r, s] t')).heap.size := by simp
  refine ⟨(bf _ _ hz).trans ?_, (bf _ _ hz).trans ?_, (bf _ _ hz').trans ?_, (bf _ _ hz').trans ?_⟩ <;> simp [go_sem]

theorem twolt {w w1 : World} {p q r s : Value} {t t' : TypeId} (hb : Below ((w.alloc (.cells #[p, q] t)).alloc (.cells #[r, s] t')).heap.size ((w.alloc (.cells #[p, q] t)).alloc (.cells #[r, s] t')) w1) :
    w.heap.size < w1.heap.size ∧ w.heap.size + 1 < w1.heap.size := by
  have h := hb.size
  have hz' : w.heap.size + 1 < ((w.alloc (.cells #[p, q] t)).alloc (.cells #[r, s] t')).heap.size := by simp
  omega

theorem onefree {w w1 : World} {p q : Value} {t : TypeId} (hb : Below (w.alloc (.cells #[p, q] t)).heap.size (w.alloc (.cells #[p, q] t)) w1) :
    w1.frozen? ⟨w.heap.size, 0, none⟩ = false ∧ w1.frozen? ⟨w.heap.size, 1, none⟩ = false := by
  obtain ⟨bc, bf⟩ := bcell hb
  have hz : w.heap.size < (w.alloc (.cells #[p, q] t)).heap.size := by simp
  refine ⟨(bf _ _ hz).trans ?_, (bf _ _ hz).trans ?_⟩ <;> simp [go_sem]

theorem threebox {w w1 : World} {p q r s u v : Value} {t t' t'' : TypeId} (hb : Below (((w.alloc (.cells #[p, q] t)).alloc (.cells #[r, s] t')).alloc (.cells #[u, v] t'')).heap.size (((w.alloc (.cells #[p, q] t)).alloc (.cells #[r, s] t')).alloc (.cells #[u, v] t'')) w1) :
    (w1.cell? ⟨w.heap.size, 0, none⟩ = some p ∧ w1.cell? ⟨w.heap.size, 1, none⟩ = some q ∧ w1.cell? ⟨w.heap.size + 1, 0, none⟩ = some r ∧ w1.cell? ⟨w.heap.size + 1, 1, none⟩ = some s ∧ w1.cell? ⟨w.heap.size + 1 + 1, 0, none⟩ = some u ∧ w1.cell? ⟨w.heap.size + 1 + 1, 1, none⟩ = some v) ∧
    (w1.frozen? ⟨w.heap.size + 1 + 1, 0, none⟩ = false ∧ w1.frozen? ⟨w.heap.size + 1 + 1, 1, none⟩ = false) ∧ w.heap.size < w1.heap.size ∧ w.heap.size + 1 < w1.heap.size ∧ w.heap.size + 1 + 1 < w1.heap.size := by
  obtain ⟨bc, bf⟩ := bcell hb
  have h := hb.size
  have hz'' : w.heap.size + 1 + 1 < (((w.alloc (.cells #[p, q] t)).alloc (.cells #[r, s] t')).alloc (.cells #[u, v] t'')).heap.size := by simp
  have hz : w.heap.size < (((w.alloc (.cells #[p, q] t)).alloc (.cells #[r, s] t')).alloc (.cells #[u, v] t'')).heap.size := by omega
  have hz' : w.heap.size + 1 < (((w.alloc (.cells #[p, q] t)).alloc (.cells #[r, s] t')).alloc (.cells #[u, v] t'')).heap.size := by omega
  refine ⟨⟨(bc _ _ hz).trans ?_, (bc _ _ hz).trans ?_, (bc _ _ hz').trans ?_, (bc _ _ hz').trans ?_, (bc _ _ hz'').trans ?_, (bc _ _ hz'').trans ?_⟩, ⟨(bf _ _ hz'').trans ?_, (bf _ _ hz'').trans ?_⟩, by omega, by omega, by omega⟩ <;> simp [go_sem]

theorem set2alloc {w : World} {k : Nat} {a b c d : Value} {o : Obj} (h : k < w.heap.size) (h0 : w.cell? ⟨k, 0, none⟩ = some c) (h1 : w.cell? ⟨k, 1, none⟩ = some d) :
    (((w.setCell ⟨k, 0, none⟩ a).setCell ⟨k, 1, none⟩ b).alloc o).cell? ⟨k, 0, none⟩ = some a ∧ (((w.setCell ⟨k, 0, none⟩ a).setCell ⟨k, 1, none⟩ b).alloc o).cell? ⟨k, 1, none⟩ = some b := by
  constructor <;> rw [World.cell?_alloc_lt _ _ _ (by simpa [World.setCell] using h)] <;> simp [go_sem, h0, h1]

/-- A block of two cells that is there. -/
def At2 (w : World) (B : Nat) (p q : Value) : Prop := w.cell? ⟨B, 0, none⟩ = some p ∧ w.cell? ⟨B, 1, none⟩ = some q ∧ B < w.heap.size
theorem At2.new (w : World) (p q : Value) (t : TypeId) : At2 (w.alloc (.cells #[p, q] t)) w.heap.size p q := by refine ⟨?_, ?_, ?_⟩ <;> simp [go_sem]
theorem At2.below {w w1 : World} {B : Nat} {p q : Value} (h : At2 w B p q) (hb : Below w.heap.size w w1) : At2 w1 B p q := by
  obtain ⟨h1, h2, h3⟩ := h
  obtain ⟨bc, bf⟩ := bcell hb
  exact ⟨(bc _ _ h3).trans h1, (bc _ _ h3).trans h2, Nat.lt_of_lt_of_le h3 hb.size⟩
theorem At2.alloc {w : World} {B : Nat} {p q : Value} (h : At2 w B p q) (o : Obj) : At2 (w.alloc o) B p q := h.below (below1 _ _)
theorem At2.drew {w : World} {B : Nat} {p q : Value} (h : At2 w B p q) : At2 w.drew B p q := h.below (Below.refl _ _).drew

/- Plain words about blocks of two cells. No conditions. -/
theorem At2.set2 {w : World} {B k : Nat} {p q a b : Value} (h : At2 w B p q) (hk : B < k) : ((w.setCell ⟨k, 0, none⟩ a).setCell ⟨k, 1, none⟩ b).cell? ⟨B, 0, none⟩ = some p ∧ ((w.setCell ⟨k, 0, none⟩ a).setCell ⟨k, 1, none⟩ b).cell? ⟨B, 1, none⟩ = some q := by
  obtain ⟨h1, h2, h3⟩ := h
  refine ⟨?_, ?_⟩
  · rw [World.cell?_setCell_other _ _ _ _ (by first | (simp; done) | (simp; omega)), World.cell?_setCell_other _ _ _ _ (by first | (simp; done) | (simp; omega))]; exact h1
  · rw [World.cell?_setCell_other _ _ _ _ (by first | (simp; done) | (simp; omega)), World.cell?_setCell_other _ _ _ _ (by first | (simp; done) | (simp; omega))]; exact h2
/-- A block of two cells that is there and may be written. -/
def Ow2 (w : World) (B : Nat) (p q : Value) : Prop := At2 w B p q ∧ w.frozen? ⟨B, 0, none⟩ = false ∧ w.frozen? ⟨B, 1, none⟩ = false
theorem Ow2.new (w : World) (p q : Value) (t : TypeId) : Ow2 (w.alloc (.cells #[p, q] t)) w.heap.size p q := by refine ⟨At2.new _ _ _ _, ?_, ?_⟩ <;> simp [go_sem]
theorem Ow2.below {w w1 : World} {B : Nat} {p q : Value} (h : Ow2 w B p q) (hb : Below w.heap.size w w1) : Ow2 w1 B p q := by
  obtain ⟨h1, h2, h3⟩ := h
  obtain ⟨bc, bf⟩ := bcell hb
  exact ⟨h1.below hb, (bf _ _ h1.2.2).trans h2, (bf _ _ h1.2.2).trans h3⟩
theorem Ow2.drew {w : World} {B : Nat} {p q : Value} (h : Ow2 w B p q) : Ow2 w.drew B p q := h.below (Below.refl _ _).drew
theorem Ow2.alloc {w : World} {B : Nat} {p q : Value} (h : Ow2 w B p q) (o : Obj) : Ow2 (w.alloc o) B p q := h.below (below1 _ _)
theorem At2.set {w : World} {B k : Nat} {p q a b : Value} (h : At2 w B p q) (hk : B < k) : At2 ((w.setCell ⟨k, 0, none⟩ a).setCell ⟨k, 1, none⟩ b) B p q :=
  ⟨(h.set2 hk).1, (h.set2 hk).2, by simpa [World.setCell] using h.2.2⟩

/-- What a walk keeps: nothing of the world before it is touched, and blocks of two cells that it has made. -/
def Keeps (w0 w : World) (l : List (Nat × Value × Value)) : Prop := Below w0.heap.size w0 w ∧ ∀ b ∈ l, At2 w b.1 b.2.1 b.2.2
theorem Keeps.start (w : World) : Keeps w w [] := ⟨Below.refl _ _, by simp⟩
theorem Keeps.size {w0 w : World} {l : List (Nat × Value × Value)} (h : Keeps w0 w l) : w0.heap.size ≤ w.heap.size := h.1.size
theorem Keeps.lt {w0 w : World} {l : List (Nat × Value × Value)} (h : Keeps w0 w l) : ∀ b ∈ l, b.1 < w.heap.size := fun b hb => (h.2 b hb).2.2
theorem Keeps.below {w0 w w1 : World} {l : List (Nat × Value × Value)} (h : Keeps w0 w l) (hb : Below w.heap.size w w1) : Keeps w0 w1 l :=
  ⟨h.1.trans (hb.mono h.1.size), fun b hm => (h.2 b hm).below hb⟩
theorem Keeps.drew {w0 w : World} {l : List (Nat × Value × Value)} (h : Keeps w0 w l) : Keeps w0 w.drew l := h.below (Below.refl _ _).drew
theorem Keeps.alloc {w0 w : World} {l : List (Nat × Value × Value)} (h : Keeps w0 w l) (o : Obj) : Keeps w0 (w.alloc o) l := h.below (below1 _ _)
theorem Keeps.new {w0 w : World} {l : List (Nat × Value × Value)} (h : Keeps w0 w l) (p q : Value) (t : TypeId) : Keeps w0 (w.alloc (.cells #[p, q] t)) ((w.heap.size, p, q) :: l) := by
  refine ⟨(h.alloc _).1, fun b hm => ?_⟩
  rcases List.mem_cons.mp hm with rfl | hm
  · exact At2.new _ _ _ _
  · exact (h.alloc _).2 b hm
theorem Keeps.set {w0 w : World} {l : List (Nat × Value × Value)} {k : Nat} {a b : Value} (h : Keeps w0 w l) (hk : w0.heap.size ≤ k) (hl : ∀ b ∈ l, b.1 < k) : Keeps w0 ((w.setCell ⟨k, 0, none⟩ a).setCell ⟨k, 1, none⟩ b) l :=
  ⟨(h.1.setCell hk _).setCell hk _, fun b hm => (h.2 b hm).set (hl b hm)⟩
theorem Keeps.at0 {w0 w : World} {l : List (Nat × Value × Value)} {b : Nat × Value × Value} (h : Keeps w0 w (b :: l)) : At2 w b.1 b.2.1 b.2.2 := h.2 b (by simp)
theorem Keeps.at1 {w0 w : World} {l : List (Nat × Value × Value)} {a b : Nat × Value × Value} (h : Keeps w0 w (a :: b :: l)) : At2 w b.1 b.2.1 b.2.2 := h.2 b (by simp)
theorem Keeps.at2 {w0 w : World} {l : List (Nat × Value × Value)} {a c b : Nat × Value × Value} (h : Keeps w0 w (a :: c :: b :: l)) : At2 w b.1 b.2.1 b.2.2 := h.2 b (by simp)
theorem Keeps.at3 {w0 w : World} {l : List (Nat × Value × Value)} {a c d b : Nat × Value × Value} (h : Keeps w0 w (a :: c :: d :: b :: l)) : At2 w b.1 b.2.1 b.2.2 := h.2 b (by simp)
theorem Keeps.four {w0 w : World} {a b c d : Nat × Value × Value} (h : Keeps w0 w [a, b, c, d]) :
    w.cell? ⟨a.1, 0, none⟩ = some a.2.1 ∧ w.cell? ⟨a.1, 1, none⟩ = some a.2.2 ∧ w.cell? ⟨b.1, 0, none⟩ = some b.2.1 ∧ w.cell? ⟨b.1, 1, none⟩ = some b.2.2 ∧
    w.cell? ⟨c.1, 0, none⟩ = some c.2.1 ∧ w.cell? ⟨c.1, 1, none⟩ = some c.2.2 ∧ w.cell? ⟨d.1, 0, none⟩ = some d.2.1 ∧ w.cell? ⟨d.1, 1, none⟩ = some d.2.2 :=
  ⟨h.at0.1, h.at0.2.1, h.at1.1, h.at1.2.1, h.at2.1, h.at2.2.1, h.at3.1, h.at3.2.1⟩
/- Plain words about blocks of two cells. No conditions. -/
theorem Keeps.new2 {w0 w : World} {l : List (Nat × Value × Value)} (h : Keeps w0 w l) (p q r s : Value) (t t' : TypeId) :
    Keeps w0 ((w.alloc (.cells #[p, q] t)).alloc (.cells #[r, s] t')) ((w.heap.size + 1, r, s) :: (w.heap.size, p, q) :: l) := by
  have := (h.new p q t).new r s t'
  rwa [show (w.alloc (.cells #[p, q] t)).heap.size = w.heap.size + 1 by simp] at this
theorem Keeps.drewN {w0 w : World} {l : List (Nat × Value × Value)} (h : Keeps w0 w l) (n : Nat) : Keeps w0 (w.drewN n) l := h.below ⟨rfl, rfl, rfl, Nat.le_refl _, fun _ _ => rfl⟩
theorem Keeps.tail {w0 w : World} {b : Nat × Value × Value} {l : List (Nat × Value × Value)} (h : Keeps w0 w (b :: l)) : Keeps w0 w l := ⟨h.1, fun c hc => h.2 c (List.mem_cons_of_mem _ hc)⟩
theorem Keeps.two {w0 w : World} {a b : Nat × Value × Value} {l : List (Nat × Value × Value)} (h : Keeps w0 w (a :: b :: l)) :
    w.cell? ⟨a.1, 0, none⟩ = some a.2.1 ∧ w.cell? ⟨a.1, 1, none⟩ = some a.2.2 ∧ w.cell? ⟨b.1, 0, none⟩ = some b.2.1 ∧ w.cell? ⟨b.1, 1, none⟩ = some b.2.2 :=
  ⟨h.at0.1, h.at0.2.1, h.at1.1, h.at1.2.1⟩
/- Plain words for walks over blocks of two cells that are made, stored to and read. No conditions. -/
theorem Ow2.at {w : World} {B : Nat} {p q : Value} (h : Ow2 w B p q) : At2 w B p q := h.1
theorem Ow2.new2 (w : World) (o : Obj) (p q : Value) (t : TypeId) : Ow2 ((w.alloc o).alloc (.cells #[p, q] t)) (w.heap.size + 1) p q := by
  have := Ow2.new (w.alloc o) p q t
  rwa [show (w.alloc o).heap.size = w.heap.size + 1 by simp] at this
theorem Ow2.new3 (w : World) (o o' : Obj) (p q : Value) (t : TypeId) : Ow2 (((w.alloc o).alloc o').alloc (.cells #[p, q] t)) (w.heap.size + 1 + 1) p q := by
  have := Ow2.new ((w.alloc o).alloc o') p q t
  rwa [show ((w.alloc o).alloc o').heap.size = w.heap.size + 1 + 1 by simp] at this
theorem Ow2.new4 (w : World) (o o' o'' : Obj) (p q : Value) (t : TypeId) : Ow2 ((((w.alloc o).alloc o').alloc o'').alloc (.cells #[p, q] t)) (w.heap.size + 1 + 1 + 1) p q := by
  have := Ow2.new (((w.alloc o).alloc o').alloc o'') p q t
  rwa [show (((w.alloc o).alloc o').alloc o'').heap.size = w.heap.size + 1 + 1 + 1 by simp] at this
theorem At2.new' {X : World} {B : Nat} {p q : Value} {t : TypeId} (h : B = X.heap.size) : At2 (X.alloc (.cells #[p, q] t)) B p q := by subst h; exact At2.new _ _ _ _
theorem At2.put {w : World} {k : Nat} {p q a b : Value} (h : At2 w k p q) : At2 ((w.setCell ⟨k, 0, none⟩ a).setCell ⟨k, 1, none⟩ b) k a b := by
  obtain ⟨h1, h2, h3⟩ := h
  refine ⟨?_, ?_, by simpa [World.setCell] using h3⟩ <;> simp [go_sem, h1, h2]
theorem At2.setne {w : World} {B k : Nat} {p q a b : Value} (h : At2 w B p q) (hk : B ≠ k) : At2 ((w.setCell ⟨k, 0, none⟩ a).setCell ⟨k, 1, none⟩ b) B p q := by
  obtain ⟨h1, h2, h3⟩ := h
  refine ⟨?_, ?_, by simpa [World.setCell] using h3⟩
  · rw [World.cell?_setCell_other _ _ _ _ (by simp [hk]), World.cell?_setCell_other _ _ _ _ (by simp [hk])]; exact h1
  · rw [World.cell?_setCell_other _ _ _ _ (by simp [hk]), World.cell?_setCell_other _ _ _ _ (by simp [hk])]; exact h2
theorem Ow2.setne {w : World} {B k : Nat} {p q a b : Value} (h : Ow2 w B p q) (hk : B ≠ k) : Ow2 ((w.setCell ⟨k, 0, none⟩ a).setCell ⟨k, 1, none⟩ b) B p q := by
  obtain ⟨h1, h2, h3⟩ := h
  refine ⟨h1.setne hk, ?_, ?_⟩ <;> simp [go_sem, h2, h3]
theorem Ow2.put {w : World} {k : Nat} {p q a b : Value} (h : Ow2 w k p q) : Ow2 ((w.setCell ⟨k, 0, none⟩ a).setCell ⟨k, 1, none⟩ b) k a b := by
  refine ⟨h.1.put, ?_, ?_⟩ <;> simp [go_sem, h.2.1, h.2.2]
/- Plain words about blocks of two cells. No conditions. -/
theorem below_set2 {B k : Nat} {w0 w : World} {p q : Value} (h : Below B w0 w) (hk : B ≤ k) : Below B w0 ((w.setCell ⟨k, 0, none⟩ p).setCell ⟨k, 1, none⟩ q) := (h.setCell hk _).setCell hk _
theorem Keeps.three' {w0 w : World} {a b c : Nat × Value × Value} {l : List (Nat × Value × Value)} (h : Keeps w0 w (a :: b :: c :: l)) :
    w.cell? ⟨a.1, 0, none⟩ = some a.2.1 ∧ w.cell? ⟨a.1, 1, none⟩ = some a.2.2 ∧ w.cell? ⟨b.1, 0, none⟩ = some b.2.1 ∧ w.cell? ⟨b.1, 1, none⟩ = some b.2.2 ∧ w.cell? ⟨c.1, 0, none⟩ = some c.2.1 ∧ w.cell? ⟨c.1, 1, none⟩ = some c.2.2 :=
  ⟨h.at0.1, h.at0.2.1, h.at1.1, h.at1.2.1, h.at2.1, h.at2.2.1⟩
theorem Keeps.one {w0 w : World} {a : Nat × Value × Value} {l : List (Nat × Value × Value)} (h : Keeps w0 w (a :: l)) : w.cell? ⟨a.1, 0, none⟩ = some a.2.1 ∧ w.cell? ⟨a.1, 1, none⟩ = some a.2.2 := ⟨h.at0.1, h.at0.2.1⟩
end Go.Proofs.Ytebjmnppeohdiaa
