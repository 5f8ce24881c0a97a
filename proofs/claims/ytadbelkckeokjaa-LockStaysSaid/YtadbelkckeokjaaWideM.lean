/-
  Plain words about numbers of two words (128 bits), without any Go function: the upper and the lower word of a whole number, what is told of one that may be beyond the range. No conditions.
-/
import Derived.Test.YtadbelkckeokjaaMath
namespace Go.Proofs.Ytadbelkckeokjaa
open Go.RowKit
set_option linter.unusedSimpArgs false

/-- 2 to the 64. -/
def p64 : Int := 18446744073709551616
/-- The whole number that a wide one is. -/
def wideOf (h l : Int) : Int := h * p64 + l
/-- In the range of a word. -/
def InU (x : Int) : Prop := 0 ≤ x ∧ x ≤ 18446744073709551615
/-- The whole numbers that are wide ones. -/
def InV (x : Int) : Prop := -170141183460469231731687303715884105728 ≤ x ∧ x ≤ 170141183460469231731687303715884105727
instance instDecInV (x : Int) : Decidable (InV x) := by unfold InV; infer_instance

/-- The upper and the lower word. -/
def vhi (x : Int) : Int := wrap64 (x / 18446744073709551616)
def vlo (x : Int) : Int := x % 18446744073709551616
/-- What is told of a whole number: itself, or nought and the error. -/
def vt (x : Int) : Int := if InV x then x else 0
def ve (x : Int) : Int := if InV x then 0 else 10
theorem vt_in {x : Int} (h : InV x) : vt x = x := if_pos h
theorem ve_in {x : Int} (h : InV x) : ve x = 0 := if_pos h
theorem vt_out {x : Int} (h : ¬ InV x) : vt x = 0 := if_neg h
theorem ve_out {x : Int} (h : ¬ InV x) : ve x = 10 := if_neg h
theorem zero_inV : InV 0 := by unfold InV; omega
theorem vt_inV (x : Int) : InV (vt x) := by
  unfold vt; split
  · assumption
  · exact zero_inV

theorem vhi_R (x : Int) : InR (vhi x) := by unfold vhi wrap64 InR; omega
theorem vlo_U (x : Int) : InU (vlo x) := by unfold vlo InU; omega
theorem vhi_of {h l : Int} (hh : InR h) (hl : InU l) : vhi (wideOf h l) = h := by unfold vhi wrap64 wideOf p64; unfold InR at hh; unfold InU at hl; omega
theorem vlo_of {h l : Int} (hl : InU l) : vlo (wideOf h l) = l := by unfold vlo wideOf p64; unfold InU at hl; omega
theorem wide_in {h l : Int} (hh : InR h) (hl : InU l) : InV (wideOf h l) := by unfold wideOf p64 InV; unfold InR at hh; unfold InU at hl; omega
theorem of_wide {x : Int} (h : InV x) : wideOf (vhi x) (vlo x) = x := by unfold vhi vlo wrap64 wideOf p64; unfold InV at h; omega
theorem vhi_v {x : Int} (h : InV x) : vhi x = x / 18446744073709551616 := by unfold vhi wrap64; unfold InV at h; omega
theorem inV_of {x : Int} (h : InR x) : InV x := by unfold InR at h; unfold InV; omega
theorem vhi_n {n : Int} (hn : InR n) : vhi n = n / 9223372036854775808 := by unfold vhi wrap64; unfold InR at hn; omega
theorem vhi_neg {x : Int} (h : InV x) : vhi x < 0 ↔ x < 0 := by rw [vhi_v h]; omega
theorem v_ext {x y : Int} (hx : InV x) (hy : InV y) (h1 : vhi x = vhi y) (h2 : vlo x = vlo y) : x = y := by
  rw [← of_wide hx, ← of_wide hy, h1, h2]
theorem vhi_zero : vhi 0 = 0 := by unfold vhi wrap64; omega
theorem vlo_zero : vlo 0 = 0 := by unfold vlo; omega
theorem below1 (w : World) (a : Obj) : Below w.heap.size w (w.alloc a) := (Below.refl _ _).alloc (Nat.le_refl _) _
theorem u64_v (n : Int) : IntKind.u64.wrap n = vlo n := by rw [IntKind.wrap_u64]; rfl

theorem vlo_add (x y : Int) : (vlo x + vlo y) % 18446744073709551616 = vlo (x + y) := by unfold vlo; omega
theorem vhi_add (x y : Int) : wrap64 ((IntKind.u64.wrap (vhi x) + IntKind.u64.wrap (vhi y) + (vlo x + vlo y) / 18446744073709551616) % 18446744073709551616) = vhi (x + y) := by
  rw [IntKind.wrap_u64, IntKind.wrap_u64]; unfold vhi vlo wrap64; omega
theorem vlo_sub (x y : Int) : (vlo x - vlo y) % 18446744073709551616 = vlo (x - y) := by unfold vlo; omega
theorem vhi_sub (x y : Int) : wrap64 ((IntKind.u64.wrap (vhi x) - IntKind.u64.wrap (vhi y) - (if vlo x < vlo y then 1 else 0)) % 18446744073709551616) = vhi (x - y) := by
  rw [IntKind.wrap_u64, IntKind.wrap_u64]; unfold vhi vlo wrap64; split <;> omega

theorem onebox {w w1 : World} {p q : Value} {t : TypeId} (hb : Below (w.alloc (.cells #[p, q] t)).heap.size (w.alloc (.cells #[p, q] t)) w1) :
    w1.cell? ⟨w.heap.size, 0, none⟩ = some p ∧ w1.cell? ⟨w.heap.size, 1, none⟩ = some q ∧ w.heap.size < w1.heap.size := by
  obtain ⟨bc, bf⟩ := bcell hb
  have hz : w.heap.size < (w.alloc (.cells #[p, q] t)).heap.size := by simp
  refine ⟨(bc _ _ hz).trans ?_, (bc _ _ hz).trans ?_, Nat.lt_of_lt_of_le hz hb.size⟩ <;> simp [go_sem]

theorem twobox {w w1 : World} {p q r s : Value} {t t' : TypeId} (hb : Below ((w.alloc (.cells #[p, q] t)).alloc (.cells #[r, s] t')).heap.size ((w.alloc (.cells #[p, q] t)).alloc (.cells #[r, s] t')) w1) :
    w1.cell? ⟨w.heap.size, 0, none⟩ = some p ∧ w1.cell? ⟨w.heap.size, 1, none⟩ = some q ∧ w1.cell? ⟨w.heap.size + 1, 0, none⟩ = some r ∧ w1.cell? ⟨w.heap.size + 1, 1, none⟩ = some s := by
  obtain ⟨bc, bf⟩ := bcell hb
  have hz : w.heap.size < ((w.alloc (.cells #[p, q] t)).alloc (.cells #[r, s] t')).heap.size := by simp; omega
  have hz' : w.heap.size + 1 < ((w.alloc (.cells #[p, q] t)).alloc (.cells #[r, s] t')).heap.size := by simp
  refine ⟨(bc _ _ hz).trans ?_, (bc _ _ hz).trans ?_, (bc _ _ hz').trans ?_, (bc _ _ hz').trans ?_⟩ <;> simp [go_sem]

theorem twofree {w w1 : World} {p q r s : Value} {t t' : TypeId} (hb : Below ((w.alloc (.cells #[p, q] t)).alloc (.cells #[r, s] t')).heap.size ((w.alloc (.cells #[p, q] t)).alloc (.cells #[r, s] t')) w1) :
    w1.frozen? ⟨w.heap.size, 0, none⟩ = false ∧ w1.frozen? ⟨w.heap.size, 1, none⟩ = false ∧ w1.frozen? ⟨w.heap.size + 1, 0, none⟩ = false ∧ w1.frozen? ⟨w.heap.size + 1, 1, none⟩ = false := by
  obtain ⟨bc, bf⟩ := bcell hb
  have hz : w.heap.size < ((w.alloc (.cells #[p, q] t)).alloc (.cells #[r, s] t')).heap.size := by simp; omega
  have hz' : w.heap.size + 1 < ((w.alloc (.cells #[p, q] t)).alloc (.cells #[r, s] t')).heap.size := by simp
  refine ⟨(bf _ _ hz).trans ?_, (bf _ _ hz).trans ?_, (bf _ _ hz').trans ?_, (bf _ _ hz').trans ?_⟩ <;> simp [go_sem]

theorem twolt {w w1 : World} {p q r s : Value} {t t' : TypeId} (hb : Below ((w.alloc (.cells #[p, q] t)).alloc (.cells #[r, s] t')).heap.size ((w.alloc (.cells #[p, q] t)).alloc (.cells #[r, s] t')) w1) :
    w.heap.size < w1.heap.size ∧ w.heap.size + 1 < w1.heap.size := by
  have h := hb.size
  have hz' : w.heap.size + 1 < ((w.alloc (.cells #[p, q] t)).alloc (.cells #[r, s] t')).heap.size := by simp
  omega

theorem onefree {w w1 : World} {p q : Value} {t : TypeId} (hb : Below (w.alloc (.cells #[p, q] t)).heap.size (w.alloc (.cells #[p, q] t)) w1) :
    w1.frozen? ⟨w.heap.size, 0, none⟩ = false ∧ w1.frozen? ⟨w.heap.size, 1, none⟩ = false := by
  obtain ⟨bc, bf⟩ := bcell hb
  have hz : w.heap.size < (w.alloc (.cells #[p, q] t)).heap.size := by simp
  refine ⟨(bf _ _ hz).trans ?_, (bf _ _ hz).trans ?_⟩ <;> simp [go_sem]

theorem threebox {w w1 : World} {p q r s u v : Value} {t t' t'' : TypeId} (hb : Below (((w.alloc (.cells #[p, q] t)).alloc (.cells #[r, s] t')).alloc (.cells #[u, v] t'')).heap.size (((w.alloc (.cells #[p, q] t)).alloc (.cells #[r, s] t')).alloc (.cells #[u, v] t'')) w1) :
    (w1.cell? ⟨w.heap.size, 0, none⟩ = some p ∧ w1.cell? ⟨w.heap.size, 1, none⟩ = some q ∧ w1.cell? ⟨w.heap.size + 1, 0, none⟩ = some r ∧ w1.cell? ⟨w.heap.size + 1, 1, none⟩ = some s ∧ w1.cell? ⟨w.heap.size + 1 + 1, 0, none⟩ = some u ∧ w1.cell? ⟨w.heap.size + 1 + 1, 1, none⟩ = some v) ∧
    (w1.frozen? ⟨w.heap.size + 1 + 1, 0, none⟩ = false ∧ w1.frozen? ⟨w.heap.size + 1 + 1, 1, none⟩ = false) ∧ w.heap.size < w1.heap.size ∧ w.heap.size + 1 < w1.heap.size ∧ w.heap.size + 1 + 1 < w1.heap.size := by
  obtain ⟨bc, bf⟩ := bcell hb
  have h := hb.size
  have hz'' : w.heap.size + 1 + 1 < (((w.alloc (.cells #[p, q] t)).alloc (.cells #[r, s] t')).alloc (.cells #[u, v] t'')).heap.size := by simp
  have hz : w.heap.size < (((w.alloc (.cells #[p, q] t)).alloc (.cells #[r, s] t')).alloc (.cells #[u, v] t'')).heap.size := by omega
  have hz' : w.heap.size + 1 < (((w.alloc (.cells #[p, q] t)).alloc (.cells #[r, s] t')).alloc (.cells #[u, v] t'')).heap.size := by omega
  refine ⟨⟨(bc _ _ hz).trans ?_, (bc _ _ hz).trans ?_, (bc _ _ hz').trans ?_, (bc _ _ hz').trans ?_, (bc _ _ hz'').trans ?_, (bc _ _ hz'').trans ?_⟩, ⟨(bf _ _ hz'').trans ?_, (bf _ _ hz'').trans ?_⟩, by omega, by omega, by omega⟩ <;> simp [go_sem]

theorem set2alloc {w : World} {k : Nat} {a b c d : Value} {o : Obj} (h : k < w.heap.size) (h0 : w.cell? ⟨k, 0, none⟩ = some c) (h1 : w.cell? ⟨k, 1, none⟩ = some d) :
    (((w.setCell ⟨k, 0, none⟩ a).setCell ⟨k, 1, none⟩ b).alloc o).cell? ⟨k, 0, none⟩ = some a ∧ (((w.setCell ⟨k, 0, none⟩ a).setCell ⟨k, 1, none⟩ b).alloc o).cell? ⟨k, 1, none⟩ = some b := by
  constructor <;> rw [World.cell?_alloc_lt _ _ _ (by simpa [World.setCell] using h)] <;> simp [go_sem, h0, h1]

/-- A block of two cells that is there. -/
def At2 (w : World) (B : Nat) (p q : Value) : Prop := w.cell? ⟨B, 0, none⟩ = some p ∧ w.cell? ⟨B, 1, none⟩ = some q ∧ B < w.heap.size
theorem At2.new (w : World) (p q : Value) (t : TypeId) : At2 (w.alloc (.cells #[p, q] t)) w.heap.size p q := by refine ⟨?_, ?_, ?_⟩ <;> simp [go_sem]
theorem At2.below {w w1 : World} {B : Nat} {p q : Value} (h : At2 w B p q) (hb : Below w.heap.size w w1) : At2 w1 B p q := by
  obtain ⟨h1, h2, h3⟩ := h
  obtain ⟨bc, bf⟩ := bcell hb
  exact ⟨(bc _ _ h3).trans h1, (bc _ _ h3).trans h2, Nat.lt_of_lt_of_le h3 hb.size⟩
theorem At2.alloc {w : World} {B : Nat} {p q : Value} (h : At2 w B p q) (o : Obj) : At2 (w.alloc o) B p q := h.below (below1 _ _)
theorem At2.drew {w : World} {B : Nat} {p q : Value} (h : At2 w B p q) : At2 w.drew B p q := h.below (Below.refl _ _).drew

end Go.Proofs.Ytadbelkckeokjaa
