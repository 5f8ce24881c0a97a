/-
  What layer 10's own 'refDo' (the document's answer, of both queues) answers, for whatever queues. The condition: at most 1000 things in each.
-/
import Derived.Test.YtjljjbfeefcnkaaLanD
import Derived.Test.YtjljjbfeefcnkaaRefIb
import Derived.Deep.DeepCutAuto
namespace Go.Proofs.Ytjljjbfeefcnkaa
open Go.RowKit
set_option linter.unusedSimpArgs false
set_option linter.unusedVariables false

/-- A block of four cells that is there and may be written. -/
structure Ow4 (w : World) (B : Nat) (p q r s : Value) : Prop where
  c0 : w.cell? ⟨B, 0, none⟩ = some p
  c1 : w.cell? ⟨B, 1, none⟩ = some q
  c2 : w.cell? ⟨B, 2, none⟩ = some r
  c3 : w.cell? ⟨B, 3, none⟩ = some s
  z0 : w.frozen? ⟨B, 0, none⟩ = false
  z1 : w.frozen? ⟨B, 1, none⟩ = false
  z2 : w.frozen? ⟨B, 2, none⟩ = false
  z3 : w.frozen? ⟨B, 3, none⟩ = false
  lt : B < w.heap.size
theorem Ow4.new (w : World) (p q r s : Value) (t : TypeId) : Ow4 (w.alloc (.cells #[p, q, r, s] t)) w.heap.size p q r s := by
  have hn := heap_alloc_new w (.cells #[p, q, r, s] t)
  refine ⟨?_, ?_, ?_, ?_, ?_, ?_, ?_, ?_, by simp⟩ <;> first | (unfold World.cell?; rw [hn]; rfl) | (unfold World.frozen?; rw [hn]; rfl)
theorem Ow4.turn {F : Nat → Prop} {w w' : World} {B : Nat} {p q r s : Value} (h : Ow4 w B p q r s) (t : Turn F w w') (hn : ¬ F B) : Ow4 w' B p q r s :=
  ⟨(t.cell (a := ⟨B, 0, none⟩) h.lt hn).trans h.c0, (t.cell (a := ⟨B, 1, none⟩) h.lt hn).trans h.c1, (t.cell (a := ⟨B, 2, none⟩) h.lt hn).trans h.c2, (t.cell (a := ⟨B, 3, none⟩) h.lt hn).trans h.c3,
   (t.frozen (a := ⟨B, 0, none⟩) h.lt hn).trans h.z0, (t.frozen (a := ⟨B, 1, none⟩) h.lt hn).trans h.z1, (t.frozen (a := ⟨B, 2, none⟩) h.lt hn).trans h.z2, (t.frozen (a := ⟨B, 3, none⟩) h.lt hn).trans h.z3, Nat.lt_of_lt_of_le h.lt t.size⟩
theorem Ow4.below {w w' : World} {B : Nat} {p q r s : Value} (h : Ow4 w B p q r s) (hb : Below w.heap.size w w') : Ow4 w' B p q r s := h.turn (Turn.of_below (F := fun _ => False) hb) (fun q => q)
theorem Ow4.drew {w : World} {B : Nat} {p q r s : Value} (h : Ow4 w B p q r s) : Ow4 w.drew B p q r s := h.below (Below.refl _ _).drew
/-- It is laid anew. -/
theorem Ow4.put {w : World} {B : Nat} {p q r s p' q' r' s' : Value} (h : Ow4 w B p q r s) : Ow4 ((((w.setCell ⟨B, 0, none⟩ p').setCell ⟨B, 1, none⟩ q').setCell ⟨B, 2, none⟩ r').setCell ⟨B, 3, none⟩ s') B p' q' r' s' := by
  have hne : ∀ i j, i ≠ j → (⟨B, i, none⟩ : Addr) ≠ ⟨B, j, none⟩ := fun i j hi q => hi (by cases q; rfl)
  have o : ∀ (w : World) (i j : Nat) (u : Value), i ≠ j → (w.setCell ⟨B, i, none⟩ u).cell? ⟨B, j, none⟩ = w.cell? ⟨B, j, none⟩ := fun w i j u q => World.cell?_setCell_other _ _ _ _ (hne i j q)
  refine ⟨?_, ?_, ?_, ?_, ?_, ?_, ?_, ?_, by simpa [World.setCell] using h.lt⟩
  · rw [o _ 3 0 _ (by decide), o _ 2 0 _ (by decide), o _ 1 0 _ (by decide)]; exact World.cell?_setCell_same _ _ _ h.c0
  · rw [o _ 3 1 _ (by decide), o _ 2 1 _ (by decide)]; exact World.cell?_setCell_same _ _ _ ((o _ 0 1 _ (by decide)).trans h.c1)
  · rw [o _ 3 2 _ (by decide)]; exact World.cell?_setCell_same _ _ _ ((o _ 1 2 _ (by decide)).trans ((o _ 0 2 _ (by decide)).trans h.c2))
  · exact World.cell?_setCell_same _ _ _ ((o _ 2 3 _ (by decide)).trans ((o _ 1 3 _ (by decide)).trans ((o _ 0 3 _ (by decide)).trans h.c3)))
  · simpa [World.frozen?_setCell] using h.z0
  · simpa [World.frozen?_setCell] using h.z1
  · simpa [World.frozen?_setCell] using h.z2
  · simpa [World.frozen?_setCell] using h.z3
theorem turn_set4 {F : Nat → Prop} {w w1 : World} (h : Turn F w w1) {k : Nat} (hk : F k ∨ w.heap.size ≤ k) (a b c d : Value) : Turn F w ((((w1.setCell ⟨k, 0, none⟩ a).setCell ⟨k, 1, none⟩ b).setCell ⟨k, 2, none⟩ c).setCell ⟨k, 3, none⟩ d) :=
  turn_set (turn_set (turn_set (turn_set h hk a) hk b) hk c) hk d
theorem Ow4.alloc {w : World} {B : Nat} {p q r s : Value} (h : Ow4 w B p q r s) (o : Obj) : Ow4 (w.alloc o) B p q r s := h.below (below1 _ _)
/-- A slice of numbers that lies where it may. -/
def SlG (G : Nat → Prop) (w : World) (u : Value) (L : List Int) : Prop := Sl w u L ∧ ∀ b, u.ownBlock = some b → b < w.heap.size ∧ G b
theorem SlG.turn {G F : Nat → Prop} {w w' : World} {u : Value} {L : List Int} (h : SlG G w u L) (t : Turn F w w') (hd : ∀ b, G b → ¬ F b) : SlG G w' u L := by
  obtain ⟨⟨a, cap, rfl, h2, h3, h4, h5⟩, ho⟩ := h
  refine ⟨⟨a, cap, rfl, h2, h3, h4, fun i hi => ?_⟩, fun b hb => ⟨Nat.lt_of_lt_of_le (ho b hb).1 t.size, (ho b hb).2⟩⟩
  obtain ⟨b, off, rfl, hc⟩ := h5 i hi
  exact ⟨b, off, rfl, (t.cell (a := ⟨b, off + i, none⟩) (ho b rfl).1 (hd b (ho b rfl).2)).trans hc⟩
theorem SlG.below {G : Nat → Prop} {w w' : World} {u : Value} {L : List Int} (h : SlG G w u L) (hb : Below w.heap.size w w') : SlG G w' u L := ⟨h.1.below hb, fun b q => ⟨Nat.lt_of_lt_of_le (h.2 b q).1 hb.size, (h.2 b q).2⟩⟩
theorem SlG.mono {G G' : Nat → Prop} {w : World} {u : Value} {L : List Int} (h : SlG G w u L) (hG : ∀ b, b < w.heap.size → G b → G' b) : SlG G' w u L := ⟨h.1, fun b q => ⟨(h.2 b q).1, hG b (h.2 b q).1 (h.2 b q).2⟩⟩
theorem SlG.tab {G : Nat → Prop} {w : World} {u : Value} {L : List Int} (h : SlG G w u L) (m : Int) : TabG G w (.agg #[u, .int .i64 m]) L m := ⟨u, rfl, h.1, h.2⟩
theorem SlG.of {G : Nat → Prop} {w : World} {u : Value} {L : List Int} {m : Int} (h : TabG G w (.agg #[u, .int .i64 m]) L m) : SlG G w u L := by
  obtain ⟨u', e, h1, h2⟩ := h
  obtain rfl : u = u' := by simpa using e
  exact ⟨h1, h2⟩
/-- Two queues of the document's, in one value. -/
def Both10 (G : Nat → Prop) (w : World) (v : Value) (L M : List Int) (m n : Int) : Prop := ∃ u0 u1, v = .agg #[u0, .int .i64 m, u1, .int .i64 n] ∧ SlG G w u0 L ∧ SlG G w u1 M
theorem isE_tail (L : List Int) : L.drop 1 = L.tail := by cases L <;> rfl
theorem isE_there (L : List Int) : (!L.isEmpty) = decide (0 < L.length) := by cases L <;> simp
theorem ei_first {L M : List Int} (h : L ≠ []) : eiv L M = L.headD 0 ∧ eib L M = decide (0 < L.length) ∧ eiL L = L.tail ∧ eiM L M = M := by cases L <;> simp_all [eiv, eib, eiL, eiM]
theorem ei_other {L M : List Int} (h : L = []) : eiv L M = M.headD 0 ∧ eib L M = decide (0 < M.length) ∧ eiL L = L ∧ eiM L M = M.tail := by subst h; simp [eiv, eib, eiL, eiM]

/-- What is told at the end: the new row, and the other one, behind the stores into the call's own blocks. -/
theorem fin_new {G : Nat → Prop} {w5 wz : World} {X0 N : Nat} {u : Value} {L : List Int} {m : Int} (h : TabG (fun b => (b < X0 ∧ G b) ∨ N ≤ b) w5 (.agg #[u, .int .i64 m]) L m) (hN : X0 + 4 ≤ N) (t : Turn (fun j => X0 ≤ j ∧ j < X0 + 4) w5 wz) : SlG (fun b => G b ∨ X0 ≤ b) wz u L :=
  ((SlG.of h).turn t (fun b q r => by rcases q with q | q <;> omega)).mono (fun b _ q => q.imp And.right (fun q => by omega))
theorem fin_same {G : Nat → Prop} {w5 wz : World} {X0 : Nat} {u : Value} {L : List Int} (h : SlG (fun b => b < X0 ∧ G b) w5 u L) (t : Turn (fun j => X0 ≤ j ∧ j < X0 + 4) w5 wz) : SlG (fun b => G b ∨ X0 ≤ b) wz u L :=
  (h.turn t (fun b q r => by omega)).mono (fun b _ q => Or.inl q.2)

set_option maxHeartbeats 4000000 in
theorem ref10do (G : Nat → Prop) (d x m n : Int) (u0 u1 : Value) (L M : List Int) (w : World) (h0 : SlG G w u0 L) (h1 : SlG G w u1 M) (hx : InR x) (hl : L.length ≤ 900000000) (hm : M.length ≤ 900000000) :
    Calls Try.prog 10 #[.agg #[u0, .int .i64 m, u1, .int .i64 n], .agg #[.int .i64 d, .int .i64 x]] w fun e w' => ∃ v0 v1, e = .returned (.tuple #[.agg #[v0, .int .i64 m, v1, .int .i64 n], .int .i64 (laX d L M), .int .i64 (laE d m n L M), .bool (laB d L M)]) ∧
      SlG (fun b => G b ∨ w.heap.size ≤ b) w' v0 (laL d m x L) ∧ SlG (fun b => G b ∨ w.heap.size ≤ b) w' v1 (laM d n x L M) ∧ Below w.heap.size w w' := by
  obtain ⟨a0, c0, rfl⟩ := h0.1.form
  obtain ⟨a1, c1, rfl⟩ := h1.1.form
  obtain ⟨W3, hW3⟩ : ∃ W3, W3 = ((w.alloc (.cells #[.slice a0 L.length c0, .int .i64 m, .slice a1 M.length c1, .int .i64 n] 34)).alloc (.cells #[.int .i64 d, .int .i64 x] 38)).alloc (.cells #[.slice none 0 0, .int .i64 0, .slice none 0 0, .int .i64 0] 34) := ⟨_, rfl⟩
  have hs3 : W3.heap.size = w.heap.size + 3 := by rw [hW3]; simp
  have hb3 : Below w.heap.size w W3 := by rw [hW3]; exact ((below1 w _).alloc (by simp) _).alloc (by simp; omega) _
  have l3 : Ow4 W3 w.heap.size (.slice a0 L.length c0) (.int .i64 m) (.slice a1 M.length c1) (.int .i64 n) := by rw [hW3]; exact ((Ow4.new w _ _ _ _ _).alloc _).alloc _
  have y3 : Ow2 W3 (w.heap.size + 1) (.int .i64 d) (.int .i64 x) := by
    rw [hW3]
    have := (Ow2.new (w.alloc (.cells #[.slice a0 L.length c0, .int .i64 m, .slice a1 M.length c1, .int .i64 n] 34)) (.int .i64 d) (.int .i64 x) 38).alloc (.cells #[.slice none 0 0, .int .i64 0, .slice none 0 0, .int .i64 0] 34)
    simpa using this
  have o3 : Ow4 W3 (w.heap.size + 1 + 1) (.slice none 0 0) (.int .i64 0) (.slice none 0 0) (.int .i64 0) := by
    rw [hW3]
    have := Ow4.new ((w.alloc (.cells #[.slice a0 L.length c0, .int .i64 m, .slice a1 M.length c1, .int .i64 n] 34)).alloc (.cells #[.int .i64 d, .int .i64 x] 38)) (.slice none 0 0) (.int .i64 0) (.slice none 0 0) (.int .i64 0) 34
    simpa using this
  have g0 : SlG (fun b => b < w.heap.size ∧ G b) W3 (.slice a0 L.length c0) L := (h0.mono (G' := fun b => b < w.heap.size ∧ G b) (fun b q r => ⟨q, r⟩)).below hb3
  have g1 : SlG (fun b => b < w.heap.size ∧ G b) W3 (.slice a1 M.length c1) M := (h1.mono (G' := fun b => b < w.heap.size ∧ G b) (fun b q r => ⟨q, r⟩)).below hb3
  have HB := Lib.hid hb3; have H0 := Lib.hid g0; have H1 := Lib.hid g1; have HO := Lib.hid o3; have HL := Lib.hid l3; have HY := Lib.hid y3
  have HXX := Lib.hid hx; have HLL := Lib.hid hl; have HMM := Lib.hid hm; have HS := Lib.hid hs3
  clear h0 h1 hb3 g0 g1 hx hl hm
  obtain ⟨x0, x1, x2, x3, _, _, _, _, _⟩ := l3
  obtain ⟨⟨y0, y1, _⟩, _, _⟩ := y3
  unfold laX laE laB laL laM
  by_cases h00 : d = 0
  · subst h00
    simp only [if_true]
    go_enter Try.func10, Try.ntmps10
    go_upto_region 3 with fail
    rw [← hW3]
    clear hW3
    generalize e2 : w.heap.size + 1 + 1 = X2 at *
    generalize e1 : w.heap.size + 1 = X1 at *
    have HX := Lib.hid (show X1 = w.heap.size + 1 ∧ X2 = w.heap.size + 2 by omega)
    generalize e0 : w.heap.size = X0 at *
    have HX0 := Lib.hid e0
    clear e0 e1 e2
    obtain ⟨⟨z0, z1, _⟩, _, _⟩ := HY.out.alloc (.cells #[.slice a0 L.length c0, .int .i64 m] 31)
    go_wp2_with fail
    have q4 : Hid (Ow2 (W3.alloc (.cells #[.slice a0 L.length c0, .int .i64 m] 31)) (X0 + 3) (.slice a0 L.length c0) (.int .i64 m)) := by have := Ow2.new W3 (.slice a0 L.length c0) (.int .i64 m) 31; rw [HS.out] at this; exact this
    have n1 : ¬ X0 = X2 := by have := HX.out; omega
    have n2 : ¬ X2 = X0 := by have := HX.out; omega
    have n3 : ¬ X2 = X0 + 3 := by have := HX.out; omega
    have n4 : ¬ X0 + 3 = X2 := by have := HX.out; omega
    refine (r10put (fun b => b < X0 ∧ G b) _ L m x _ ((H0.out.below (below1 _ _)).tab m) HXX.out HLL.out).mono ?_; rintro e w5 ⟨u, rfl, hu, hb5⟩
    have L5 := (HL.out.below (below1 _ _)).below hb5; have Q5 := q4.out.below hb5; have O5 := (HO.out.below (below1 _ _)).below hb5; have HH := Lib.hid hu; have HB5 := Lib.hid hb5
    obtain ⟨b1, b2, rfl⟩ := hu.tab.form
    clear x0 x1 x2 x3 y0 y1 z0 z1 hu hb5 q4
    obtain ⟨x0, x1, x2, x3, x4, x5, x6, x7, _⟩ := L5; obtain ⟨⟨y0, y1, _⟩, y2, y3⟩ := Q5; obtain ⟨o0, o1, o2, o3, o4, o5, o6, o7, _⟩ := O5
    go_wp2_with fail
    have T5 : ∀ (v0 v1 v2 v3 v4 v5 v6 v7 : Value), Turn (fun j => X0 ≤ j ∧ j < X0 + 4) w5 ((((((((w5.setCell ⟨X0 + 3, 0, none⟩ v0).setCell ⟨X0 + 3, 1, none⟩ v1).setCell ⟨X0, 0, none⟩ v2).setCell ⟨X0, 1, none⟩ v3).setCell ⟨X2, 0, none⟩ v4).setCell ⟨X2, 1, none⟩ v5).setCell ⟨X2, 2, none⟩ v6).setCell ⟨X2, 3, none⟩ v7) := fun v0 v1 v2 v3 v4 v5 v6 v7 => by
      have := HX.out
      refine turn_set (turn_set (turn_set (turn_set (turn_set (turn_set (turn_set (turn_set (Turn.refl _ _) (Or.inl ?_) v0) (Or.inl ?_) v1) (Or.inl ?_) v2) (Or.inl ?_) v3) (Or.inl ?_) v4) (Or.inl ?_) v5) (Or.inl ?_) v6) (Or.inl ?_) v7 <;> constructor <;> (dsimp only; omega)
    have hb6 : Below X0 W3 w5 := ((below1 W3 _).mono (by have := HS.out; omega)).trans (HB5.out.mono (by have := HS.out; simp; omega))
    have HT := Lib.hid T5
    refine bodyPost_ret (v := .tuple #[.agg #[.slice b1 (qputK L m x).length b2, .int .i64 m, .slice a1 M.length c1, .int .i64 n], .int .i64 0, .int .i64 (qputE L m), .bool false]) (by simp [results, Try.results10, go_sem, o0, o1, o2, o3, n1, n2, n3, n4]) rfl ⟨_, _, rfl, ?_, ?_, ?_⟩
    · rw [HX0.out]; exact fin_new HH.out (by have := HS.out; simp; omega) (HT.out _ _ _ _ _ _ _ _)
    · rw [HX0.out]; exact fin_same ((H1.out.below (below1 _ _)).below HB5.out) (HT.out _ _ _ _ _ _ _ _)
    · rw [HX0.out]; exact (HB.out.trans hb6).trans ((HT.out _ _ _ _ _ _ _ _).below (fun j q => q.1) (by have := hb6.size; have := HS.out; omega))
  by_cases h01 : d = 1
  · subst h01
    simp only [if_true, if_neg h00]
    clear h00
    go_enter Try.func10, Try.ntmps10
    go_upto_region 3 with fail
    rw [← hW3]
    clear hW3
    generalize e2 : w.heap.size + 1 + 1 = X2 at *
    generalize e1 : w.heap.size + 1 = X1 at *
    have HX := Lib.hid (show X1 = w.heap.size + 1 ∧ X2 = w.heap.size + 2 by omega)
    generalize e0 : w.heap.size = X0 at *
    have HX0 := Lib.hid e0
    clear e0 e1 e2
    obtain ⟨⟨z0, z1, _⟩, _, _⟩ := HY.out.alloc (.cells #[.slice a1 M.length c1, .int .i64 n] 31)
    go_wp2_with fail
    have q4 : Hid (Ow2 (W3.alloc (.cells #[.slice a1 M.length c1, .int .i64 n] 31)) (X0 + 3) (.slice a1 M.length c1) (.int .i64 n)) := by have := Ow2.new W3 (.slice a1 M.length c1) (.int .i64 n) 31; rw [HS.out] at this; exact this
    have n1 : ¬ X0 = X2 := by have := HX.out; omega
    have n2 : ¬ X2 = X0 := by have := HX.out; omega
    have n3 : ¬ X2 = X0 + 3 := by have := HX.out; omega
    have n4 : ¬ X0 + 3 = X2 := by have := HX.out; omega
    refine (r10put (fun b => b < X0 ∧ G b) _ M n x _ ((H1.out.below (below1 _ _)).tab n) HXX.out HMM.out).mono ?_; rintro e w5 ⟨u, rfl, hu, hb5⟩
    have L5 := (HL.out.below (below1 _ _)).below hb5; have Q5 := q4.out.below hb5; have O5 := (HO.out.below (below1 _ _)).below hb5; have HH := Lib.hid hu; have HB5 := Lib.hid hb5
    obtain ⟨b1, b2, rfl⟩ := hu.tab.form
    clear x0 x1 x2 x3 y0 y1 z0 z1 hu hb5 q4
    obtain ⟨x0, x1, x2, x3, x4, x5, x6, x7, _⟩ := L5; obtain ⟨⟨y0, y1, _⟩, y2, y3⟩ := Q5; obtain ⟨o0, o1, o2, o3, o4, o5, o6, o7, _⟩ := O5
    go_wp2_with fail
    have T5 : ∀ (v0 v1 v2 v3 v4 v5 v6 v7 : Value), Turn (fun j => X0 ≤ j ∧ j < X0 + 4) w5 ((((((((w5.setCell ⟨X0 + 3, 0, none⟩ v0).setCell ⟨X0 + 3, 1, none⟩ v1).setCell ⟨X0, 2, none⟩ v2).setCell ⟨X0, 3, none⟩ v3).setCell ⟨X2, 0, none⟩ v4).setCell ⟨X2, 1, none⟩ v5).setCell ⟨X2, 2, none⟩ v6).setCell ⟨X2, 3, none⟩ v7) := fun v0 v1 v2 v3 v4 v5 v6 v7 => by
      have := HX.out
      refine turn_set (turn_set (turn_set (turn_set (turn_set (turn_set (turn_set (turn_set (Turn.refl _ _) (Or.inl ?_) v0) (Or.inl ?_) v1) (Or.inl ?_) v2) (Or.inl ?_) v3) (Or.inl ?_) v4) (Or.inl ?_) v5) (Or.inl ?_) v6) (Or.inl ?_) v7 <;> constructor <;> (dsimp only; omega)
    have hb6 : Below X0 W3 w5 := ((below1 W3 _).mono (by have := HS.out; omega)).trans (HB5.out.mono (by have := HS.out; simp; omega))
    have HT := Lib.hid T5
    refine bodyPost_ret (v := .tuple #[.agg #[.slice a0 L.length c0, .int .i64 m, .slice b1 (qputK M n x).length b2, .int .i64 n], .int .i64 0, .int .i64 (qputE M n), .bool false]) (by simp [results, Try.results10, go_sem, o0, o1, o2, o3, n1, n2, n3, n4]) rfl ⟨_, _, rfl, ?_, ?_, ?_⟩
    · rw [HX0.out]; exact fin_same ((H0.out.below (below1 _ _)).below HB5.out) (HT.out _ _ _ _ _ _ _ _)
    · rw [HX0.out]; exact fin_new HH.out (by have := HS.out; simp; omega) (HT.out _ _ _ _ _ _ _ _)
    · rw [HX0.out]; exact (HB.out.trans hb6).trans ((HT.out _ _ _ _ _ _ _ _).below (fun j q => q.1) (by have := hb6.size; have := HS.out; omega))
  by_cases h02 : d = 2
  · subst h02
    simp only [if_true, if_neg h00, if_neg h01]
    clear h00 h01
    have hc : ∀ (X : Nat) (wz : World), TabG (fun b => b < X ∧ G b) wz (.agg #[.slice a0 L.length c0, .int .i64 m]) L m → _ := fun X wz h => r10take (fun b => b < X ∧ G b) _ L m wz h
    simp only [isE_there, isE_tail] at hc
    generalize L.headD 0 = z at hc ⊢
    have HC := Lib.hid hc; clear hc
    go_enter Try.func10, Try.ntmps10
    go_upto_region 3 with fail
    rw [← hW3]
    clear hW3
    generalize e2 : w.heap.size + 1 + 1 = X2 at *
    generalize e1 : w.heap.size + 1 = X1 at *
    have HX := Lib.hid (show X1 = w.heap.size + 1 ∧ X2 = w.heap.size + 2 by omega)
    generalize e0 : w.heap.size = X0 at *
    have HX0 := Lib.hid e0
    clear e0 e1 e2
    obtain ⟨⟨z0, z1, _⟩, _, _⟩ := HY.out.alloc (.cells #[.slice a0 L.length c0, .int .i64 m] 31)
    go_wp2_with fail
    have q4 : Hid (Ow2 (W3.alloc (.cells #[.slice a0 L.length c0, .int .i64 m] 31)) (X0 + 3) (.slice a0 L.length c0) (.int .i64 m)) := by have := Ow2.new W3 (.slice a0 L.length c0) (.int .i64 m) 31; rw [HS.out] at this; exact this
    have n1 : ¬ X0 = X2 := by have := HX.out; omega
    have n2 : ¬ X2 = X0 := by have := HX.out; omega
    have n3 : ¬ X2 = X0 + 3 := by have := HX.out; omega
    have n4 : ¬ X0 + 3 = X2 := by have := HX.out; omega
    refine (HC.out X0 _ ((H0.out.below (below1 _ _)).tab m)).mono ?_; rintro e w5 ⟨u, rfl, hu, hb5⟩
    have L5 := (HL.out.below (below1 _ _)).below hb5; have Q5 := q4.out.below hb5; have O5 := (HO.out.below (below1 _ _)).below hb5; have HH := Lib.hid hu; have HB5 := Lib.hid hb5
    obtain ⟨b1, b2, rfl⟩ := hu.tab.form
    clear x0 x1 x2 x3 y0 y1 z0 z1 hu hb5 q4
    obtain ⟨x0, x1, x2, x3, x4, x5, x6, x7, _⟩ := L5; obtain ⟨⟨y0, y1, _⟩, y2, y3⟩ := Q5; obtain ⟨o0, o1, o2, o3, o4, o5, o6, o7, _⟩ := O5
    go_wp2_with fail
    have T5 : ∀ (v0 v1 v2 v3 v4 v5 v6 v7 : Value), Turn (fun j => X0 ≤ j ∧ j < X0 + 4) w5 ((((((((w5.setCell ⟨X0 + 3, 0, none⟩ v0).setCell ⟨X0 + 3, 1, none⟩ v1).setCell ⟨X0, 0, none⟩ v2).setCell ⟨X0, 1, none⟩ v3).setCell ⟨X2, 0, none⟩ v4).setCell ⟨X2, 1, none⟩ v5).setCell ⟨X2, 2, none⟩ v6).setCell ⟨X2, 3, none⟩ v7) := fun v0 v1 v2 v3 v4 v5 v6 v7 => by
      have := HX.out
      refine turn_set (turn_set (turn_set (turn_set (turn_set (turn_set (turn_set (turn_set (Turn.refl _ _) (Or.inl ?_) v0) (Or.inl ?_) v1) (Or.inl ?_) v2) (Or.inl ?_) v3) (Or.inl ?_) v4) (Or.inl ?_) v5) (Or.inl ?_) v6) (Or.inl ?_) v7 <;> constructor <;> (dsimp only; omega)
    have hb6 : Below X0 W3 w5 := ((below1 W3 _).mono (by have := HS.out; omega)).trans (HB5.out.mono (by have := HS.out; simp; omega))
    have HT := Lib.hid T5
    refine bodyPost_ret (v := .tuple #[.agg #[.slice b1 L.tail.length b2, .int .i64 m, .slice a1 M.length c1, .int .i64 n], .int .i64 z, .int .i64 0, .bool (decide (0 < L.length))]) (by simp [results, Try.results10, go_sem, o0, o1, o2, o3, n1, n2, n3, n4]) rfl ⟨_, _, rfl, ?_, ?_, ?_⟩
    · rw [HX0.out]; exact fin_same (SlG.of HH.out) (HT.out _ _ _ _ _ _ _ _)
    · rw [HX0.out]; exact fin_same ((H1.out.below (below1 _ _)).below HB5.out) (HT.out _ _ _ _ _ _ _ _)
    · rw [HX0.out]; exact (HB.out.trans hb6).trans ((HT.out _ _ _ _ _ _ _ _).below (fun j q => q.1) (by have := hb6.size; have := HS.out; omega))
  by_cases h03 : d = 3
  · subst h03
    simp only [if_true, if_neg h00, if_neg h01, if_neg h02]
    clear h00 h01 h02
    have hc : ∀ (X : Nat) (wz : World), TabG (fun b => b < X ∧ G b) wz (.agg #[.slice a1 M.length c1, .int .i64 n]) M n → _ := fun X wz h => r10take (fun b => b < X ∧ G b) _ M n wz h
    simp only [isE_there, isE_tail] at hc
    generalize M.headD 0 = z at hc ⊢
    have HC := Lib.hid hc; clear hc
    go_enter Try.func10, Try.ntmps10
    go_upto_region 3 with fail
    rw [← hW3]
    clear hW3
    generalize e2 : w.heap.size + 1 + 1 = X2 at *
    generalize e1 : w.heap.size + 1 = X1 at *
    have HX := Lib.hid (show X1 = w.heap.size + 1 ∧ X2 = w.heap.size + 2 by omega)
    generalize e0 : w.heap.size = X0 at *
    have HX0 := Lib.hid e0
    clear e0 e1 e2
    obtain ⟨⟨z0, z1, _⟩, _, _⟩ := HY.out.alloc (.cells #[.slice a1 M.length c1, .int .i64 n] 31)
    go_wp2_with fail
    have q4 : Hid (Ow2 (W3.alloc (.cells #[.slice a1 M.length c1, .int .i64 n] 31)) (X0 + 3) (.slice a1 M.length c1) (.int .i64 n)) := by have := Ow2.new W3 (.slice a1 M.length c1) (.int .i64 n) 31; rw [HS.out] at this; exact this
    have n1 : ¬ X0 = X2 := by have := HX.out; omega
    have n2 : ¬ X2 = X0 := by have := HX.out; omega
    have n3 : ¬ X2 = X0 + 3 := by have := HX.out; omega
    have n4 : ¬ X0 + 3 = X2 := by have := HX.out; omega
    refine (HC.out X0 _ ((H1.out.below (below1 _ _)).tab n)).mono ?_; rintro e w5 ⟨u, rfl, hu, hb5⟩
    have L5 := (HL.out.below (below1 _ _)).below hb5; have Q5 := q4.out.below hb5; have O5 := (HO.out.below (below1 _ _)).below hb5; have HH := Lib.hid hu; have HB5 := Lib.hid hb5
    obtain ⟨b1, b2, rfl⟩ := hu.tab.form
    clear x0 x1 x2 x3 y0 y1 z0 z1 hu hb5 q4
    obtain ⟨x0, x1, x2, x3, x4, x5, x6, x7, _⟩ := L5; obtain ⟨⟨y0, y1, _⟩, y2, y3⟩ := Q5; obtain ⟨o0, o1, o2, o3, o4, o5, o6, o7, _⟩ := O5
    go_wp2_with fail
    have T5 : ∀ (v0 v1 v2 v3 v4 v5 v6 v7 : Value), Turn (fun j => X0 ≤ j ∧ j < X0 + 4) w5 ((((((((w5.setCell ⟨X0 + 3, 0, none⟩ v0).setCell ⟨X0 + 3, 1, none⟩ v1).setCell ⟨X0, 2, none⟩ v2).setCell ⟨X0, 3, none⟩ v3).setCell ⟨X2, 0, none⟩ v4).setCell ⟨X2, 1, none⟩ v5).setCell ⟨X2, 2, none⟩ v6).setCell ⟨X2, 3, none⟩ v7) := fun v0 v1 v2 v3 v4 v5 v6 v7 => by
      have := HX.out
      refine turn_set (turn_set (turn_set (turn_set (turn_set (turn_set (turn_set (turn_set (Turn.refl _ _) (Or.inl ?_) v0) (Or.inl ?_) v1) (Or.inl ?_) v2) (Or.inl ?_) v3) (Or.inl ?_) v4) (Or.inl ?_) v5) (Or.inl ?_) v6) (Or.inl ?_) v7 <;> constructor <;> (dsimp only; omega)
    have hb6 : Below X0 W3 w5 := ((below1 W3 _).mono (by have := HS.out; omega)).trans (HB5.out.mono (by have := HS.out; simp; omega))
    have HT := Lib.hid T5
    refine bodyPost_ret (v := .tuple #[.agg #[.slice a0 L.length c0, .int .i64 m, .slice b1 M.tail.length b2, .int .i64 n], .int .i64 z, .int .i64 0, .bool (decide (0 < M.length))]) (by simp [results, Try.results10, go_sem, o0, o1, o2, o3, n1, n2, n3, n4]) rfl ⟨_, _, rfl, ?_, ?_, ?_⟩
    · rw [HX0.out]; exact fin_same ((H0.out.below (below1 _ _)).below HB5.out) (HT.out _ _ _ _ _ _ _ _)
    · rw [HX0.out]; exact fin_same (SlG.of HH.out) (HT.out _ _ _ _ _ _ _ _)
    · rw [HX0.out]; exact (HB.out.trans hb6).trans ((HT.out _ _ _ _ _ _ _ _).below (fun j q => q.1) (by have := hb6.size; have := HS.out; omega))
  simp only [if_neg h00, if_neg h01, if_neg h02, if_neg h03]
  have q0 : (d == 0) = false := by simpa using h00
  have q1 : (d == 1) = false := by simpa using h01
  have q2 : (d == 2) = false := by simpa using h02
  have q3 : (d == 3) = false := by simpa using h03
  have hd : d < 0 ∨ 3 < d := by omega
  clear h00 h01 h02 h03
  by_cases hL : L = []
  · have q7 : ((L.length : Int) == 0) = true := by simpa using hL
    simp only [(ei_other (M := M) hL).1, (ei_other (M := M) hL).2.1, (ei_other (M := M) hL).2.2.1, (ei_other (M := M) hL).2.2.2]
    clear hL
    by_cases hn : d < 0
    · have q5 : decide (d < 0) = true := decide_eq_true hn
      clear hd hn
      have hc : ∀ (X : Nat) (wz : World), TabG (fun b => b < X ∧ G b) wz (.agg #[.slice a1 M.length c1, .int .i64 n]) M n → _ := fun X wz h => r10take (fun b => b < X ∧ G b) _ M n wz h
      simp only [isE_there, isE_tail] at hc
      generalize M.headD 0 = z at hc ⊢
      have HC := Lib.hid hc; clear hc
      go_enter Try.func10, Try.ntmps10
      go_upto_region 3 with fail
      rw [← hW3]
      clear hW3
      generalize e2 : w.heap.size + 1 + 1 = X2 at *
      generalize e1 : w.heap.size + 1 = X1 at *
      have HX := Lib.hid (show X1 = w.heap.size + 1 ∧ X2 = w.heap.size + 2 by omega)
      generalize e0 : w.heap.size = X0 at *
      have HX0 := Lib.hid e0
      clear e0 e1 e2
      obtain ⟨⟨z0, z1, _⟩, _, _⟩ := HY.out.alloc (.cells #[.slice a1 M.length c1, .int .i64 n] 31)
      go_wp2_with fail
      have q4 : Hid (Ow2 (W3.alloc (.cells #[.slice a1 M.length c1, .int .i64 n] 31)) (X0 + 3) (.slice a1 M.length c1) (.int .i64 n)) := by have := Ow2.new W3 (.slice a1 M.length c1) (.int .i64 n) 31; rw [HS.out] at this; exact this
      have n1 : ¬ X0 = X2 := by have := HX.out; omega
      have n2 : ¬ X2 = X0 := by have := HX.out; omega
      have n3 : ¬ X2 = X0 + 3 := by have := HX.out; omega
      have n4 : ¬ X0 + 3 = X2 := by have := HX.out; omega
      refine (HC.out X0 _ ((H1.out.below (below1 _ _)).tab n)).mono ?_; rintro e w5 ⟨u, rfl, hu, hb5⟩
      have L5 := (HL.out.below (below1 _ _)).below hb5; have Q5 := q4.out.below hb5; have O5 := (HO.out.below (below1 _ _)).below hb5; have HH := Lib.hid hu; have HB5 := Lib.hid hb5
      obtain ⟨b1, b2, rfl⟩ := hu.tab.form
      clear x0 x1 x2 x3 y0 y1 z0 z1 hu hb5 q4
      obtain ⟨x0, x1, x2, x3, x4, x5, x6, x7, _⟩ := L5; obtain ⟨⟨y0, y1, _⟩, y2, y3⟩ := Q5; obtain ⟨o0, o1, o2, o3, o4, o5, o6, o7, _⟩ := O5
      go_wp2_with fail
      have T5 : ∀ (v0 v1 v2 v3 v4 v5 v6 v7 : Value), Turn (fun j => X0 ≤ j ∧ j < X0 + 4) w5 ((((((((w5.setCell ⟨X0 + 3, 0, none⟩ v0).setCell ⟨X0 + 3, 1, none⟩ v1).setCell ⟨X0, 2, none⟩ v2).setCell ⟨X0, 3, none⟩ v3).setCell ⟨X2, 0, none⟩ v4).setCell ⟨X2, 1, none⟩ v5).setCell ⟨X2, 2, none⟩ v6).setCell ⟨X2, 3, none⟩ v7) := fun v0 v1 v2 v3 v4 v5 v6 v7 => by
        have := HX.out
        refine turn_set (turn_set (turn_set (turn_set (turn_set (turn_set (turn_set (turn_set (Turn.refl _ _) (Or.inl ?_) v0) (Or.inl ?_) v1) (Or.inl ?_) v2) (Or.inl ?_) v3) (Or.inl ?_) v4) (Or.inl ?_) v5) (Or.inl ?_) v6) (Or.inl ?_) v7 <;> constructor <;> (dsimp only; omega)
      have hb6 : Below X0 W3 w5 := ((below1 W3 _).mono (by have := HS.out; omega)).trans (HB5.out.mono (by have := HS.out; simp; omega))
      have HT := Lib.hid T5
      refine bodyPost_ret (v := .tuple #[.agg #[.slice a0 L.length c0, .int .i64 m, .slice b1 M.tail.length b2, .int .i64 n], .int .i64 z, .int .i64 0, .bool (decide (0 < M.length))]) (by simp [results, Try.results10, go_sem, o0, o1, o2, o3, n1, n2, n3, n4]) rfl ⟨_, _, rfl, ?_, ?_, ?_⟩
      · rw [HX0.out]; exact fin_same ((H0.out.below (below1 _ _)).below HB5.out) (HT.out _ _ _ _ _ _ _ _)
      · rw [HX0.out]; exact fin_same (SlG.of HH.out) (HT.out _ _ _ _ _ _ _ _)
      · rw [HX0.out]; exact (HB.out.trans hb6).trans ((HT.out _ _ _ _ _ _ _ _).below (fun j q => q.1) (by have := hb6.size; have := HS.out; omega))
    · have q5 : decide (d < 0) = false := decide_eq_false hn
      have q6 : decide (3 < d) = true := decide_eq_true (by omega)
      clear hd hn
      have hc : ∀ (X : Nat) (wz : World), TabG (fun b => b < X ∧ G b) wz (.agg #[.slice a1 M.length c1, .int .i64 n]) M n → _ := fun X wz h => r10take (fun b => b < X ∧ G b) _ M n wz h
      simp only [isE_there, isE_tail] at hc
      generalize M.headD 0 = z at hc ⊢
      have HC := Lib.hid hc; clear hc
      go_enter Try.func10, Try.ntmps10
      go_upto_region 3 with fail
      rw [← hW3]
      clear hW3
      generalize e2 : w.heap.size + 1 + 1 = X2 at *
      generalize e1 : w.heap.size + 1 = X1 at *
      have HX := Lib.hid (show X1 = w.heap.size + 1 ∧ X2 = w.heap.size + 2 by omega)
      generalize e0 : w.heap.size = X0 at *
      have HX0 := Lib.hid e0
      clear e0 e1 e2
      obtain ⟨⟨z0, z1, _⟩, _, _⟩ := HY.out.alloc (.cells #[.slice a1 M.length c1, .int .i64 n] 31)
      go_wp2_with fail
      have q4 : Hid (Ow2 (W3.alloc (.cells #[.slice a1 M.length c1, .int .i64 n] 31)) (X0 + 3) (.slice a1 M.length c1) (.int .i64 n)) := by have := Ow2.new W3 (.slice a1 M.length c1) (.int .i64 n) 31; rw [HS.out] at this; exact this
      have n1 : ¬ X0 = X2 := by have := HX.out; omega
      have n2 : ¬ X2 = X0 := by have := HX.out; omega
      have n3 : ¬ X2 = X0 + 3 := by have := HX.out; omega
      have n4 : ¬ X0 + 3 = X2 := by have := HX.out; omega
      refine (HC.out X0 _ ((H1.out.below (below1 _ _)).tab n)).mono ?_; rintro e w5 ⟨u, rfl, hu, hb5⟩
      have L5 := (HL.out.below (below1 _ _)).below hb5; have Q5 := q4.out.below hb5; have O5 := (HO.out.below (below1 _ _)).below hb5; have HH := Lib.hid hu; have HB5 := Lib.hid hb5
      obtain ⟨b1, b2, rfl⟩ := hu.tab.form
      clear x0 x1 x2 x3 y0 y1 z0 z1 hu hb5 q4
      obtain ⟨x0, x1, x2, x3, x4, x5, x6, x7, _⟩ := L5; obtain ⟨⟨y0, y1, _⟩, y2, y3⟩ := Q5; obtain ⟨o0, o1, o2, o3, o4, o5, o6, o7, _⟩ := O5
      go_wp2_with fail
      have T5 : ∀ (v0 v1 v2 v3 v4 v5 v6 v7 : Value), Turn (fun j => X0 ≤ j ∧ j < X0 + 4) w5 ((((((((w5.setCell ⟨X0 + 3, 0, none⟩ v0).setCell ⟨X0 + 3, 1, none⟩ v1).setCell ⟨X0, 2, none⟩ v2).setCell ⟨X0, 3, none⟩ v3).setCell ⟨X2, 0, none⟩ v4).setCell ⟨X2, 1, none⟩ v5).setCell ⟨X2, 2, none⟩ v6).setCell ⟨X2, 3, none⟩ v7) := fun v0 v1 v2 v3 v4 v5 v6 v7 => by
        have := HX.out
        refine turn_set (turn_set (turn_set (turn_set (turn_set (turn_set (turn_set (turn_set (Turn.refl _ _) (Or.inl ?_) v0) (Or.inl ?_) v1) (Or.inl ?_) v2) (Or.inl ?_) v3) (Or.inl ?_) v4) (Or.inl ?_) v5) (Or.inl ?_) v6) (Or.inl ?_) v7 <;> constructor <;> (dsimp only; omega)
      have hb6 : Below X0 W3 w5 := ((below1 W3 _).mono (by have := HS.out; omega)).trans (HB5.out.mono (by have := HS.out; simp; omega))
      have HT := Lib.hid T5
      refine bodyPost_ret (v := .tuple #[.agg #[.slice a0 L.length c0, .int .i64 m, .slice b1 M.tail.length b2, .int .i64 n], .int .i64 z, .int .i64 0, .bool (decide (0 < M.length))]) (by simp [results, Try.results10, go_sem, o0, o1, o2, o3, n1, n2, n3, n4]) rfl ⟨_, _, rfl, ?_, ?_, ?_⟩
      · rw [HX0.out]; exact fin_same ((H0.out.below (below1 _ _)).below HB5.out) (HT.out _ _ _ _ _ _ _ _)
      · rw [HX0.out]; exact fin_same (SlG.of HH.out) (HT.out _ _ _ _ _ _ _ _)
      · rw [HX0.out]; exact (HB.out.trans hb6).trans ((HT.out _ _ _ _ _ _ _ _).below (fun j q => q.1) (by have := hb6.size; have := HS.out; omega))
  · have q7 : ((L.length : Int) == 0) = false := by simpa using hL
    simp only [(ei_first (M := M) hL).1, (ei_first (M := M) hL).2.1, (ei_first (M := M) hL).2.2.1, (ei_first (M := M) hL).2.2.2]
    by_cases hn : d < 0
    · have q5 : decide (d < 0) = true := decide_eq_true hn
      clear hd hn hL
      have hc : ∀ (X : Nat) (wz : World), TabG (fun b => b < X ∧ G b) wz (.agg #[.slice a0 L.length c0, .int .i64 m]) L m → _ := fun X wz h => r10take (fun b => b < X ∧ G b) _ L m wz h
      simp only [isE_there, isE_tail] at hc
      generalize L.headD 0 = z at hc ⊢
      have HC := Lib.hid hc; clear hc
      go_enter Try.func10, Try.ntmps10
      go_upto_region 3 with fail
      rw [← hW3]
      clear hW3
      generalize e2 : w.heap.size + 1 + 1 = X2 at *
      generalize e1 : w.heap.size + 1 = X1 at *
      have HX := Lib.hid (show X1 = w.heap.size + 1 ∧ X2 = w.heap.size + 2 by omega)
      generalize e0 : w.heap.size = X0 at *
      have HX0 := Lib.hid e0
      clear e0 e1 e2
      obtain ⟨⟨z0, z1, _⟩, _, _⟩ := HY.out.alloc (.cells #[.slice a0 L.length c0, .int .i64 m] 31)
      go_wp2_with fail
      have q4 : Hid (Ow2 (W3.alloc (.cells #[.slice a0 L.length c0, .int .i64 m] 31)) (X0 + 3) (.slice a0 L.length c0) (.int .i64 m)) := by have := Ow2.new W3 (.slice a0 L.length c0) (.int .i64 m) 31; rw [HS.out] at this; exact this
      have n1 : ¬ X0 = X2 := by have := HX.out; omega
      have n2 : ¬ X2 = X0 := by have := HX.out; omega
      have n3 : ¬ X2 = X0 + 3 := by have := HX.out; omega
      have n4 : ¬ X0 + 3 = X2 := by have := HX.out; omega
      refine (HC.out X0 _ ((H0.out.below (below1 _ _)).tab m)).mono ?_; rintro e w5 ⟨u, rfl, hu, hb5⟩
      have L5 := (HL.out.below (below1 _ _)).below hb5; have Q5 := q4.out.below hb5; have O5 := (HO.out.below (below1 _ _)).below hb5; have HH := Lib.hid hu; have HB5 := Lib.hid hb5
      obtain ⟨b1, b2, rfl⟩ := hu.tab.form
      clear x0 x1 x2 x3 y0 y1 z0 z1 hu hb5 q4
      obtain ⟨x0, x1, x2, x3, x4, x5, x6, x7, _⟩ := L5; obtain ⟨⟨y0, y1, _⟩, y2, y3⟩ := Q5; obtain ⟨o0, o1, o2, o3, o4, o5, o6, o7, _⟩ := O5
      go_wp2_with fail
      have T5 : ∀ (v0 v1 v2 v3 v4 v5 v6 v7 : Value), Turn (fun j => X0 ≤ j ∧ j < X0 + 4) w5 ((((((((w5.setCell ⟨X0 + 3, 0, none⟩ v0).setCell ⟨X0 + 3, 1, none⟩ v1).setCell ⟨X0, 0, none⟩ v2).setCell ⟨X0, 1, none⟩ v3).setCell ⟨X2, 0, none⟩ v4).setCell ⟨X2, 1, none⟩ v5).setCell ⟨X2, 2, none⟩ v6).setCell ⟨X2, 3, none⟩ v7) := fun v0 v1 v2 v3 v4 v5 v6 v7 => by
        have := HX.out
        refine turn_set (turn_set (turn_set (turn_set (turn_set (turn_set (turn_set (turn_set (Turn.refl _ _) (Or.inl ?_) v0) (Or.inl ?_) v1) (Or.inl ?_) v2) (Or.inl ?_) v3) (Or.inl ?_) v4) (Or.inl ?_) v5) (Or.inl ?_) v6) (Or.inl ?_) v7 <;> constructor <;> (dsimp only; omega)
      have hb6 : Below X0 W3 w5 := ((below1 W3 _).mono (by have := HS.out; omega)).trans (HB5.out.mono (by have := HS.out; simp; omega))
      have HT := Lib.hid T5
      refine bodyPost_ret (v := .tuple #[.agg #[.slice b1 L.tail.length b2, .int .i64 m, .slice a1 M.length c1, .int .i64 n], .int .i64 z, .int .i64 0, .bool (decide (0 < L.length))]) (by simp [results, Try.results10, go_sem, o0, o1, o2, o3, n1, n2, n3, n4]) rfl ⟨_, _, rfl, ?_, ?_, ?_⟩
      · rw [HX0.out]; exact fin_same (SlG.of HH.out) (HT.out _ _ _ _ _ _ _ _)
      · rw [HX0.out]; exact fin_same ((H1.out.below (below1 _ _)).below HB5.out) (HT.out _ _ _ _ _ _ _ _)
      · rw [HX0.out]; exact (HB.out.trans hb6).trans ((HT.out _ _ _ _ _ _ _ _).below (fun j q => q.1) (by have := hb6.size; have := HS.out; omega))
    · have q5 : decide (d < 0) = false := decide_eq_false hn
      have q6 : decide (3 < d) = true := decide_eq_true (by omega)
      clear hd hn hL
      have hc : ∀ (X : Nat) (wz : World), TabG (fun b => b < X ∧ G b) wz (.agg #[.slice a0 L.length c0, .int .i64 m]) L m → _ := fun X wz h => r10take (fun b => b < X ∧ G b) _ L m wz h
      simp only [isE_there, isE_tail] at hc
      generalize L.headD 0 = z at hc ⊢
      have HC := Lib.hid hc; clear hc
      go_enter Try.func10, Try.ntmps10
      go_upto_region 3 with fail
      rw [← hW3]
      clear hW3
      generalize e2 : w.heap.size + 1 + 1 = X2 at *
      generalize e1 : w.heap.size + 1 = X1 at *
      have HX := Lib.hid (show X1 = w.heap.size + 1 ∧ X2 = w.heap.size + 2 by omega)
      generalize e0 : w.heap.size = X0 at *
      have HX0 := Lib.hid e0
      clear e0 e1 e2
      obtain ⟨⟨z0, z1, _⟩, _, _⟩ := HY.out.alloc (.cells #[.slice a0 L.length c0, .int .i64 m] 31)
      go_wp2_with fail
      have q4 : Hid (Ow2 (W3.alloc (.cells #[.slice a0 L.length c0, .int .i64 m] 31)) (X0 + 3) (.slice a0 L.length c0) (.int .i64 m)) := by have := Ow2.new W3 (.slice a0 L.length c0) (.int .i64 m) 31; rw [HS.out] at this; exact this
      have n1 : ¬ X0 = X2 := by have := HX.out; omega
      have n2 : ¬ X2 = X0 := by have := HX.out; omega
      have n3 : ¬ X2 = X0 + 3 := by have := HX.out; omega
      have n4 : ¬ X0 + 3 = X2 := by have := HX.out; omega
      refine (HC.out X0 _ ((H0.out.below (below1 _ _)).tab m)).mono ?_; rintro e w5 ⟨u, rfl, hu, hb5⟩
      have L5 := (HL.out.below (below1 _ _)).below hb5; have Q5 := q4.out.below hb5; have O5 := (HO.out.below (below1 _ _)).below hb5; have HH := Lib.hid hu; have HB5 := Lib.hid hb5
      obtain ⟨b1, b2, rfl⟩ := hu.tab.form
      clear x0 x1 x2 x3 y0 y1 z0 z1 hu hb5 q4
      obtain ⟨x0, x1, x2, x3, x4, x5, x6, x7, _⟩ := L5; obtain ⟨⟨y0, y1, _⟩, y2, y3⟩ := Q5; obtain ⟨o0, o1, o2, o3, o4, o5, o6, o7, _⟩ := O5
      go_wp2_with fail
      have T5 : ∀ (v0 v1 v2 v3 v4 v5 v6 v7 : Value), Turn (fun j => X0 ≤ j ∧ j < X0 + 4) w5 ((((((((w5.setCell ⟨X0 + 3, 0, none⟩ v0).setCell ⟨X0 + 3, 1, none⟩ v1).setCell ⟨X0, 0, none⟩ v2).setCell ⟨X0, 1, none⟩ v3).setCell ⟨X2, 0, none⟩ v4).setCell ⟨X2, 1, none⟩ v5).setCell ⟨X2, 2, none⟩ v6).setCell ⟨X2, 3, none⟩ v7) := fun v0 v1 v2 v3 v4 v5 v6 v7 => by
        have := HX.out
        refine turn_set (turn_set (turn_set (turn_set (turn_set (turn_set (turn_set (turn_set (Turn.refl _ _) (Or.inl ?_) v0) (Or.inl ?_) v1) (Or.inl ?_) v2) (Or.inl ?_) v3) (Or.inl ?_) v4) (Or.inl ?_) v5) (Or.inl ?_) v6) (Or.inl ?_) v7 <;> constructor <;> (dsimp only; omega)
      have hb6 : Below X0 W3 w5 := ((below1 W3 _).mono (by have := HS.out; omega)).trans (HB5.out.mono (by have := HS.out; simp; omega))
      have HT := Lib.hid T5
      refine bodyPost_ret (v := .tuple #[.agg #[.slice b1 L.tail.length b2, .int .i64 m, .slice a1 M.length c1, .int .i64 n], .int .i64 z, .int .i64 0, .bool (decide (0 < L.length))]) (by simp [results, Try.results10, go_sem, o0, o1, o2, o3, n1, n2, n3, n4]) rfl ⟨_, _, rfl, ?_, ?_, ?_⟩
      · rw [HX0.out]; exact fin_same (SlG.of HH.out) (HT.out _ _ _ _ _ _ _ _)
      · rw [HX0.out]; exact fin_same ((H1.out.below (below1 _ _)).below HB5.out) (HT.out _ _ _ _ _ _ _ _)
      · rw [HX0.out]; exact (HB.out.trans hb6).trans ((HT.out _ _ _ _ _ _ _ _).below (fun j q => q.1) (by have := hb6.size; have := HS.out; omega))
end Go.Proofs.Ytjljjbfeefcnkaa
