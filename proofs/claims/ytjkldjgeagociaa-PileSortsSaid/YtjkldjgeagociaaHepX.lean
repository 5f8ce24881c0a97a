/-
  The landed pile: what its calls answer, as the bundle of a pile's contracts. No conditions.
-/
import Derived.Test.YtjkldjgeagociaaHepQ
namespace Go.Proofs.Ytjkldjgeagociaa
open Go.RowKit
set_option linter.unusedSimpArgs false
set_option linter.unusedVariables false

def RepH (w : World) (B n : Nat) (L : List (Int × Int)) (F : Nat → Prop) : Prop :=
  ∃ (H K : List Ent) (p : Int) (b : Nat) (v : Value), HepH w B H p b v ∧ Heap H ∧ K.Perm H ∧ InTurn K L p ∧ (0 ≤ p ∧ p ≤ (n : Int) ∧ p ≤ 20000 ∧ L.length ≤ n ∧ L.length ≤ 20000) ∧ F = HepF B b v
theorem RepH.foot {w : World} {B n : Nat} {L : List (Int × Int)} {F : Nat → Prop} (h : RepH w B n L F) : ∀ j, F j → j < w.heap.size := by
  obtain ⟨H, K, p, b, v, h, _, _, _, _, rfl⟩ := h
  exact h.foot
theorem RepH.more {w : World} {B n m : Nat} {L : List (Int × Int)} {F : Nat → Prop} (h : RepH w B n L F) (hn : n ≤ m) : RepH w B m L F := by
  obtain ⟨H, K, p, b, v, h, h2, h3, h4, h5, rfl⟩ := h
  exact ⟨H, K, p, b, v, h, h2, h3, h4, by omega, rfl⟩
theorem RepH.keep {w w' : World} {B n : Nat} {L : List (Int × Int)} {F : Nat → Prop} (h : RepH w B n L F) (hs : w.heap.size ≤ w'.heap.size) (hk : ∀ j, F j → w'.heap[j]? = w.heap[j]?) : RepH w' B n L F := by
  obtain ⟨H, K, p, b, v, h, h2, h3, h4, h5, rfl⟩ := h
  exact ⟨H, K, p, b, v, h.keep hk, h2, h3, h4, h5, rfl⟩
theorem len_of {H K : List Ent} {L : List (Int × Int)} {p : Int} (hp : K.Perm H) (h : InTurn K L p) : H.length = L.length := by rw [← hp.length_eq, h.len]
set_option maxHeartbeats 2000000 in
set_option maxRecDepth 100000 in
theorem push_9 {w : World} {B n : Nat} {L : List (Int × Int)} {F : Nat → Prop} (x y : Int) (h : RepH w B n L F) (hn : n < 20000) : Calls Try.prog 15 #[.pointer (some ⟨B, 0, none⟩), .agg #[.int .i64 x, .int .i64 y]] w fun e w' =>
    e = .returned (.int .i64 0) ∧ ∃ F', RepH w' B (n + 1) (L ++ [(x, y)]) F' ∧ Turn F w w' ∧ ∀ j, F' j → F j ∨ w.heap.size ≤ j := by
  obtain ⟨H, K, p, b, v, h, h2, h3, h4, h5, rfl⟩ := h
  have hlen := len_of h3 h4
  have hb0 := below1 w (.cells #[.int .i64 x, .int .i64 y] 25)
  have h1 := h.below hb0
  have hmd := made_9 h1.c0
  have hpu := put_9 x y h1 h2 (by omega) h5.1 (by omega)
  obtain ⟨a, c, rfl⟩ := h1.form
  have c1 := h1.c1
  have f1 : (w.alloc (.cells #[.int .i64 x, .int .i64 y] 25)).cell? ⟨w.heap.size, 0, none⟩ = some (.int .i64 x) := by simp [go_sem]
  have f2 : (w.alloc (.cells #[.int .i64 x, .int .i64 y] 25)).cell? ⟨w.heap.size, 1, none⟩ = some (.int .i64 y) := by simp [go_sem]
  have d0 : decide ((20000 : Int) ≤ (H.length : Int)) = false := decide_eq_false (by omega)
  have H4 := Lib.hid h4; have H3 := Lib.hid h3; have H5 := Lib.hid h5
  clear h h1 h2 h3 h4 h5 hlen
  go_enter Try.func15, Try.ntmps15
  go_wp2_with fail
  refine hmd.mono ?_; rintro e w1 ⟨rfl, rfl⟩
  go_wp2_with fail
  refine hpu.mono ?_; rintro e w2 ⟨rfl, H', v', hpm, hhp, hT, ht, hF⟩
  go_wp2_with fail
  go_ret
  refine ⟨rfl, _, ⟨H', K ++ [(x, y, p)], p + 1, b, v', hT, hhp, (H3.out.append_right _).trans hpm.symm, H4.out.push x y, ?_, rfl⟩, (Turn.of_below hb0).trans ht (fun j q => Or.inl q), fun j q => (hF j q).imp id (fun q => Nat.le_trans hb0.size q)⟩
  have := H5.out
  rw [List.length_append, List.length_singleton]
  omega
set_option maxHeartbeats 2000000 in
set_option maxRecDepth 100000 in
theorem pop_9 {w : World} {B n : Nat} {L : List (Int × Int)} {F : Nat → Prop} (h : RepH w B n L F) : Calls Try.prog 16 #[.pointer (some ⟨B, 0, none⟩)] w fun e w' =>
    e = .returned (.tuple #[.agg #[.int .i64 (peekv L).1, .int .i64 (peekv L).2], .bool (decide (0 < L.length))]) ∧ ∃ F', RepH w' B n (popv L) F' ∧ Turn F w w' ∧ ∀ j, F' j → F j ∨ w.heap.size ≤ j := by
  obtain ⟨H, K, p, b, v, h, h2, h3, h4, h5, rfl⟩ := h
  have hlen := len_of h3 h4
  have hfo := h.foot
  have hb0 := below1 w (.cells #[.int .i64 0, .int .i64 0] 25)
  have h1 := h.below hb0
  have hln := len_9 h1
  rcases Nat.eq_zero_or_pos L.length with h0 | h0
  · obtain rfl : L = [] := List.length_eq_zero_iff.mp h0
    obtain rfl : H = [] := List.length_eq_zero_iff.mp hlen
    rw [show peekv [] = (0, 0) from rfl, show popv [] = [] from rfl, show decide (0 < ([] : List (Int × Int)).length) = false from rfl]
    have e0 : (([] : List Ent).length : Int) = 0 := rfl
    rw [e0] at hln
    have hb2 := below1 (w.alloc (.cells #[.int .i64 0, .int .i64 0] 25)) (.cells #[.int .i64 0, .int .i64 0] 25)
    have HT := Lib.hid (h1.below hb2); have HB := Lib.hid (hb0.trans (hb2.mono hb0.size)); have H3 := Lib.hid h3; have H4 := Lib.hid h4; have H5 := Lib.hid h5
    clear h h1 h2 h3 h4 h5 h0 hlen hfo hb0 hb2
    go_enter Try.func16, Try.ntmps16
    go_wp2_with fail
    refine hln.mono ?_; rintro e w1 ⟨rfl, rfl⟩
    go_wp2_with fail
    exact bodyPost_ret (v := .tuple #[.agg #[.int .i64 0, .int .i64 0], .bool false]) (by simp [results, Try.results16, go_sem]) rfl ⟨rfl, _, ⟨[], K, p, b, v, HT.out, heap_nil, H3.out, H4.out, H5.out, rfl⟩, Turn.of_below HB.out, fun j q => Or.inl q⟩
  · rw [decide_eq_true h0]
    obtain ⟨hpk, K', h6, h7⟩ := h4.pop h3 h2 h0
    have htk := take_9 h1 h2 (by omega) (by omega)
    rw [hpk]
    have d0 : ((H.length : Int) == 0) = false := beq_eq_false_iff_ne.mpr (by omega)
    have N0 := Lib.hid (Ow2.new w (.int .i64 0) (.int .i64 0) 25)
    have H6 := Lib.hid h6; have H7 := Lib.hid h7; have H5 := Lib.hid h5; have HFO := Lib.hid hfo
    have hpl := popv_len h0
    generalize at3 H 0 = s at *
    clear h h1 h2 h3 h4 h5 h6 h7 hfo hpk hlen
    go_enter Try.func16, Try.ntmps16
    go_wp2_with fail
    refine hln.mono ?_; rintro e w1 ⟨rfl, rfl⟩
    go_wp2_with fail
    refine htk.mono ?_; rintro e w5 ⟨rfl, H', v', hpm, hhp, hT, ht, hF⟩
    have n0 : ¬ HepF B b v w.heap.size := fun r => Nat.lt_irrefl _ (HFO.out _ r)
    have n2 : ¬ HepF B b v' w.heap.size := fun r => n0 (hF _ r)
    have O0 := N0.out.turn ht n0
    have o0 := (O0.put (a := .int .i64 s.1) (b := .int .i64 s.2.1)).1.1
    have o1 := (O0.put (a := .int .i64 s.1) (b := .int .i64 s.2.1)).1.2.1
    obtain ⟨⟨d0', d1', _⟩, d3, d4⟩ := O0
    have hE := hT.keep (w' := (w5.setCell ⟨w.heap.size, 0, none⟩ (.int .i64 s.1)).setCell ⟨w.heap.size, 1, none⟩ (.int .i64 s.2.1)) (fun j q => (turn_one2 w5 w.heap.size (.int .i64 s.1) (.int .i64 s.2.1)).block j (hT.foot j q) (fun r => n2 (by rw [← (show j = w.heap.size from r)]; exact q)))
    have hG : Turn (HepF B b v) w ((w5.setCell ⟨w.heap.size, 0, none⟩ (.int .i64 s.1)).setCell ⟨w.heap.size, 1, none⟩ (.int .i64 s.2.1)) := turn_set2 ((Turn.of_below hb0).trans ht (fun j q => Or.inl q)) (Or.inr (Nat.le_refl _)) _ _
    clear hT ht n0 n2 htk
    go_wp2_with fail
    refine bodyPost_ret (v := .tuple #[.agg #[.int .i64 s.1, .int .i64 s.2.1], .bool true]) (by simp [results, Try.results16, go_sem, o0, o1]) rfl ⟨rfl, _, ⟨H', K', p, b, v', hE, hhp, H7.out.trans hpm.symm, H6.out, ?_, rfl⟩, hG, fun j q => Or.inl (hF j q)⟩
    have := H5.out
    omega
/-- The landed pile keeps a pile's contracts. -/
def hTP : PilCon where
  Rep := RepH
  foot := RepH.foot
  more := RepH.more
  keep := RepH.keep
  new_ok := fun w => (new_9 w).mono fun e w' ⟨B, b, he, hT, hb, hF⟩ => ⟨B, _, he, ⟨[], [], 0, b, _, hT, heap_nil, List.Perm.refl _, ⟨rfl, List.Pairwise.nil, fun e h => by cases h⟩, by simp, rfl⟩, hb, hF⟩
  push := fun x y h _ _ hn => push_9 x y h hn
  pop := fun h => pop_9 h
  peek := fun {w B n L F} h => by
    obtain ⟨H, K, p, b, v, h, h2, h3, h4, h5, rfl⟩ := h
    have hlen := len_of h3 h4
    have hpe := peek_9 h
    rw [hlen] at hpe
    have e : ((at3 H 0).1, (at3 H 0).2.1) = peekv L := by
      rcases Nat.eq_zero_or_pos L.length with h0 | h0
      · obtain rfl : L = [] := List.length_eq_zero_iff.mp h0
        obtain rfl : H = [] := List.length_eq_zero_iff.mp hlen
        rfl
      · exact (h4.pop h3 h2 h0).1.symm
    rw [← e]
    exact hpe
  len := fun {w B n L F} h => by
    obtain ⟨H, K, p, b, v, h, h2, h3, h4, h5, rfl⟩ := h
    have hlen := len_of h3 h4
    have hle := len_9 h
    rw [hlen] at hle
    exact hle.mono fun e w' ⟨he, hw⟩ => ⟨he, hw ▸ Below.refl _ _⟩
end Go.Proofs.Ytjkldjgeagociaa
