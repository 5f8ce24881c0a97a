/-
  The landed set: a block with a slice of 1024 words. What it is, what keeps it; New, isMade, mayBe, bit, row. The conditions: the set's blocks.
-/
import Derived.Test.YtiolicadnomagaaDoorBitW
import Derived.Test.YtiolicadnomagaaDoorTurnM
import Derived.Lib.TrailingZeros
import Derived.Lib.SliceRun
import Derived.WalkSmall
import Derived.BigQuiet
import Derived.Deep.QuietTactic
import Derived.OwnWalk
namespace Go.Proofs.YtiolicadnomagaaDoor
open Go.RowKit
set_option linter.unusedSimpArgs false
set_option linter.unusedVariables false

/-- A set at B, its words at G. -/
structure SetP (w : World) (B G : Nat) (ws : List Nat) : Prop where
  c0 : w.cell? ⟨B, 0, none⟩ = some (.slice (some ⟨G, 0, none⟩) 1024 1024)
  row : ∀ j, j < 1024 → w.cell? ⟨G, j, none⟩ = some (.int .u64 (ws.getD j 0 : Nat))
  fz : ∀ j, j < 1024 → w.frozen? ⟨G, j, none⟩ = false
  len : ws.length = 1024
  bd : ∀ j, ws.getD j 0 < 18446744073709551616
  ne : B ≠ G
  ni : ∀ j z, w.cell? ⟨G, j, none⟩ ≠ some (.int .i64 z)
  nb : ∀ j z, w.cell? ⟨B, j, none⟩ ≠ some (.int .i64 z)
theorem SetP.ltB {w : World} {B G : Nat} {ws : List Nat} (h : SetP w B G ws) : B < w.heap.size := World.block_lt_of_cell? w _ h.c0
theorem SetP.ltG {w : World} {B G : Nat} {ws : List Nat} (h : SetP w B G ws) : G < w.heap.size := World.block_lt_of_cell? w _ (h.row 0 (by omega))
theorem SetP.keep {w w' : World} {B G : Nat} {ws : List Nat} (h : SetP w B G ws) (hB : w'.heap[B]? = w.heap[B]?) (hG : w'.heap[G]? = w.heap[G]?) : SetP w' B G ws := by
  have c : ∀ b i, w'.heap[b]? = w.heap[b]? → w'.cell? ⟨b, i, none⟩ = w.cell? ⟨b, i, none⟩ := fun b i q => by unfold World.cell?; rw [q]
  have f : ∀ b i, w'.heap[b]? = w.heap[b]? → w'.frozen? ⟨b, i, none⟩ = w.frozen? ⟨b, i, none⟩ := fun b i q => by unfold World.frozen?; rw [q]
  exact ⟨(c B 0 hB).trans h.c0, fun j hj => (c G j hG).trans (h.row j hj), fun j hj => (f G j hG).trans (h.fz j hj), h.len, h.bd, h.ne, fun j z => by rw [c G j hG]; exact h.ni j z, fun j z => by rw [c B j hB]; exact h.nb j z⟩
theorem SetP.below {w w' : World} {B G : Nat} {ws : List Nat} (h : SetP w B G ws) (hb : Below w.heap.size w w') : SetP w' B G ws :=
  h.keep (hb.block _ h.ltB) (hb.block _ h.ltG)
def SetF (B G : Nat) (j : Nat) : Prop := j = B ∨ j = G
/-- One word is another one. -/
theorem SetP.put {w : World} {B G : Nat} {ws : List Nat} (h : SetP w B G ws) {k x : Nat} (hk : k < 1024) (hx : x < 18446744073709551616) :
    SetP (w.setCell ⟨G, k, none⟩ (.int .u64 (x : Int))) B G (ws.set k x) ∧ Turn (fun j => j = G) w (w.setCell ⟨G, k, none⟩ (.int .u64 (x : Int))) := by
  refine ⟨⟨?_, fun j hj => ?_, fun j hj => ?_, by simpa using h.len, fun j => ?_, h.ne, fun j z => ?_, fun j z => ?_⟩, turn_set (F := fun j => j = G) (Turn.refl _ _) (p := ⟨G, k, none⟩) (Or.inl (show G = G from rfl)) _⟩
  · exact (World.cell?_setCell_other _ _ _ _ (fun q => h.ne (by cases q; rfl))).trans h.c0
  · by_cases e : j = k
    · subst e
      rw [World.cell?_setCell_same _ _ _ (h.row j hj)]
      have : j < ws.length := by have := h.len; omega
      simp [List.getD, this]
    · rw [World.cell?_setCell_other _ _ _ _ (fun q => e (by cases q; rfl)), h.row j hj]
      simp [List.getD, List.getElem?_set, Ne.symm e]
  · rw [World.frozen?_setCell]; exact h.fz j hj
  · have hl := h.len
    by_cases e : j = k
    · subst e; simp [List.getD, hl, hk, hx]
    · have := h.bd j
      simp [List.getD, List.getElem?_set, Ne.symm e] at this ⊢; exact this
  · by_cases e : j = k
    · subst e
      rw [World.cell?_setCell_same _ _ _ (h.row j hk)]
      intro q; cases q
    · rw [World.cell?_setCell_other _ _ _ _ (fun q => e (by cases q; rfl))]; exact h.ni j z
  · rw [World.cell?_setCell_other _ _ _ _ (fun q => h.ne (by cases q; rfl))]; exact h.nb j z
/-- A set of the numbers S, whose blocks are F. -/
def SetR (w : World) (B : Nat) (S : List Int) (F : Nat → Prop) : Prop := ∃ G ws, SetP w B G ws ∧ S = nums 0 ws ∧ F = SetF B G
theorem SetR.foot {w : World} {B : Nat} {S : List Int} {F : Nat → Prop} (h : SetR w B S F) : ∀ j, F j → j < w.heap.size := by
  obtain ⟨G, ws, h, _, rfl⟩ := h
  rintro j (rfl | rfl)
  · exact h.ltB
  · exact h.ltG
theorem SetR.turn {w w' : World} {B : Nat} {S : List Int} {F F' : Nat → Prop} (h : SetR w B S F) (t : Turn F' w w') (hd : ∀ j, F j → ¬ F' j) : SetR w' B S F := by
  obtain ⟨G, ws, h, e, rfl⟩ := h
  exact ⟨G, ws, h.keep (t.block _ h.ltB (hd _ (Or.inl rfl))) (t.block _ h.ltG (hd _ (Or.inr rfl))), e, rfl⟩
theorem SetR.below {w w' : World} {B : Nat} {S : List Int} {F : Nat → Prop} (h : SetR w B S F) (hb : Below w.heap.size w w') : SetR w' B S F := by
  obtain ⟨G, ws, h, e, rfl⟩ := h
  exact ⟨G, ws, h.below hb, e, rfl⟩
/-- A row of numbers lies elsewhere. -/
theorem SetP.away {w : World} {B G b o : Nat} {ws : List Nat} {z : Int} (h : SetP w B G ws) (hc : w.cell? ⟨b, o, none⟩ = some (.int .i64 z)) : b ≠ B ∧ b ≠ G :=
  ⟨fun q => h.nb o z (q ▸ hc), fun q => h.ni o z (q ▸ hc)⟩
theorem SetR.sl {w w' : World} {B : Nat} {S L : List Int} {F : Nat → Prop} {v : Value} (h : SetR w B S F) (t : Turn F w w') (hs : Sl w v L) : Sl w' v L := by
  obtain ⟨G, ws, h, _, rfl⟩ := h
  obtain ⟨a, c, rfl, h2, h3, h4, h5⟩ := hs
  refine ⟨a, c, rfl, h2, h3, h4, fun i hi => ?_⟩
  obtain ⟨b, off, rfl, hc⟩ := h5 i hi
  have ha := h.away hc
  exact ⟨b, off, rfl, (t.cell (a := ⟨b, off + i, none⟩) (World.block_lt_of_cell? w _ hc) (fun q => q.elim ha.1 ha.2)).trans hc⟩
theorem SetR.rises {w : World} {B : Nat} {S : List Int} {F : Nat → Prop} (h : SetR w B S F) : Rises S := by obtain ⟨G, ws, h, rfl, _⟩ := h; exact nums_rise _ _
theorem SetR.ok {w : World} {B : Nat} {S : List Int} {F : Nat → Prop} (h : SetR w B S F) : ∀ z ∈ S, OkB z := by
  obtain ⟨G, ws, h, rfl, _⟩ := h
  intro z hz
  have := (mem_nums0 h.len).1 hz
  exact ⟨this.1, this.2.1⟩
theorem SetR.short {w : World} {B : Nat} {S : List Int} {F : Nat → Prop} (h : SetR w B S F) : S.length ≤ 65536 := by
  obtain ⟨G, ws, h, rfl, _⟩ := h
  have := @nums_len_le ws 0
  have := h.len
  omega

theorem u64_info : (Tryd.prog.info? 50).map (fun i => (i.zero, i.size, i.bytes)) = some (some (.int .u64 0), 1, 8) := by kernel_rfl
theorem in_sl (d : Nat) (a : Option Addr) (n c : Nat) (ha : a.isSome = true) (w : World) : (Op.equalIn (d + 1) 43 (.slice a n c) (.slice none 0 0)).run Tryd.prog w = .ok false w := by
  obtain ⟨x, rfl⟩ := Option.isSome_iff_exists.1 ha
  simp [Op.equalIn, run_underlying Tryd.underlying43]
theorem eql_sl (x : Addr) (n c : Nat) (w : World) : (binOp .eql 43 (.slice (some x) n c) (.slice none 0 0)).run Tryd.prog w = .ok (.bool false) w := by
  simp only [binOp]
  simp [Op.equal, Op.maxDepth, in_sl 9999 (some x) n c rfl]
theorem neq_sl (x : Addr) (n c : Nat) (w : World) : (binOp .neq 43 (.slice (some x) n c) (.slice none 0 0)).run Tryd.prog w = .ok (.bool true) w := by
  simp only [binOp]
  simp [Op.equal, Op.maxDepth, in_sl 9999 (some x) n c rfl]
theorem made_s {w : World} {B G : Nat} {ws : List Nat} (h : SetP w B G ws) : Calls Tryd.prog 28 #[.pointer (some ⟨B, 0, none⟩)] w fun e w' => e = .returned (.bool true) ∧ w' = w := by
  have c0 := h.c0
  have he := neq_sl
  clear h
  go_enter Tryd.func28, Tryd.ntmps28
  go_wp2_with fail
  go_ret
  exact ⟨rfl, rfl⟩
theorem made_n (w : World) : Calls Tryd.prog 28 #[.pointer none] w fun e w' => e = .returned (.bool false) ∧ w' = w := by
  go_enter Tryd.func28, Tryd.ntmps28
  go_wp2_with fail
  go_ret
  exact ⟨rfl, rfl⟩
theorem row_s {w : World} {B G : Nat} {ws : List Nat} (h : SetP w B G ws) : Calls Tryd.prog 26 #[.pointer (some ⟨B, 0, none⟩)] w fun e w' => e = .returned (.slice (some ⟨G, 0, none⟩) 1024 1024) ∧ w' = w := by
  have c0 := h.c0
  clear h
  go_enter Tryd.func26, Tryd.ntmps26
  go_wp2_with fail
  go_ret
  exact ⟨rfl, rfl⟩
theorem row_n (w : World) : Calls Tryd.prog 26 #[.pointer none] w fun e w' => e = .returned (.slice none 0 0) ∧ w' = w := by
  go_enter Tryd.func26, Tryd.ntmps26
  go_wp2_with fail
  go_ret
  exact ⟨rfl, rfl⟩
theorem maybe_s (n : Int) (hn : InR n) (w : World) : Calls Tryd.prog 29 #[.int .i64 n] w fun e w' => e = .returned (.bool (decide (OkB n))) ∧ w' = w := by
  by_cases h0 : 0 ≤ n
  · by_cases h1 : n < 65536
    · rw [decide_eq_true (show OkB n from ⟨h0, by omega⟩)]
      have d0 : decide (0 ≤ n) = true := decide_eq_true h0
      have d1 : decide (n < 65536) = true := decide_eq_true h1
      go_enter Tryd.func29, Tryd.ntmps29
      go_wp2_with fail
      go_ret
      exact ⟨rfl, rfl⟩
    · rw [decide_eq_false (show ¬ OkB n from fun q => by have := q.2; omega)]
      have d0 : decide (0 ≤ n) = true := decide_eq_true h0
      have d1 : decide (n < 65536) = false := decide_eq_false h1
      go_enter Tryd.func29, Tryd.ntmps29
      go_wp2_with fail
      go_ret
      exact ⟨rfl, rfl⟩
  · rw [decide_eq_false (show ¬ OkB n from fun q => h0 q.1)]
    have d0 : decide (0 ≤ n) = false := decide_eq_false h0
    go_enter Tryd.func29, Tryd.ntmps29
    go_wp2_with fail
    go_ret
    exact ⟨rfl, rfl⟩
theorem bit_s (m : Nat) (hm : m ≤ 65535) (w : World) : Calls Tryd.prog 30 #[.int .i64 (m : Int)] w fun e w' => e = .returned (.int .u64 ((2 ^ (m % 64) : Nat) : Int)) ∧ w' = w := by
  have hr : ((m : Int)).tmod 64 = ((m % 64 : Nat) : Int) := by rw [Int.tmod_eq_emod_of_nonneg (by omega)]; omega
  have hk : m % 64 < 64 := by omega
  generalize m % 64 = k at *
  go_enter Tryd.func30, Tryd.ntmps30
  go_wp2_with fail
  go_ret
  refine ⟨?_, rfl⟩
  have h2 : 2 ^ k < 18446744073709551616 := by
    have : 2 ^ k < 2 ^ 64 := Nat.pow_lt_pow_right (by omega) hk
    simpa using this
  have e : IntKind.u64.wrap (2 ^ k) = ((2 ^ k : Nat) : Int) := by
    rw [show ((2 : Int) ^ k) = ((2 ^ k : Nat) : Int) by simp]
    generalize 2 ^ k = x at *
    rw [IntKind.wrap_u64]; omega
  simp [e]
theorem getD_rep (n j : Nat) : (List.replicate n 0).getD j 0 = 0 := by
  unfold List.getD; rw [List.getElem?_replicate]; split <;> rfl
theorem SetP.made (w : World) : SetP ((w.alloc (.cells (madeCells #[.int .u64 0] 1024) 50)).alloc (.cells #[.slice (some ⟨w.heap.size, 0, none⟩) 1024 1024] 45)) (w.heap.size + 1) w.heap.size (List.replicate 1024 0) := by
  have hs : (w.alloc (.cells (madeCells #[.int .u64 0] 1024) 50)).heap.size = w.heap.size + 1 := by simp
  have hz : ∀ j, (List.replicate 1024 0).getD j 0 = 0 := getD_rep 1024
  have hm : ∀ j, j < 1024 → (madeCells #[.int .u64 0] 1024)[j]? = some (.int .u64 0) := fun j hj => by
    rw [← Array.getElem?_toList, toList_madeCells_one, List.getElem?_replicate, if_pos hj]
  refine ⟨?_, fun j hj => ?_, fun j hj => ?_, List.length_replicate, fun j => by rw [hz]; omega, by omega, fun j z q => ?_, fun j z q => ?_⟩
  · rw [← hs]; simp
  · rw [hz]
    refine (World.cell?_alloc_old _ _ _ (by simp)).trans ?_
    simp [hm j hj]
  · rw [frozen?_alloc_cells]; simp
  · rw [World.cell?_alloc_old _ _ _ (by simp)] at q
    simp at q
    by_cases hj : j < 1024
    · rw [hm j hj] at q; cases q
    · rw [Array.getElem?_eq_none (by rw [size_madeCells]; omega)] at q; cases q
  · rw [← hs] at q
    simp at q
    rcases j with _ | j
    · simp at q
    · simp at q
theorem new_s (w : World) : Calls Tryd.prog 6 #[] w fun e w' => ∃ B F, e = .returned (.pointer (some ⟨B, 0, none⟩)) ∧ SetR w' B [] F ∧ Below w.heap.size w w' ∧ ∀ j, F j → w.heap.size ≤ j := by
  obtain ⟨ii, hi, hz0, hz1, hz2⟩ := info_parts u64_info
  have hmk : ∀ w, (Instr.makeSlice 43 (.int .i64 1024) (.int .i64 1024)).run Tryd.prog w = .ok (.slice (some ⟨w.heap.size, 0, none⟩) 1024 1024) (w.alloc (.cells (madeCells #[.int .u64 0] 1024) 50)) := fun w => by
    have := run_makeSlice (P := Tryd.prog) (w := w) 43 50 ii (.int .u64 0) Tryd.underlying43 hi hz0 .i64 .i64 1024 1024 (by omega) (by omega) (by rw [hz1]; decide) (by rw [hz2]; decide) (by omega)
    rw [hz1] at this; exact this
  go_enter Tryd.func6, Tryd.ntmps6
  go_wp2_with fail
  go_ret
  refine ⟨_, _, rfl, ⟨_, _, SetP.made w, (nums_zero 1024 0).symm, rfl⟩, (below1 w _).alloc (by simp) _, ?_⟩
  rintro j (rfl | rfl) <;> omega
end Go.Proofs.YtiolicadnomagaaDoor
