/-
  The landed set's Len, Clear, Join, Keep. The conditions: the sets' blocks, which are apart.
-/
import Derived.Test.YtiolicadnomagaaDoorSetC
import Derived.Laws.Cover3
namespace Go.Proofs.YtiolicadnomagaaDoor
open Go.RowKit
set_option linter.unusedSimpArgs false
set_option linter.unusedVariables false

theorem wrap_sum {a b : Nat} (h : a + b ≤ 100000) : IntKind.i64.wrap ((a : Int) + (b : Int)) = ((a + b : Nat) : Int) := by simp [IntKind.wrap, IntKind.signed, IntKind.bits]; omega
theorem wrap_sum64 {a b : Nat} (h : a + b ≤ 100000) : wrap64 ((a : Int) + (b : Int)) = ((a + b : Nat) : Int) := by unfold wrap64; omega
theorem wrap_up64 {k : Nat} (h : k ≤ 100000) : wrap64 ((k : Int) + 1) = ((k + 1 : Nat) : Int) ∧ IntKind.i64.wrap ((k : Int) + 1) = ((k + 1 : Nat) : Int) := ⟨by unfold wrap64; omega, by simp [IntKind.wrap, IntKind.signed, IntKind.bits]; omega⟩
theorem take_len_le (ws : List Nat) (k : Nat) (h : k ≤ 1024) : (nums 0 (ws.take k)).length ≤ 65536 := by
  have := @nums_len_le (ws.take k) 0
  have : (ws.take k).length ≤ k := by rw [List.length_take]; omega
  omega
theorem take_len_succ {ws : List Nat} {k : Nat} (h : k < ws.length) : (nums 0 (ws.take (k + 1))).length = (nums 0 (ws.take k)).length + (wbits (ws.getD k 0)).length := by
  rw [nums_take h, List.length_append, List.length_map]
set_option maxHeartbeats 2000000 in
set_option maxRecDepth 100000 in
theorem len_s {w : World} {B : Nat} {S : List Int} {F : Nat → Prop} (h : SetR w B S F) :
    Calls Tryd.prog 10 #[.pointer (some ⟨B, 0, none⟩)] w fun e w' => e = .returned (.int .i64 (S.length : Int)) ∧ Below w.heap.size w w' := by
  obtain ⟨G, ws, h, rfl, rfl⟩ := h
  have hrw := row_s h
  have hrow := Lib.hid h.row
  have hbd := Lib.hid h.bd
  have hlen := Lib.hid h.len
  obtain ⟨N, hN⟩ : ∃ N : Nat, N = 1024 := ⟨_, rfl⟩
  rw [← hN] at hrw
  have HN := Lib.hid hN
  clear h hN
  go_enter Tryd.func10, Tryd.ntmps10
  go_wp2_with fail
  refine hrw.mono ?_; rintro e w1 ⟨rfl, rfl⟩
  clear hrw
  go_wp2_with fail
  go_loopw [9, 3] (fun i c wr => ∃ k : Nat, k ≤ N ∧ i = .int .i64 (k : Int) ∧ c = .int .i64 ((nums 0 (ws.take k)).length : Int) ∧ w1 = wr) (fun i _ _ => N - (intOf i).toNat)
  case atStart => exact ⟨0, Nat.zero_le _, rfl, by simp [nums], rfl⟩
  case round =>
    obtain ⟨k, hk, rfl, rfl, rfl⟩ := hrel
    by_cases hlt : k < N
    · have hc := hrow.out k (by have := HN.out; omega)
      have hon := ones_s (ws.getD k 0) (hbd.out k) w1
      have hsum : IntKind.i64.wrap (((nums 0 (ws.take k)).length : Int) + ((wbits (ws.getD k 0)).length : Int)) = ((nums 0 (ws.take (k + 1))).length : Int) := by
        have h1 := take_len_succ (ws := ws) (k := k) (by have := hlen.out; have := HN.out; omega)
        rw [h1, wrap_sum (by have := take_len_le ws k (by have := HN.out; omega); have := wbits_le (ws.getD k 0); omega)]
      have i0 : (0 : Int) ≤ (k : Int) := by omega
      have i1 : (k : Int) < (N : Int) := by omega
      have hs2 : wrap64 (((nums 0 (ws.take k)).length : Int) + ((wbits (ws.getD k 0)).length : Int)) = ((nums 0 (ws.take (k + 1))).length : Int) := by
        have h1 := take_len_succ (ws := ws) (k := k) (by have := hlen.out; have := HN.out; omega)
        rw [h1, wrap_sum64 (by have := take_len_le ws k (by have := HN.out; omega); have := wbits_le (ws.getD k 0); omega)]
      obtain ⟨hu1, hu2⟩ := wrap_up64 (k := k) (by have := HN.out; omega)
      generalize hC1 : (nums 0 (ws.take (k + 1))).length = c1 at *
      have HC1 := Lib.hid hC1
      clear hC1
      generalize (nums 0 (ws.take k)).length = c0 at *
      generalize (wbits (ws.getD k 0)).length = b at *
      generalize ws.getD k 0 = x at *
      go_wp2_with fail
      refine hon.mono ?_; rintro e w2 ⟨rfl, rfl⟩
      go_wp2_with fail
      go_roundw
      · exact ⟨k + 1, by omega, by first | with_reducible rfl | go_num, by rw [HC1.out], by first | rfl | trivial⟩
      · simp [intOf]; omega
    · obtain rfl : k = N := by omega
      have e1 : ws.take k = ws := by rw [HN.out, ← hlen.out, List.take_length]
      rw [e1] at *
      have hd0 : decide ((k : Int) < (k : Int)) = false := decide_eq_false (by omega)
      go_wp2_with fail
      go_ret
      exact ⟨rfl, Below.refl _ _⟩
theorem turn_cells (G : Nat) : ∀ (vs : List Value) (o : Nat) (w : World), Turn (fun j => j = G) w (w.setCells G o vs)
  | [], o, w => Turn.refl _ _
  | v :: vs, o, w => (turn_set (F := fun j => j = G) (Turn.refl _ w) (p := ⟨G, o, none⟩) (Or.inl (show G = G from rfl)) v).trans (turn_cells G vs (o + 1) _) (fun j q => Or.inl q)
theorem SetP.wipe {w : World} {B G : Nat} {ws : List Nat} (h : SetP w B G ws) : SetP (w.setCells G 0 (List.replicate 1024 (.int .u64 0))) B G (List.replicate 1024 0) := by
  refine ⟨?_, fun j hj => ?_, fun j hj => ?_, List.length_replicate, fun j => by rw [getD_rep]; omega, h.ne, fun j z => ?_, fun j z => ?_⟩
  · rw [World.cell?_setCells_out G _ _ _ _ (fun q => absurd q h.ne)]; exact h.c0
  · rw [getD_rep]
    have := World.cell?_setCells_in G (List.replicate 1024 (.int .u64 0)) 0 w (fun i hi => by rw [List.length_replicate] at hi; rw [Nat.zero_add, h.row i hi]; rfl) j (by rw [List.length_replicate]; exact hj)
    rw [Nat.zero_add] at this
    rw [this, List.getElem_replicate]; rfl
  · rw [World.frozen?_setCells]; exact h.fz j hj
  · by_cases hj : j < 1024
    · have := World.cell?_setCells_in G (List.replicate 1024 (.int .u64 0)) 0 w (fun i hi => by rw [List.length_replicate] at hi; rw [Nat.zero_add, h.row i hi]; rfl) j (by rw [List.length_replicate]; exact hj)
      rw [Nat.zero_add] at this
      rw [this, List.getElem_replicate]; intro q; cases q
    · rw [World.cell?_setCells_out G _ _ _ _ (fun _ _ => Or.inr (by rw [List.length_replicate]; simp; omega))]; exact h.ni j z
  · rw [World.cell?_setCells_out G _ _ _ _ (fun q => absurd q h.ne)]; exact h.nb j z
set_option maxHeartbeats 1000000 in
set_option maxRecDepth 100000 in
theorem clear_s {w : World} {B : Nat} {S : List Int} {F : Nat → Prop} (h : SetR w B S F) :
    Calls Tryd.prog 23 #[.pointer (some ⟨B, 0, none⟩)] w fun e w' => e = .returned (.tuple #[]) ∧ SetR w' B [] F ∧ Turn F w w' := by
  obtain ⟨G, ws, h, rfl, rfl⟩ := h
  have hrw := row_s h
  have hcl : ∀ ty, (Builtin.clear_ #[43] ty #[.slice (some ⟨G, 0, none⟩) 1024 1024]).run Tryd.prog w = .ok (.tuple #[]) (w.setCells G 0 (List.replicate 1024 (.int .u64 0))) := fun ty =>
    Lib.run_clear_slice w 43 50 ty (.int .u64 0) Tryd.underlying43 (fun w => by kernel_rfl) rfl rfl G 0 1024 1024 (by omega) (fun j hj => by
      rw [Nat.zero_add, h.row j hj]; rfl) (fun j hj => by rw [Nat.zero_add]; exact h.fz j hj)
  have H0 := h.wipe
  have T0 := turn_cells G (List.replicate 1024 (.int .u64 0)) 0 w
  generalize w.setCells G 0 (List.replicate 1024 (.int .u64 0)) = W at *
  obtain ⟨N, hN⟩ : ∃ N : Nat, N = 1024 := ⟨_, rfl⟩
  rw [← hN] at hrw hcl
  clear h hN
  have HR : Hid (SetR W B [] (SetF B G) ∧ Turn (SetF B G) w W) := ⟨⟨G, _, H0, (nums_zero 1024 0).symm, rfl⟩, T0.mono (fun j q => Or.inr q)⟩
  clear H0 T0
  go_enter Tryd.func23, Tryd.ntmps23
  go_wp2_with fail
  refine hrw.mono ?_; rintro e w1 ⟨rfl, rfl⟩
  go_wp2_with fail
  go_end0
  exact ⟨rfl, HR.out⟩
end Go.Proofs.YtiolicadnomagaaDoor
