/-
  What the document's own Edges, Readers, may (gavelkindref12) answer, for whatever graph. The condition: what a graph's rows always are.
-/
import Derived.Test.YtpnhlfbohchmbaaRefIg
import Derived.Test.YtpnhlfbohchmbaaGrT
namespace Go.Proofs.Ytpnhlfbohchmbaa
open Go.RowKit
set_option linter.unusedSimpArgs false
set_option linter.unusedVariables false

set_option maxHeartbeats 1000000 in
theorem r12edges {w : World} {x : Value} {R : List (List Int)} (h : GRef w x R) (hE : gedges R ≤ 400000000) (hR : R.length ≤ 20000) :
    Calls Try.prog 24 #[x] w fun e w' => e = .returned (.int .i64 (gedges R : Nat)) ∧ Below w.heap.size w w' := by
  obtain ⟨a, c, us, rfl, h2, h3, h4, h5, h6⟩ := h
  have hb := below1 w (.cells #[.slice a R.length c] 29)
  have H5 := Lib.hid h5; have H6 := Lib.hid h6
  have HT := Lib.hid (edges_there R)
  have HB := Lib.hid hb
  have hbx : (w.alloc (.cells #[.slice a R.length c] 29)).cell? ⟨w.heap.size, 0, none⟩ = some (.slice a R.length c) := by simp
  clear h5 h6 hb
  go_enter Try.func24, Try.ntmps24
  go_wp2_with fail
  generalize hW : w.alloc (.cells #[.slice a R.length c] 29) = W at *
  clear hW
  go_loopw [3, 4] (fun n i wr => ∃ (k N : Nat), k ≤ R.length ∧ i = .int .i64 (k : Int) ∧ n = .int .i64 (N : Int) ∧ N = sumN k (fun u => (gR R u).length) ∧ wr = W) (fun n i _ => R.length - (intOf i).toNat)
  case atStart => exact ⟨0, 0, Nat.zero_le _, rfl, rfl, rfl, rfl⟩
  case round =>
    obtain ⟨k, N, hk, rfl, rfl, hN, rfl⟩ := hrel
    have hNb : N ≤ 400000000 := by rw [hN]; exact Nat.le_trans (sumN_le hk) (by rw [← HT.out]; exact hE)
    have HN := Lib.hid hN
    clear hN
    by_cases hlt : k < R.length
    · obtain ⟨b, off, sa, sc, rfl, hc, _, _, _⟩ := GRef.at h4 H5.out H6.out hlt
      have hc2 := (HB.out.cell (World.block_lt_of_cell? w _ hc)).trans hc
      have i0 : (0 : Int) ≤ (k : Int) := by omega
      have i1 : (k : Int) < (R.length : Int) := by omega
      have hnn : N + (gR R k).length ≤ 400000000 := by
        have : N + (gR R k).length = sumN (k + 1) (fun u => (gR R u).length) := by show _ = sumN k _ + _; rw [← HN.out]
        rw [this]; exact Nat.le_trans (sumN_le hlt) (by rw [← HT.out]; exact hE)
      have HN2 : Hid (N + (gR R k).length = sumN (k + 1) (fun u => (gR R u).length)) := by show _ = sumN k _ + _; rw [← HN.out]
      obtain ⟨p, hp⟩ : ∃ p, p = (gR R k).length := ⟨_, rfl⟩
      rw [← hp] at hc2 hnn HN2
      clear hc hp
      go_wp2_with fail
      go_roundw
      · exact ⟨k + 1, N + p, by omega, by go_num, by go_num, HN2.out, by first | rfl | trivial⟩
      · simp [intOf]; omega
    · obtain rfl : k = R.length := by omega
      have hd0 : decide ((R.length : Int) < (R.length : Int)) = false := decide_eq_false (by omega)
      have HE : Hid (N = gedges R) := HN.out.trans HT.out.symm
      go_wp2_with fail
      go_ret
      exact ⟨by rw [← HE.out]; rfl, HB.out⟩
/-- The readers among the first so many nodes. -/
def rdk (R : List (List Int)) (z : Int) (k : Nat) : List Int := ((List.range k).filter fun u => decide (z ∈ gR R u)).map fun u => ((u : Nat) : Int)
theorem rdk_all (R : List (List Int)) (z : Int) : rdk R z R.length = grdrs R z := rfl
theorem rdk_step (R : List (List Int)) (z : Int) (k : Nat) : rdk R z (k + 1) = if z ∈ gR R k then rdk R z k ++ [(k : Int)] else rdk R z k := by
  unfold rdk
  rw [List.range_succ, List.filter_append, List.map_append]
  by_cases h : z ∈ gR R k <;> simp [h]
theorem rdk_len (R : List (List Int)) (z : Int) (k : Nat) : (rdk R z k).length ≤ k := by
  unfold rdk
  rw [List.length_map]
  exact Nat.le_trans (List.length_filter_le _ _) (by simp)
set_option maxHeartbeats 1000000 in
theorem r12readers {w : World} {x : Value} {R : List (List Int)} (h : GRef w x R) (hI : ∀ v, (gR R v).length ≤ 20000) (hR : R.length ≤ 20000) (z : Int) :
    Calls Try.prog 16 #[x, .int .i64 z] w fun e w' => ∃ u, e = .returned u ∧ Own w' w.heap.size u (grdrs R z) ∧ Below w.heap.size w w' := by
  have hx := h
  obtain ⟨a, c, us, rfl, _, _, _, _, _⟩ := hx
  have hb := below1 w (.cells #[.slice a R.length c] 29)
  have HG := Lib.hid (h.below hb)
  have hbx : (w.alloc (.cells #[.slice a R.length c] 29)).cell? ⟨w.heap.size, 0, none⟩ = some (.slice a R.length c) := by simp
  have hsz : (w.alloc (.cells #[.slice a R.length c] 29)).heap.size = w.heap.size + 1 := by simp
  have HB := Lib.hid hb
  have HAL := Lib.hid (rdk_all R z)
  clear h hb
  go_enter Try.func16, Try.ntmps16
  go_wp2_with fail
  generalize hW : w.alloc (.cells #[.slice a R.length c] 29) = W at *
  clear hW
  go_loopw [5, 6] (fun o i wr => ∃ (k : Nat), k ≤ R.length ∧ i = .int .i64 (k : Int) ∧ Own wr W.heap.size o (rdk R z k) ∧ Below W.heap.size W wr) (fun o i _ => R.length - (intOf i).toNat)
  case atStart => exact ⟨0, Nat.zero_le _, rfl, Own.nil _ _, Below.refl _ _⟩
  case round =>
    obtain ⟨k, hk, rfl, hown, hbw⟩ := hrel
    have hbx2 := (hbw.cell (p := ⟨w.heap.size, 0, none⟩) (by show w.heap.size < W.heap.size; omega)).trans hbx
    by_cases hlt : k < R.length
    · have dk : decide ((k : Int) < (R.length : Int)) = true := decide_eq_true (by omega)
      have hh := r12has (HG.out.below hbw) hI hR (k : Int) z
      have hg : ghas R (k : Int) z = decide (z ∈ gR R k) := by unfold ghas; rw [greads_nat hlt]
      rw [hg] at hh
      have HST := Lib.hid (rdk_step R z k)
      have hlen := rdk_len R z k
      have HO := Lib.hid hown; have HBW := Lib.hid hbw
      clear hown hbw
      by_cases hz : z ∈ gR R k
      · rw [decide_eq_true hz] at hh
        rw [if_pos hz] at HST
        go_wp2_with fail
        refine hh.mono ?_; rintro e w2 ⟨rfl, hb2⟩
        have HO2 := Lib.hid (HO.out.below hb2)
        have hbx3 := (hb2.cell (p := ⟨w.heap.size, 0, none⟩) (World.block_lt_of_cell? _ _ hbx2)).trans hbx2
        have HB2 := Lib.hid (HBW.out.trans (hb2.mono HBW.out.size))
        have hle : W.heap.size ≤ w2.heap.size := HB2.out.size
        clear hb2
        go_wp2_with
          (at_builtin
           refine wp_push w2 rfl (.tmp 18) (.tmp 20) rfl W.heap.size _ (rdk R z k) (k : Int) rfl HO2.out rfl (by omega) hle ?_
           intro v3 w3 hown3 hb3
           have HO3 := Lib.hid hown3; have HB3 := Lib.hid hb3
           clear hown3 hb3)
        go_roundw
        · exact ⟨k + 1, by omega, by go_num, by rw [HST.out]; exact HO3.out, HB2.out.trans HB3.out⟩
        · simp [intOf]; omega
      · rw [decide_eq_false hz] at hh
        rw [if_neg hz] at HST
        go_wp2_with fail
        refine hh.mono ?_; rintro e w2 ⟨rfl, hb2⟩
        have HO2 := Lib.hid (HO.out.below hb2)
        have HB2 := Lib.hid (HBW.out.trans (hb2.mono HBW.out.size))
        clear hb2
        go_wp2_with fail
        go_roundw
        · exact ⟨k + 1, by omega, by go_num, by rw [HST.out]; exact HO2.out, HB2.out⟩
        · simp [intOf]; omega
    · obtain rfl : k = R.length := by omega
      have hd0 : decide ((R.length : Int) < (R.length : Int)) = false := decide_eq_false (by omega)
      have HO : Hid (Own wr w.heap.size _ (grdrs R z)) := own_low (a := W.heap.size) (by rw [← HAL.out]; exact hown) (by omega)
      have HBW := Lib.hid (HB.out.trans (hbw.mono (by omega)))
      clear hown hbw
      go_wp2_with fail
      go_ret
      exact ⟨_, rfl, HO.out, HBW.out⟩
end Go.Proofs.Ytpnhlfbohchmbaa
