/-
  Whether two lists of lists are the same (gavelkindref14). The conditions: the document's graph; at most 10^6 numbers.
-/
import Derived.Test.YthaepdkeakmfaaaOr4
namespace Go.Proofs.Ythaepdkeakmfaaa
open Go.RowKit
set_option linter.unusedSimpArgs false
set_option linter.unusedVariables false

theorem rows_at {w : World} {base : Nat} {u : Value} {rs : List (List Int)} (h : RowsR w base u rs) {k : Nat} (hk : k < rs.length) : ∃ g cap a c, u = .slice (some ⟨g, 0, none⟩) rs.length cap ∧ w.cell? ⟨g, k, none⟩ = some (.slice a (rAt rs k).length c) ∧ (rAt rs k).length ≤ c ∧ (a = none → c = 0) ∧ Reads w a (rAt rs k) := by
  obtain ⟨us, h1, h2, h3⟩ := h
  obtain ⟨g, cap, rfl⟩ := ownI_some h1 (by omega)
  obtain ⟨a, c, e, h4, h5, h6⟩ := h3 k hk
  refine ⟨g, cap, a, c, rfl, ?_, h4, h5, h6⟩
  rw [World.ownsRow.cellAt h1 k (by omega), ← e]
  simp [List.getD, show k < us.length by omega]
theorem rows_form {w : World} {base : Nat} {u : Value} {rs : List (List Int)} (h : RowsR w base u rs) : ∃ a c, u = .slice a rs.length c := by
  obtain ⟨us, h1, _⟩ := h
  exact (ownsRow_slc h1).form
theorem take_rows {rs ss : List (List Int)} {k : Nat} (h1 : k < rs.length) (h2 : k < ss.length) (he : rs.take k = ss.take k) (hz : rAt rs k = rAt ss k) : rs.take (k + 1) = ss.take (k + 1) := by
  rw [List.take_succ_eq_append_getElem h1, List.take_succ_eq_append_getElem h2, he]
  rw [rAt_lt h1, rAt_lt h2] at hz
  rw [hz]
set_option maxHeartbeats 2000000 in
set_option maxRecDepth 100000 in
theorem r14same {w : World} {b1 b2 : Nat} {u v : Value} {rs ss : List (List Int)} (h1 : RowsR w b1 u rs) (h2 : RowsR w b2 v ss) (hn : rs.length ≤ 1000000) (hr : ∀ k, k < rs.length → (rAt rs k).length ≤ 1000000) :
    Calls Try.prog 14 #[u, v] w fun e w' => e = .returned (.bool (decide (rs = ss))) ∧ Below w.heap.size w w' := by
  obtain ⟨ua, uc, rfl⟩ := rows_form h1
  obtain ⟨va, vc, rfl⟩ := rows_form h2
  obtain ⟨r, hrr⟩ : ∃ r, r = decide (rs = ss) := ⟨_, rfl⟩
  rw [← hrr]
  have HR := Lib.hid hrr
  clear hrr
  by_cases hl : rs.length = ss.length
  · have H1 := Lib.hid h1
    have H2 := Lib.hid h2
    have HL := Lib.hid hl
    have HRL := Lib.hid hr
    rw [← hl]
    have dl : ((rs.length : Int) != (rs.length : Int)) = false := by simp
    clear h1 h2 hl hr
    go_enter Try.func14, Try.ntmps14
    go_wp2_with fail
    go_loopw [5] (fun i wr => ∃ k : Nat, k ≤ rs.length ∧ i = .int .i64 (k : Int) ∧ rs.take k = ss.take k ∧ Below w.heap.size w wr) (fun i _ => rs.length - (RowKit.intOf i).toNat)
    case atStart => exact ⟨0, Nat.zero_le _, rfl, by simp, Below.refl _ _⟩
    case round =>
      obtain ⟨k, hk, rfl, hok, hb⟩ := hrel
      by_cases hlt : k < rs.length
      · obtain ⟨ga, cap1, a1, c1, e1, g1, _, _, r1⟩ := rows_at (H1.out.below hb) hlt
        obtain ⟨gb, cap2, a2, c2, e2, g2, _, _, r2⟩ := rows_at (k := k) (H2.out.below hb) (by have := HL.out; omega)
        injection e1 with e1a _ e1c
        injection e2 with e2a _ e2c
        subst e1a e1c e2a e2c
        have hsm := same_any a1 a2 c1 c2 (rAt rs k) (rAt ss k) wr.drew (r1.below (Below.refl _ _).drew) (r2.below (Below.refl _ _).drew) (by have := HRL.out k hlt; omega)
        have i0 : (0 : Int) ≤ (k : Int) := by omega
        have i1 : (k : Int) < (rs.length : Int) := by omega
        have d0 : decide ((k : Int) < (rs.length : Int)) = true := decide_eq_true i1
        have d0n : decide (k < rs.length) = true := decide_eq_true hlt
        have HN := Lib.hid (take_rows (rs := rs) (ss := ss) (k := k) hlt (by have := HL.out; omega) hok)
        have HNE : Hid (rAt rs k ≠ rAt ss k → rs ≠ ss) := fun q e => q (by rw [e])
        generalize (rAt rs k).length = n1 at *
        generalize (rAt ss k).length = n2 at *
        have hS : Hid (∀ W', Below wr.heap.size wr W' → W'.cell? ⟨ga, k, none⟩ = some (.slice a1 n1 c1) ∧ W'.cell? ⟨gb, k, none⟩ = some (.slice a2 n2 c2)) := fun W' q => ⟨(q.cell (World.block_lt_of_cell? _ _ g1)).trans g1, (q.cell (World.block_lt_of_cell? _ _ g2)).trans g2⟩
        have HB := Lib.hid hb
        have HLT := Lib.hid hlt
        clear g1 g2 r1 r2 hok hb hlt hk
        by_cases hz : rAt rs k = rAt ss k
        · rw [decide_eq_true hz] at hsm
          have HNX := Lib.hid (HN.out hz)
          clear hz
          go_wp2_with fail
          refine wp_region_held_drew (S := fun wz => wz.cell? ⟨ga, k, none⟩ = some (.slice a1 n1 c1) ∧ wz.cell? ⟨gb, k, none⟩ = some (.slice a2 n2 c2)) (by kernel_rfl) (hS.out _ (Below.refl _ _).drew) (fun hHeld => ?_)
          refine wpAnyH_take (i := 0) (v := ?_) rfl (by kernel_rfl) (by kernel_rfl) (by kernel_rfl) (fun _ _ _ h => h) (Or.inl ⟨by rfl, ?y0⟩) (by assumption) ?_
          case y0 => intro w hSw; (try dsimp only at hSw); go_simp; (try with_reducible rfl)
          (try simp only [Act.put, List.setIfInBounds_toArray, List.set_cons_zero, List.set_cons_succ, List.getElem_toArray, List.getElem_cons_zero, List.getElem_cons_succ])
          refine wpAnyH_take (i := 1) (v := ?_) rfl (by kernel_rfl) (by kernel_rfl) (by kernel_rfl) (fun _ _ _ h => h) (Or.inl ⟨by rfl, ?y1⟩) (by assumption) ?_
          case y1 => intro w hSw; (try dsimp only at hSw); go_simp; (try with_reducible rfl)
          (try simp only [Act.put, List.setIfInBounds_toArray, List.set_cons_zero, List.set_cons_succ, List.getElem_toArray, List.getElem_cons_zero, List.getElem_cons_succ])
          refine wpAnyH_take (i := 2) (v := ?_) rfl (by kernel_rfl) (by kernel_rfl) (by kernel_rfl) (fun _ _ _ h => h) (Or.inl ⟨by rfl, ?y2⟩) (by assumption) ?_
          case y2 => intro w hSw; (try dsimp only at hSw); go_simp; (try with_reducible rfl)
          (try simp only [Act.put, List.setIfInBounds_toArray, List.set_cons_zero, List.set_cons_succ, List.getElem_toArray, List.getElem_cons_zero, List.getElem_cons_succ])
          refine wpAnyH_take (i := 3) (v := ?_) rfl (by kernel_rfl) (by kernel_rfl) (by kernel_rfl) (fun _ _ _ h => h) (Or.inl ⟨by rfl, ?y3⟩) (by assumption) ?_
          case y3 => intro w hSw; (try dsimp only at hSw); go_simp; (try with_reducible rfl)
          (try simp only [Act.put, List.setIfInBounds_toArray, List.set_cons_zero, List.set_cons_succ, List.getElem_toArray, List.getElem_cons_zero, List.getElem_cons_succ])
          refine wpAnyH_take (i := 4) (v := ?_) rfl (by kernel_rfl) (by kernel_rfl) (by kernel_rfl) (fun _ _ _ h => h) (Or.inl ⟨by rfl, ?y4⟩) (by assumption) ?_
          case y4 => intro w hSw; (try dsimp only at hSw); go_simp; (try with_reducible rfl)
          (try simp only [Act.put, List.setIfInBounds_toArray, List.set_cons_zero, List.set_cons_succ, List.getElem_toArray, List.getElem_cons_zero, List.getElem_cons_succ])
          refine wpAnyH_take (i := 5) (v := ?_) rfl (by kernel_rfl) (by kernel_rfl) (by kernel_rfl) (fun _ _ _ h => h) (Or.inl ⟨by rfl, ?y5⟩) (by assumption) ?_
          case y5 => intro w hSw; (try dsimp only at hSw); go_simp; (try with_reducible rfl)
          (try simp only [Act.put, List.setIfInBounds_toArray, List.set_cons_zero, List.set_cons_succ, List.getElem_toArray, List.getElem_cons_zero, List.getElem_cons_succ])
          refine wpAnyH_take (i := 6) (v := ?_) rfl (by kernel_rfl) (by kernel_rfl) (by kernel_rfl) (fun _ _ _ h => h) (Or.inl ⟨by rfl, ?y6⟩) (by assumption) ?_
          case y6 => intro w hSw; (try dsimp only at hSw); go_simp; (try with_reducible rfl)
          (try simp only [Act.put, List.setIfInBounds_toArray, List.set_cons_zero, List.set_cons_succ, List.getElem_toArray, List.getElem_cons_zero, List.getElem_cons_succ])
          refine wpAnyH_take (i := 7) (v := ?_) rfl (by kernel_rfl) (by kernel_rfl) (by kernel_rfl) (fun _ _ _ h => h) (Or.inl ⟨by rfl, ?y7⟩) (by assumption) ?_
          case y7 => intro w hSw; (try dsimp only at hSw); go_simp; (try with_reducible rfl)
          (try simp only [Act.put, List.setIfInBounds_toArray, List.set_cons_zero, List.set_cons_succ, List.getElem_toArray, List.getElem_cons_zero, List.getElem_cons_succ])
          refine wpAnyH_ready (rs := [8]) (by kernel_rfl) (by simp) ?_
          refine AllReadyH.cons rfl (fun K hK => ?_) AllReadyH.nil
          go_simp
          refine hsm.mono ?_; clear hsm; rintro e y8 ⟨rfl, hb8⟩
          have HB8 := Lib.hid hb8
          clear hb8
          refine hK.out _ _ (hS.out _ ((Below.refl _ _).drew.trans HB8.out)) (fun hHeld => ?_)
          clear hK K
          (try simp only [Act.put, List.setIfInBounds_toArray, List.set_cons_zero, List.set_cons_succ, List.getElem_toArray, List.getElem_cons_zero, List.getElem_cons_succ])
          refine wpAnyH_take (i := 9) (v := ?_) rfl (by kernel_rfl) (by kernel_rfl) (by kernel_rfl) (fun _ _ _ h => h) (Or.inl ⟨by rfl, ?y9⟩) (by assumption) ?_
          case y9 => intro w hSw; (try dsimp only at hSw); go_simp; (try with_reducible rfl)
          (try simp only [Act.put, List.setIfInBounds_toArray, List.set_cons_zero, List.set_cons_succ, List.getElem_toArray, List.getElem_cons_zero, List.getElem_cons_succ])
          refine wpAnyH_done (by kernel_rfl) ?_ _
          go_wp2_with fail
          go_roundw
          · exact ⟨k + 1, HLT.out, by go_num, HNX.out, (HB.out.drew).trans (HB8.out.mono (by have := HB.out.size; exact this))⟩
          · have := HLT.out; simp [RowKit.intOf]; omega
        · rw [decide_eq_false hz] at hsm
          have hrf : r = false := by rw [HR.out]; exact decide_eq_false (HNE.out hz)
          subst hrf
          clear hz
          go_wp2_with fail
          refine wp_region_held_drew (S := fun wz => wz.cell? ⟨ga, k, none⟩ = some (.slice a1 n1 c1) ∧ wz.cell? ⟨gb, k, none⟩ = some (.slice a2 n2 c2)) (by kernel_rfl) (hS.out _ (Below.refl _ _).drew) (fun hHeld => ?_)
          refine wpAnyH_take (i := 0) (v := ?_) rfl (by kernel_rfl) (by kernel_rfl) (by kernel_rfl) (fun _ _ _ h => h) (Or.inl ⟨by rfl, ?y0⟩) (by assumption) ?_
          case y0 => intro w hSw; (try dsimp only at hSw); go_simp; (try with_reducible rfl)
          (try simp only [Act.put, List.setIfInBounds_toArray, List.set_cons_zero, List.set_cons_succ, List.getElem_toArray, List.getElem_cons_zero, List.getElem_cons_succ])
          refine wpAnyH_take (i := 1) (v := ?_) rfl (by kernel_rfl) (by kernel_rfl) (by kernel_rfl) (fun _ _ _ h => h) (Or.inl ⟨by rfl, ?y1⟩) (by assumption) ?_
          case y1 => intro w hSw; (try dsimp only at hSw); go_simp; (try with_reducible rfl)
          (try simp only [Act.put, List.setIfInBounds_toArray, List.set_cons_zero, List.set_cons_succ, List.getElem_toArray, List.getElem_cons_zero, List.getElem_cons_succ])
          refine wpAnyH_take (i := 2) (v := ?_) rfl (by kernel_rfl) (by kernel_rfl) (by kernel_rfl) (fun _ _ _ h => h) (Or.inl ⟨by rfl, ?y2⟩) (by assumption) ?_
          case y2 => intro w hSw; (try dsimp only at hSw); go_simp; (try with_reducible rfl)
          (try simp only [Act.put, List.setIfInBounds_toArray, List.set_cons_zero, List.set_cons_succ, List.getElem_toArray, List.getElem_cons_zero, List.getElem_cons_succ])
          refine wpAnyH_take (i := 3) (v := ?_) rfl (by kernel_rfl) (by kernel_rfl) (by kernel_rfl) (fun _ _ _ h => h) (Or.inl ⟨by rfl, ?y3⟩) (by assumption) ?_
          case y3 => intro w hSw; (try dsimp only at hSw); go_simp; (try with_reducible rfl)
          (try simp only [Act.put, List.setIfInBounds_toArray, List.set_cons_zero, List.set_cons_succ, List.getElem_toArray, List.getElem_cons_zero, List.getElem_cons_succ])
          refine wpAnyH_take (i := 4) (v := ?_) rfl (by kernel_rfl) (by kernel_rfl) (by kernel_rfl) (fun _ _ _ h => h) (Or.inl ⟨by rfl, ?y4⟩) (by assumption) ?_
          case y4 => intro w hSw; (try dsimp only at hSw); go_simp; (try with_reducible rfl)
          (try simp only [Act.put, List.setIfInBounds_toArray, List.set_cons_zero, List.set_cons_succ, List.getElem_toArray, List.getElem_cons_zero, List.getElem_cons_succ])
          refine wpAnyH_take (i := 5) (v := ?_) rfl (by kernel_rfl) (by kernel_rfl) (by kernel_rfl) (fun _ _ _ h => h) (Or.inl ⟨by rfl, ?y5⟩) (by assumption) ?_
          case y5 => intro w hSw; (try dsimp only at hSw); go_simp; (try with_reducible rfl)
          (try simp only [Act.put, List.setIfInBounds_toArray, List.set_cons_zero, List.set_cons_succ, List.getElem_toArray, List.getElem_cons_zero, List.getElem_cons_succ])
          refine wpAnyH_take (i := 6) (v := ?_) rfl (by kernel_rfl) (by kernel_rfl) (by kernel_rfl) (fun _ _ _ h => h) (Or.inl ⟨by rfl, ?y6⟩) (by assumption) ?_
          case y6 => intro w hSw; (try dsimp only at hSw); go_simp; (try with_reducible rfl)
          (try simp only [Act.put, List.setIfInBounds_toArray, List.set_cons_zero, List.set_cons_succ, List.getElem_toArray, List.getElem_cons_zero, List.getElem_cons_succ])
          refine wpAnyH_take (i := 7) (v := ?_) rfl (by kernel_rfl) (by kernel_rfl) (by kernel_rfl) (fun _ _ _ h => h) (Or.inl ⟨by rfl, ?y7⟩) (by assumption) ?_
          case y7 => intro w hSw; (try dsimp only at hSw); go_simp; (try with_reducible rfl)
          (try simp only [Act.put, List.setIfInBounds_toArray, List.set_cons_zero, List.set_cons_succ, List.getElem_toArray, List.getElem_cons_zero, List.getElem_cons_succ])
          refine wpAnyH_ready (rs := [8]) (by kernel_rfl) (by simp) ?_
          refine AllReadyH.cons rfl (fun K hK => ?_) AllReadyH.nil
          go_simp
          refine hsm.mono ?_; clear hsm; rintro e y8 ⟨rfl, hb8⟩
          have HB8 := Lib.hid hb8
          clear hb8
          refine hK.out _ _ (hS.out _ ((Below.refl _ _).drew.trans HB8.out)) (fun hHeld => ?_)
          clear hK K
          (try simp only [Act.put, List.setIfInBounds_toArray, List.set_cons_zero, List.set_cons_succ, List.getElem_toArray, List.getElem_cons_zero, List.getElem_cons_succ])
          refine wpAnyH_take (i := 9) (v := ?_) rfl (by kernel_rfl) (by kernel_rfl) (by kernel_rfl) (fun _ _ _ h => h) (Or.inl ⟨by rfl, ?y9⟩) (by assumption) ?_
          case y9 => intro w hSw; (try dsimp only at hSw); go_simp; (try with_reducible rfl)
          (try simp only [Act.put, List.setIfInBounds_toArray, List.set_cons_zero, List.set_cons_succ, List.getElem_toArray, List.getElem_cons_zero, List.getElem_cons_succ])
          refine wpAnyH_done (by kernel_rfl) ?_ _
          go_wp2_with fail
          go_ret
          exact ⟨rfl, (HB.out.drew).trans (HB8.out.mono (by have := HB.out.size; exact this))⟩
      · obtain rfl : k = rs.length := by omega
        have hd0 : decide ((rs.length : Int) < (rs.length : Int)) = false := decide_eq_false (by omega)
        have hrt : r = true := by
          rw [HR.out]
          refine decide_eq_true ?_
          rw [List.take_length, HL.out, List.take_length] at hok
          exact hok
        subst hrt
        have HB := Lib.hid hb
        clear hok hb hk hlt
        go_wp2_with fail
        go_ret
        exact ⟨rfl, HB.out⟩
  · have hrf : r = false := by rw [HR.out]; exact decide_eq_false (fun e => hl (by rw [e]))
    subst hrf
    have dl : ((rs.length : Int) != (ss.length : Int)) = true := by simp; omega
    clear h1 h2 hr
    go_enter Try.func14, Try.ntmps14
    go_wp2_with fail
    go_ret
    exact ⟨rfl, Below.refl _ _⟩
end Go.Proofs.Ythaepdkeakmfaaa
