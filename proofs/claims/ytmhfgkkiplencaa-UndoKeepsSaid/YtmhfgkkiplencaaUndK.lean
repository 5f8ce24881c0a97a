/-
  UndoKeeps of layer 16 answers true, for whatever calls. No conditions.
-/
import Derived.Test.YtmhfgkkiplencaaUndT
namespace Go.Proofs.Ytmhfgkkiplencaa
open Go.RowKit Go.Maps
set_option linter.unusedSimpArgs false
set_option linter.unusedVariables false

set_option maxHeartbeats 8000000 in
set_option maxRecDepth 100000 in
theorem keeps16 (a0 : Option Addr) (c0 : Nat) (l : List (Int × Int × Int)) (a1 : Option Addr) (c1 : Nat) (m : List (Int × Int × Int)) (w : World) (hl : ReadsV w a0 l) (hm : ReadsV w a1 m) :
    Calls Try.prog 5 #[.slice a0 l.length c0, .slice a1 m.length c1] w fun e w' => e = .returned (.bool true) ∧ Below w.heap.size w w' := by
  by_cases hl40 : 40 < l.length
  · have d0 : decide (40 < l.length) = true := decide_eq_true hl40
    have d1 : decide ((40 : Int) < (l.length : Int)) = true := decide_eq_true (by omega)
    have hn := new_u [] (by decide) w
    clear hl hm hl40
    go_enter Try.func5, Try.ntmps5
    go_wp2_with fail
    refine hn.mono ?_; clear hn; rintro e w1 ⟨A, F1, rfl, h1, h2, h3⟩
    have hn2 := new_u [] (by decide) w1
    go_wp2_with fail
    refine hn2.mono ?_; clear hn2; rintro e w2 ⟨B, F2, rfl, k1, k2, k3⟩
    have HT := Lib.hid (two_new h1 h2 h3 k1 k2 k3)
    clear h1 h2 h3 k1 k2 k3
    go_wp2_with fail
    refine (awake16 _).mono ?_; rintro e w3 ⟨rfl, hb⟩
    go_wp2_with fail
    go_ret
    exact ⟨rfl, HT.out.b.trans (hb.mono HT.out.b.size)⟩
  have d0 : decide (40 < l.length) = false := decide_eq_false hl40
  have d1 : decide ((40 : Int) < (l.length : Int)) = false := decide_eq_false (by omega)
  by_cases hmm : 40 < m.length
  · have d2 : decide (40 < m.length) = true := decide_eq_true hmm
    have d3 : decide ((40 : Int) < (m.length : Int)) = true := decide_eq_true (by omega)
    have hn := new_u [] (by decide) w
    clear hl hm hl40 hmm
    go_enter Try.func5, Try.ntmps5
    go_wp2_with fail
    refine hn.mono ?_; clear hn; rintro e w1 ⟨A, F1, rfl, h1, h2, h3⟩
    have hn2 := new_u [] (by decide) w1
    go_wp2_with fail
    refine hn2.mono ?_; clear hn2; rintro e w2 ⟨B, F2, rfl, k1, k2, k3⟩
    have HT := Lib.hid (two_new h1 h2 h3 k1 k2 k3)
    clear h1 h2 h3 k1 k2 k3
    go_wp2_with fail
    refine (awake16 _).mono ?_; rintro e w3 ⟨rfl, hb⟩
    go_wp2_with fail
    go_ret
    exact ⟨rfl, HT.out.b.trans (hb.mono HT.out.b.size)⟩
  have d2 : decide (40 < m.length) = false := decide_eq_false hmm
  have d3 : decide ((40 : Int) < (m.length : Int)) = false := decide_eq_false (by omega)
  obtain ⟨U, hU⟩ : ∃ U, U = ukeys l ++ ukeys m := ⟨_, rfl⟩
  have hUl : U.length ≤ 1000000 := by rw [hU, List.length_append]; unfold ukeys; rw [List.length_map, List.length_map]; omega
  have HKL : Hid (∀ i, i < l.length → (l.getD i (0, 0, 0)).2.1 ∈ U) := fun i hi => by rw [hU]; exact List.mem_append_left _ (ukeys_at hi)
  have HKM : Hid (∀ i, i < m.length → (m.getD i (0, 0, 0)).2.1 ∈ U) := fun i hi => by rw [hU]; exact List.mem_append_right _ (ukeys_at hi)
  have HL := Lib.hid hl; have HM := Lib.hid hm
  have HN : Hid (l.length ≤ 40 ∧ m.length ≤ 40 ∧ U.length ≤ 1000000) := ⟨by omega, by omega, hUl⟩
  have hn := new_u U hUl w
  clear hl hm hl40 hmm hU hUl
  go_enter Try.func5, Try.ntmps5
  go_wp2_with fail
  refine hn.mono ?_; clear hn; rintro e w1 ⟨A, F1, rfl, h1, h2, h3⟩
  have hn2 := new_u U HN.out.2.2 w1
  go_wp2_with fail
  refine hn2.mono ?_; clear hn2; rintro e w2 ⟨B, F2, rfl, k1, k2, k3⟩
  have HT := Lib.hid (two_new h1 h2 h3 k1 k2 k3)
  clear h1 h2 h3 k1 k2 k3
  go_wp2_with fail
  clear d0 d1 d2 d3
  have H0 : Hid (∃ (k : Nat) (s : USt), k ≤ l.length ∧ (Value.int .i64 0) = .int .i64 (k : Int) ∧ s.2.length ≤ k ∧ TwoU w w2 A B U s s) := ⟨0, ([], []), Nat.zero_le _, rfl, Nat.le_refl _, HT.out⟩
  clear HT
  go_loopw [7] (fun i wr => ∃ (k : Nat) (s : USt), k ≤ l.length ∧ i = .int .i64 (k : Int) ∧ s.2.length ≤ k ∧ TwoU w wr A B U s s) (fun i _ => l.length - (intOf i).toNat)
  case atStart => exact H0.out
  case round =>
    clear H0
    obtain ⟨k, s, hk, rfl, hs, hT⟩ := hrel
    by_cases hlt : k < l.length
    · obtain ⟨b, off, e0, c1, c2, c3, r1, r2, r3⟩ := HL.out.below hT.b k hlt
      have hkU := HKL.out k hlt
      have HC : Hid (∀ wy, Below w.heap.size w wy → wy.cell? ⟨b, off + k * 3, none⟩ = some (.int .i64 (l.getD k (0, 0, 0)).1) ∧ wy.cell? ⟨b, off + k * 3 + 1, none⟩ = some (.int .i64 (l.getD k (0, 0, 0)).2.1) ∧ wy.cell? ⟨b, off + k * 3 + 2, none⟩ = some (.int .i64 (l.getD k (0, 0, 0)).2.2)) := fun wy h => by
        obtain ⟨b', off', e, q1, q2, q3, _⟩ := HL.out.below h k hlt
        rw [e0] at e
        cases e
        exact ⟨q1, q2, q3⟩
      subst e0
      have i0 : (0 : Int) ≤ (k : Int) := by omega
      have i1 : (k : Int) < (l.length : Int) := by omega
      have kb := HN.out.1
      generalize (l.getD k (0, 0, 0)).1 = d at *
      generalize (l.getD k (0, 0, 0)).2.1 = x at *
      generalize (l.getD k (0, 0, 0)).2.2 = y at *
      have hdo := two_do hT d x y hkU r2 r3
      have HQ : Hid (∀ wy, TwoU w wy A B U (udo s d x y) s → Calls Try.prog 8 #[.pointer (some ⟨B, 0, none⟩), .agg #[.int .i64 d, .int .i64 x, .int .i64 y]] wy fun e w' => e = .returned (.int .i64 (udoE s d x)) ∧ TwoU w w' A B U (udo s d x y) (udo s d x y)) := fun wy h => (two_do h.swap d x y hkU r2 r3).mono fun e w' ⟨h1, h2⟩ => ⟨h1, h2.swap⟩
      have HS := Lib.hid (Nat.le_trans (udo_len s d x y) (Nat.succ_le_succ hs))
      have HLT := Lib.hid hlt
      generalize udo s d x y = s' at *
      generalize udoE s d x = e' at *
      clear hkU r1 r2 r3 hT hs hk hlt
      go_wp2_with fail
      refine hdo.mono ?_; clear hdo; rintro e w3 ⟨rfl, hT⟩
      have hq := HQ.out w3 hT
      obtain ⟨c1, c2, c3⟩ := HC.out w3 hT.b
      clear HQ HC hT
      go_wp2_with fail
      refine hq.mono ?_; clear hq; rintro e w4 ⟨rfl, hT⟩
      have HT := Lib.hid hT
      clear hT c1 c2 c3
      go_wp2_with fail
      go_roundw
      · exact ⟨k + 1, s', HLT.out, by go_num, HS.out, HT.out⟩
      · have := HLT.out; simp [intOf]; omega
    obtain rfl : k = l.length := by omega
    have hd0 : decide ((l.length : Int) < (l.length : Int)) = false := decide_eq_false (by omega)
    have hs40 : s.2.length ≤ 40 := Nat.le_trans hs HN.out.1
    clear hk hlt hs

    obtain ⟨e1, e2⟩ := begin_ok (s := s) (by omega)
    have hbg := two_begin hT
    rw [e1, e2] at hbg
    clear e1 e2 hT
    go_wp2_with fail
    refine hbg.mono ?_; clear hbg; rintro e w3 ⟨rfl, hT⟩
    clear hd0
    go_wp2_with fail
    have H0 : Hid (∃ (k : Nat) (N : Prs), k ≤ m.length ∧ (Value.int .i64 0) = .int .i64 (k : Int) ∧ TwoU w w3 A B U (N, s.1 :: s.2) (N, s.2)) := ⟨0, s.1, Nat.zero_le _, rfl, hT⟩
    clear hT
    go_loopw [8] (fun i wr => ∃ (k : Nat) (N : Prs), k ≤ m.length ∧ i = .int .i64 (k : Int) ∧ TwoU w wr A B U (N, s.1 :: s.2) (N, s.2)) (fun i _ => m.length - (intOf i).toNat)
    case atStart => exact H0.out
    case round =>
      clear H0
      obtain ⟨k, N, hk, rfl, hT⟩ := hrel
      by_cases hlt : k < m.length
      · obtain ⟨b, off, e0, c1, c2, c3, r1, r2, r3⟩ := HM.out.below hT.b k hlt
        have hkU := HKM.out k hlt
        have HC : Hid (∀ wy, Below w.heap.size w wy → wy.cell? ⟨b, off + k * 3, none⟩ = some (.int .i64 (m.getD k (0, 0, 0)).1) ∧ wy.cell? ⟨b, off + k * 3 + 1, none⟩ = some (.int .i64 (m.getD k (0, 0, 0)).2.1) ∧ wy.cell? ⟨b, off + k * 3 + 2, none⟩ = some (.int .i64 (m.getD k (0, 0, 0)).2.2)) := fun wy h => by
          obtain ⟨b', off', e, q1, q2, q3, _⟩ := HM.out.below h k hlt
          rw [e0] at e
          cases e
          exact ⟨q1, q2, q3⟩
        subst e0
        have i0 : (0 : Int) ≤ (k : Int) := by omega
        have i1 : (k : Int) < (m.length : Int) := by omega
        have kb := HN.out.2.1
        generalize (m.getD k (0, 0, 0)).1 = d at *
        generalize (m.getD k (0, 0, 0)).2.1 = x at *
        generalize (m.getD k (0, 0, 0)).2.2 = y at *
        have HLT := Lib.hid hlt
        by_cases hd : d = 0 ∨ d = 1
        · have hdo := two_do hT d x y hkU r2 r3
          have HQ : Hid (∀ wy, TwoU w wy A B U (unow N d x y, s.1 :: s.2) (N, s.2) → Calls Try.prog 8 #[.pointer (some ⟨B, 0, none⟩), .agg #[.int .i64 d, .int .i64 x, .int .i64 y]] wy fun e w' => e = .returned (.int .i64 (udoE (N, s.2) d x)) ∧ TwoU w w' A B U (unow N d x y, s.1 :: s.2) (unow N d x y, s.2)) := fun wy h => (two_do h.swap d x y hkU r2 r3).mono fun e w' ⟨h1, h2⟩ => ⟨h1, (udo_low N s.2 hd x y ▸ h2).swap⟩
          rw [udo_low N _ hd x y, udoE_low N (s.1 :: s.2) s.2 hd x] at hdo
          have hS : wr.cell? ⟨b, off + k * 3, none⟩ = some (.int .i64 d) ∧ wr.cell? ⟨b, off + k * 3 + 1, none⟩ = some (.int .i64 x) ∧ wr.cell? ⟨b, off + k * 3 + 2, none⟩ = some (.int .i64 y) := ⟨c1, c2, c3⟩
          have HT0 := Lib.hid hT.b
          have HDO : Hid (∀ wy, TwoU w wy A B U (N, s.1 :: s.2) (N, s.2) → Calls Try.prog 8 #[.pointer (some ⟨A, 0, none⟩), .agg #[.int .i64 d, .int .i64 x, .int .i64 y]] wy fun e w' => e = .returned (.int .i64 (udoE (N, s.2) d x)) ∧ TwoU w w' A B U (unow N d x y, s.1 :: s.2) (N, s.2)) := fun wy h => by
            have := two_do h d x y hkU r2 r3
            rw [udo_low N _ hd x y, udoE_low N (s.1 :: s.2) s.2 hd x] at this
            exact this
          have HTT := Lib.hid hT
          clear hdo
          generalize unow N d x y = N' at *
          generalize udoE (N, s.2) d x = e' at *
          rcases hd with hd | hd
          · have d0 : (d == 0) = true := by simp [hd]
            clear hkU r1 r2 r3 hT hk hlt hd
            go_wp2_with fail
            refine wp_region_held_drew (S := fun wz => wz.cell? ⟨b, off + k * 3, none⟩ = some (.int .i64 d) ∧ wz.cell? ⟨b, off + k * 3 + 1, none⟩ = some (.int .i64 x) ∧ wz.cell? ⟨b, off + k * 3 + 2, none⟩ = some (.int .i64 y)) (by kernel_rfl) hS (fun hHeld => ?_)
            refine wpAnyH_take (i := 0) (v := ?_) rfl (by kernel_rfl) (by kernel_rfl) (by kernel_rfl) (fun _ _ _ h => h) (Or.inl ⟨by rfl, ?y0⟩) (by assumption) ?_
            case y0 => intro w hSw; (try dsimp only at hSw); go_simp; (try with_reducible rfl)
            (try simp only [Act.put, List.setIfInBounds_toArray, List.set_cons_zero, List.set_cons_succ, List.getElem_toArray, List.getElem_cons_zero, List.getElem_cons_succ])
            refine wpAnyH_take (i := 1) (v := ?_) rfl (by kernel_rfl) (by kernel_rfl) (by kernel_rfl) (fun _ _ _ h => h) (Or.inl ⟨by rfl, ?y1⟩) (by assumption) ?_
            case y1 => intro w hSw; (try dsimp only at hSw); go_simp; (try with_reducible rfl)
            (try simp only [Act.put, List.setIfInBounds_toArray, List.set_cons_zero, List.set_cons_succ, List.getElem_toArray, List.getElem_cons_zero, List.getElem_cons_succ])
            refine wpAnyH_take (i := 2) (v := ?_) rfl (by kernel_rfl) (by kernel_rfl) (by kernel_rfl) (fun _ _ _ h => h) (Or.inl ⟨by rfl, ?y2⟩) (by assumption) ?_
            case y2 => intro w hSw; (try dsimp only at hSw); go_simp; (try with_reducible rfl)
            (try simp only [Act.put, List.setIfInBounds_toArray, List.set_cons_zero, List.set_cons_succ, List.getElem_toArray, List.getElem_cons_zero, List.getElem_cons_succ])
            refine wpAnyH_take (i := 3) (v := ?_) rfl (by kernel_rfl) (by kernel_rfl) (by kernel_rfl) (fun _ _ _ h => h) (Or.inl ⟨by rfl, ?y3⟩) (by assumption) ?_
            case y3 => intro w hSw; (try dsimp only at hSw); go_simp; (try with_reducible rfl)
            (try simp only [Act.put, List.setIfInBounds_toArray, List.set_cons_zero, List.set_cons_succ, List.getElem_toArray, List.getElem_cons_zero, List.getElem_cons_succ])
            refine wpAnyH_take (i := 4) (v := ?_) rfl (by kernel_rfl) (by kernel_rfl) (by kernel_rfl) (fun _ _ _ h => h) (Or.inl ⟨by rfl, ?y4⟩) (by assumption) ?_
            case y4 => intro w hSw; (try dsimp only at hSw); go_simp; (try with_reducible rfl)
            (try simp only [Act.put, List.setIfInBounds_toArray, List.set_cons_zero, List.set_cons_succ, List.getElem_toArray, List.getElem_cons_zero, List.getElem_cons_succ])
            refine wpAnyH_take (i := 6) (v := ?_) rfl (by kernel_rfl) (by kernel_rfl) (by kernel_rfl) (fun _ _ _ h => h) (Or.inl ⟨by rfl, ?y6⟩) (by assumption) ?_
            case y6 => intro w hSw; (try dsimp only at hSw); go_simp; (try with_reducible rfl)
            (try simp only [Act.put, List.setIfInBounds_toArray, List.set_cons_zero, List.set_cons_succ, List.getElem_toArray, List.getElem_cons_zero, List.getElem_cons_succ])
            refine wpAnyH_take (i := 7) (v := ?_) rfl (by kernel_rfl) (by kernel_rfl) (by kernel_rfl) (fun _ _ _ h => h) (Or.inl ⟨by rfl, ?y7⟩) (by assumption) ?_
            case y7 => intro w hSw; (try dsimp only at hSw); go_simp; (try with_reducible rfl)
            (try simp only [Act.put, List.setIfInBounds_toArray, List.set_cons_zero, List.set_cons_succ, List.getElem_toArray, List.getElem_cons_zero, List.getElem_cons_succ])
            refine wpAnyH_take (i := 8) (v := ?_) rfl (by kernel_rfl) (by kernel_rfl) (by kernel_rfl) (fun _ _ _ h => h) (Or.inl ⟨by rfl, ?y8⟩) (by assumption) ?_
            case y8 => intro w hSw; (try dsimp only at hSw); go_simp; (try with_reducible rfl)
            (try simp only [Act.put, List.setIfInBounds_toArray, List.set_cons_zero, List.set_cons_succ, List.getElem_toArray, List.getElem_cons_zero, List.getElem_cons_succ])
            refine wpAnyH_take (i := 9) (v := ?_) rfl (by kernel_rfl) (by kernel_rfl) (by kernel_rfl) (fun _ _ _ h => h) (Or.inl ⟨by rfl, ?y9⟩) (by assumption) ?_
            case y9 => intro w hSw; (try dsimp only at hSw); go_simp; (try with_reducible rfl)
            (try simp only [Act.put, List.setIfInBounds_toArray, List.set_cons_zero, List.set_cons_succ, List.getElem_toArray, List.getElem_cons_zero, List.getElem_cons_succ])
            refine wpAnyH_take (i := 10) (v := ?_) rfl (by kernel_rfl) (by kernel_rfl) (by kernel_rfl) (fun _ _ _ h => h) (Or.inl ⟨by rfl, ?y10⟩) (by assumption) ?_
            case y10 => intro w hSw; (try dsimp only at hSw); go_simp; (try with_reducible rfl)
            (try simp only [Act.put, List.setIfInBounds_toArray, List.set_cons_zero, List.set_cons_succ, List.getElem_toArray, List.getElem_cons_zero, List.getElem_cons_succ])
            refine wpAnyH_ready (rs := [5]) (by kernel_rfl) (by simp) ?_
            refine AllReadyH.cons rfl (fun KK hKK => ?_) AllReadyH.nil
            go_simp
            refine (HDO.out _ (HTT.out.below ((Below.refl _ _).drew))).mono ?_; rintro e w5 ⟨rfl, hT5⟩
            have hq := HQ.out w5 hT5
            refine hKK.out _ _ (HC.out w5 hT5.b) (fun hHeld => ?_)
            clear hKK KK HDO HTT
            (try simp only [Act.put, List.setIfInBounds_toArray, List.set_cons_zero, List.set_cons_succ, List.getElem_toArray, List.getElem_cons_zero, List.getElem_cons_succ])
            refine wpAnyH_ready (rs := [11]) (by kernel_rfl) (by simp) ?_
            refine AllReadyH.cons rfl (fun KK hKK => ?_) AllReadyH.nil
            go_simp
            refine hq.mono ?_; clear hq; rintro e w6 ⟨rfl, hT6⟩
            refine hKK.out _ _ (HC.out w6 hT6.b) (fun hHeld => ?_)
            clear hKK KK
            (try simp only [Act.put, List.setIfInBounds_toArray, List.set_cons_zero, List.set_cons_succ, List.getElem_toArray, List.getElem_cons_zero, List.getElem_cons_succ])
            refine wpAnyH_take (i := 12) (v := ?_) rfl (by kernel_rfl) (by kernel_rfl) (by kernel_rfl) (fun _ _ _ h => h) (Or.inl ⟨by rfl, ?y12⟩) (by assumption) ?_
            case y12 => intro w hSw; (try dsimp only at hSw); go_simp; (try with_reducible rfl)
            (try simp only [Act.put, List.setIfInBounds_toArray, List.set_cons_zero, List.set_cons_succ, List.getElem_toArray, List.getElem_cons_zero, List.getElem_cons_succ])
            refine wpAnyH_done (by kernel_rfl) ?_ _
            have HT6 := Lib.hid (hT6.below ((Below.refl _ _).drew))
            have HT7 := Lib.hid hT6
            clear hT5 hT6 HC HQ HT0
            go_wp2_with fail
            go_roundw
            · exact ⟨k + 1, N', HLT.out, by go_num, HT7.out⟩
            · have := HLT.out; simp [intOf]; omega
          · have d0 : (d == 0) = false := by simp [hd]
            have d1 : (d == 1) = true := by simp [hd]
            clear hkU r1 r2 r3 hT hk hlt hd
            go_wp2_with fail
            refine wp_region_held_drew (S := fun wz => wz.cell? ⟨b, off + k * 3, none⟩ = some (.int .i64 d) ∧ wz.cell? ⟨b, off + k * 3 + 1, none⟩ = some (.int .i64 x) ∧ wz.cell? ⟨b, off + k * 3 + 2, none⟩ = some (.int .i64 y)) (by kernel_rfl) hS (fun hHeld => ?_)
            refine wpAnyH_take (i := 0) (v := ?_) rfl (by kernel_rfl) (by kernel_rfl) (by kernel_rfl) (fun _ _ _ h => h) (Or.inl ⟨by rfl, ?y0⟩) (by assumption) ?_
            case y0 => intro w hSw; (try dsimp only at hSw); go_simp; (try with_reducible rfl)
            (try simp only [Act.put, List.setIfInBounds_toArray, List.set_cons_zero, List.set_cons_succ, List.getElem_toArray, List.getElem_cons_zero, List.getElem_cons_succ])
            refine wpAnyH_take (i := 1) (v := ?_) rfl (by kernel_rfl) (by kernel_rfl) (by kernel_rfl) (fun _ _ _ h => h) (Or.inl ⟨by rfl, ?y1⟩) (by assumption) ?_
            case y1 => intro w hSw; (try dsimp only at hSw); go_simp; (try with_reducible rfl)
            (try simp only [Act.put, List.setIfInBounds_toArray, List.set_cons_zero, List.set_cons_succ, List.getElem_toArray, List.getElem_cons_zero, List.getElem_cons_succ])
            refine wpAnyH_take (i := 2) (v := ?_) rfl (by kernel_rfl) (by kernel_rfl) (by kernel_rfl) (fun _ _ _ h => h) (Or.inl ⟨by rfl, ?y2⟩) (by assumption) ?_
            case y2 => intro w hSw; (try dsimp only at hSw); go_simp; (try with_reducible rfl)
            (try simp only [Act.put, List.setIfInBounds_toArray, List.set_cons_zero, List.set_cons_succ, List.getElem_toArray, List.getElem_cons_zero, List.getElem_cons_succ])
            refine wpAnyH_take (i := 3) (v := ?_) rfl (by kernel_rfl) (by kernel_rfl) (by kernel_rfl) (fun _ _ _ h => h) (Or.inl ⟨by rfl, ?y3⟩) (by assumption) ?_
            case y3 => intro w hSw; (try dsimp only at hSw); go_simp; (try with_reducible rfl)
            (try simp only [Act.put, List.setIfInBounds_toArray, List.set_cons_zero, List.set_cons_succ, List.getElem_toArray, List.getElem_cons_zero, List.getElem_cons_succ])
            refine wpAnyH_take (i := 4) (v := ?_) rfl (by kernel_rfl) (by kernel_rfl) (by kernel_rfl) (fun _ _ _ h => h) (Or.inl ⟨by rfl, ?y4⟩) (by assumption) ?_
            case y4 => intro w hSw; (try dsimp only at hSw); go_simp; (try with_reducible rfl)
            (try simp only [Act.put, List.setIfInBounds_toArray, List.set_cons_zero, List.set_cons_succ, List.getElem_toArray, List.getElem_cons_zero, List.getElem_cons_succ])
            refine wpAnyH_take (i := 6) (v := ?_) rfl (by kernel_rfl) (by kernel_rfl) (by kernel_rfl) (fun _ _ _ h => h) (Or.inl ⟨by rfl, ?y6⟩) (by assumption) ?_
            case y6 => intro w hSw; (try dsimp only at hSw); go_simp; (try with_reducible rfl)
            (try simp only [Act.put, List.setIfInBounds_toArray, List.set_cons_zero, List.set_cons_succ, List.getElem_toArray, List.getElem_cons_zero, List.getElem_cons_succ])
            refine wpAnyH_take (i := 7) (v := ?_) rfl (by kernel_rfl) (by kernel_rfl) (by kernel_rfl) (fun _ _ _ h => h) (Or.inl ⟨by rfl, ?y7⟩) (by assumption) ?_
            case y7 => intro w hSw; (try dsimp only at hSw); go_simp; (try with_reducible rfl)
            (try simp only [Act.put, List.setIfInBounds_toArray, List.set_cons_zero, List.set_cons_succ, List.getElem_toArray, List.getElem_cons_zero, List.getElem_cons_succ])
            refine wpAnyH_take (i := 8) (v := ?_) rfl (by kernel_rfl) (by kernel_rfl) (by kernel_rfl) (fun _ _ _ h => h) (Or.inl ⟨by rfl, ?y8⟩) (by assumption) ?_
            case y8 => intro w hSw; (try dsimp only at hSw); go_simp; (try with_reducible rfl)
            (try simp only [Act.put, List.setIfInBounds_toArray, List.set_cons_zero, List.set_cons_succ, List.getElem_toArray, List.getElem_cons_zero, List.getElem_cons_succ])
            refine wpAnyH_take (i := 9) (v := ?_) rfl (by kernel_rfl) (by kernel_rfl) (by kernel_rfl) (fun _ _ _ h => h) (Or.inl ⟨by rfl, ?y9⟩) (by assumption) ?_
            case y9 => intro w hSw; (try dsimp only at hSw); go_simp; (try with_reducible rfl)
            (try simp only [Act.put, List.setIfInBounds_toArray, List.set_cons_zero, List.set_cons_succ, List.getElem_toArray, List.getElem_cons_zero, List.getElem_cons_succ])
            refine wpAnyH_take (i := 10) (v := ?_) rfl (by kernel_rfl) (by kernel_rfl) (by kernel_rfl) (fun _ _ _ h => h) (Or.inl ⟨by rfl, ?y10⟩) (by assumption) ?_
            case y10 => intro w hSw; (try dsimp only at hSw); go_simp; (try with_reducible rfl)
            (try simp only [Act.put, List.setIfInBounds_toArray, List.set_cons_zero, List.set_cons_succ, List.getElem_toArray, List.getElem_cons_zero, List.getElem_cons_succ])
            refine wpAnyH_ready (rs := [5]) (by kernel_rfl) (by simp) ?_
            refine AllReadyH.cons rfl (fun KK hKK => ?_) AllReadyH.nil
            go_simp
            refine (HDO.out _ (HTT.out.below ((Below.refl _ _).drew))).mono ?_; rintro e w5 ⟨rfl, hT5⟩
            have hq := HQ.out w5 hT5
            refine hKK.out _ _ (HC.out w5 hT5.b) (fun hHeld => ?_)
            clear hKK KK HDO HTT
            (try simp only [Act.put, List.setIfInBounds_toArray, List.set_cons_zero, List.set_cons_succ, List.getElem_toArray, List.getElem_cons_zero, List.getElem_cons_succ])
            refine wpAnyH_ready (rs := [11]) (by kernel_rfl) (by simp) ?_
            refine AllReadyH.cons rfl (fun KK hKK => ?_) AllReadyH.nil
            go_simp
            refine hq.mono ?_; clear hq; rintro e w6 ⟨rfl, hT6⟩
            refine hKK.out _ _ (HC.out w6 hT6.b) (fun hHeld => ?_)
            clear hKK KK
            (try simp only [Act.put, List.setIfInBounds_toArray, List.set_cons_zero, List.set_cons_succ, List.getElem_toArray, List.getElem_cons_zero, List.getElem_cons_succ])
            refine wpAnyH_take (i := 12) (v := ?_) rfl (by kernel_rfl) (by kernel_rfl) (by kernel_rfl) (fun _ _ _ h => h) (Or.inl ⟨by rfl, ?y12⟩) (by assumption) ?_
            case y12 => intro w hSw; (try dsimp only at hSw); go_simp; (try with_reducible rfl)
            (try simp only [Act.put, List.setIfInBounds_toArray, List.set_cons_zero, List.set_cons_succ, List.getElem_toArray, List.getElem_cons_zero, List.getElem_cons_succ])
            refine wpAnyH_done (by kernel_rfl) ?_ _
            have HT6 := Lib.hid (hT6.below ((Below.refl _ _).drew))
            have HT7 := Lib.hid hT6
            clear hT5 hT6 HC HQ HT0
            go_wp2_with fail
            go_roundw
            · exact ⟨k + 1, N', HLT.out, by go_num, HT7.out⟩
            · have := HLT.out; simp [intOf]; omega
        · have d0 : (d == 0) = false := by simp; omega
          have d1 : (d == 1) = false := by simp; omega
          have HT := Lib.hid hT
          clear hkU r1 r2 r3 hT hk hlt hd
          go_wp2_with fail
          go_roundw
          · exact ⟨k + 1, N, HLT.out, by go_num, HT.out⟩
          · have := HLT.out; simp [intOf]; omega
      obtain rfl : k = m.length := by omega
      have hd0 : decide ((m.length : Int) < (m.length : Int)) = false := decide_eq_false (by omega)
      obtain ⟨e1, e2⟩ := keep_ok N s.1 s.2
      have hkp := two_keep hT
      rw [e1, e2] at hkp
      clear e1 e2 hT hk hlt
      go_wp2_with fail
      refine hkp.mono ?_; clear hkp; rintro e w4 ⟨rfl, hT⟩
      clear hd0
      have HT := Lib.hid hT
      have hsm := same16 hT a0 c0 l (HL.out.below hT.b) (by have := HN.out; omega)
      clear hT
      go_wp2_with fail
      refine hsm.mono ?_; clear hsm; rintro e w5 ⟨rfl, hb⟩
      replace HT := Lib.hid (HT.out.below hb)
      have hsm := same16 HT.out a1 c1 m (HM.out.below HT.out.b) (by have := HN.out; omega)
      clear hb
      go_wp2_with fail
      refine hsm.mono ?_; clear hsm; rintro e w6 ⟨rfl, hb⟩
      replace HT := Lib.hid (HT.out.below hb)
      have hd1 := two_depth HT.out
      have hd2 := two_depth HT.out.swap
      clear hb
      simp only at hd1 hd2
      go_wp2_with fail
      refine hd1.mono ?_; clear hd1; rintro e w7 ⟨rfl, rfl⟩
      go_wp2_with fail
      refine hd2.mono ?_; clear hd2; rintro e w8 ⟨rfl, rfl⟩
      go_wp2_with fail
      have H0 : Hid (∃ (n : Nat) (t : USt), n ≤ 64 ∧ (Value.int .i64 0) = .int .i64 (n : Int) ∧ n + t.2.length ≤ 64 ∧ TwoU w w8 A B U t t) := ⟨0, (N, s.2), Nat.zero_le _, rfl, by show 0 + s.2.length ≤ 64; omega, HT.out⟩
      clear HT
      go_loopw [9] (fun i wr => ∃ (n : Nat) (t : USt), n ≤ 64 ∧ i = .int .i64 (n : Int) ∧ n + t.2.length ≤ 64 ∧ TwoU w wr A B U t t) (fun i _ => 64 - (intOf i).toNat)
      case atStart => exact H0.out
      case round =>
        clear H0
        obtain ⟨n, t, hn, rfl, hnt, hT⟩ := hrel
        by_cases hz : t.2 = []
        · have hz0 : (t.2.length : Int) = 0 := by rw [hz]; rfl
          have hd1 := two_depth hT
          have hd2 := two_depth hT.swap
          rw [hz0] at hd1 hd2
          have haw := awake16 wr
          have HB := Lib.hid hT.b
          by_cases hn64 : n < 64
          · have d0 : decide (n < 64) = true := decide_eq_true hn64
            have d1 : decide ((n : Int) < 64) = true := decide_eq_true (by omega)
            clear hz hz0 hT hnt hn hn64
            go_wp2_with fail
            refine hd1.mono ?_; rintro e wa ⟨rfl, ha⟩
            replace ha := ha.symm
            subst ha
            go_wp2_with fail
            refine hd1.mono ?_; rintro e wa ⟨rfl, ha⟩
            replace ha := ha.symm
            subst ha
            go_wp2_with fail
            refine hd2.mono ?_; rintro e wa ⟨rfl, ha⟩
            replace ha := ha.symm
            subst ha
            go_wp2_with fail
            refine haw.mono ?_; rintro e wz ⟨rfl, hb⟩
            go_wp2_with fail
            go_ret
            exact ⟨rfl, HB.out.trans (hb.mono HB.out.size)⟩
          · have d0 : decide (n < 64) = false := decide_eq_false hn64
            have d1 : decide ((n : Int) < 64) = false := decide_eq_false (by omega)
            clear hz hz0 hT hnt hn hn64
            go_wp2_with fail
            refine hd1.mono ?_; rintro e wa ⟨rfl, ha⟩
            replace ha := ha.symm
            subst ha
            go_wp2_with fail
            refine hd2.mono ?_; rintro e wa ⟨rfl, ha⟩
            replace ha := ha.symm
            subst ha
            go_wp2_with fail
            refine haw.mono ?_; rintro e wz ⟨rfl, hb⟩
            go_wp2_with fail
            go_ret
            exact ⟨rfl, HB.out.trans (hb.mono HB.out.size)⟩
        · have hpos : 0 < t.2.length := List.length_pos_iff.2 hz
          have d0 : decide (n < 64) = true := decide_eq_true (by omega)
          have d1 : decide ((n : Int) < 64) = true := decide_eq_true (by omega)
          have d2 : decide (0 < t.2.length) = true := decide_eq_true hpos
          have d3 : decide ((0 : Int) < (t.2.length : Int)) = true := decide_eq_true (by omega)
          have hd1 := two_depth hT
          have hba := two_back hT
          have HBB : Hid (∀ wy, TwoU w wy A B U (uback t) t → Calls Try.prog 15 #[.pointer (some ⟨B, 0, none⟩)] wy fun e w' => e = .returned (.int .i64 0) ∧ TwoU w w' A B U (uback t) (uback t)) := fun wy h => by
            have := two_back h.swap
            rw [back_ok hz] at this
            exact this.mono fun e w' ⟨h1, h2⟩ => ⟨h1, h2.swap⟩
          rw [back_ok hz] at hba
          have HS : Hid (n + 1 + (uback t).2.length ≤ 64 ∧ n + 1 ≤ 64) := by
            have : (uback t).2.length = t.2.length - 1 := by simp [uback]
            exact ⟨by omega, by omega⟩
          have hn2 : n < 64 := by omega
          generalize uback t = t' at *
          generalize t.2.length = tl at *
          clear hz hT hnt hn hpos
          go_wp2_with fail
          refine hd1.mono ?_; clear hd1; rintro e wa ⟨rfl, ha⟩
          replace ha := ha.symm
          subst ha
          go_wp2_with fail
          refine hba.mono ?_; clear hba; rintro e w9 ⟨rfl, hT⟩
          have hbb := HBB.out w9 hT
          clear HBB hT
          go_wp2_with fail
          refine hbb.mono ?_; clear hbb; rintro e wb ⟨rfl, hT⟩
          have HT := Lib.hid hT
          have hsm := same16 hT a0 c0 l (HL.out.below hT.b) (by have := HN.out; omega)
          clear hT d0 d1 d2 d3
          go_wp2_with fail
          refine hsm.mono ?_; clear hsm; rintro e wc ⟨rfl, hb⟩
          replace HT := Lib.hid (HT.out.below hb)
          have hsm := same16 HT.out a1 c1 m (HM.out.below HT.out.b) (by have := HN.out; omega)
          clear hb
          go_wp2_with fail
          refine hsm.mono ?_; clear hsm; rintro e wd ⟨rfl, hb⟩
          replace HT := Lib.hid (HT.out.below hb)
          clear hb
          go_wp2_with fail
          go_roundw
          · exact ⟨n + 1, t', HS.out.2, by go_num, HS.out.1, HT.out⟩
          · simp [intOf]; omega
end Go.Proofs.Ytmhfgkkiplencaa
