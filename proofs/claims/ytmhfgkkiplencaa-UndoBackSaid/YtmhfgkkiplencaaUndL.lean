/-
  UndoBack of layer 16 answers true, for whatever calls. No conditions.
-/
import Derived.Test.YtmhfgkkiplencaaUndT
namespace Go.Proofs.Ytmhfgkkiplencaa
open Go.RowKit Go.Maps
set_option linter.unusedSimpArgs false
set_option linter.unusedVariables false

set_option maxHeartbeats 8000000 in
set_option maxRecDepth 100000 in
theorem back16 (a0 : Option Addr) (c0 : Nat) (l : List (Int × Int × Int)) (a1 : Option Addr) (c1 : Nat) (m : List (Int × Int × Int)) (w : World) (hl : ReadsV w a0 l) (hm : ReadsV w a1 m) :
    Calls Try.prog 4 #[.slice a0 l.length c0, .slice a1 m.length c1] w fun e w' => e = .returned (.bool true) ∧ Below w.heap.size w w' := by
  by_cases hl40 : 40 < l.length
  · have d0 : decide (40 < l.length) = true := decide_eq_true hl40
    have d1 : decide ((40 : Int) < (l.length : Int)) = true := decide_eq_true (by omega)
    have hn := new_u [] (by decide) w
    clear hl hm hl40
    go_enter Try.func4, Try.ntmps4
    go_wp2_with fail
    refine hn.mono ?_; clear hn; rintro e w1 ⟨A, F1, rfl, h1, h2, h3⟩
    have hn2 := new_u [] (by decide) w1
    go_wp2_with fail
    refine hn2.mono ?_; clear hn2; rintro e w2 ⟨B, F2, rfl, k1, k2, k3⟩
    have HT := Lib.hid (two_new h1 h2 h3 k1 k2 k3)
    clear h1 h2 h3 k1 k2 k3
    go_wp2_with fail
    refine (awake16 _).mono ?_; rintro e w3 ⟨rfl, hb⟩
    go_wp2_with fail
    go_ret
    exact ⟨rfl, HT.out.b.trans (hb.mono HT.out.b.size)⟩
  have d0 : decide (40 < l.length) = false := decide_eq_false hl40
  have d1 : decide ((40 : Int) < (l.length : Int)) = false := decide_eq_false (by omega)
  by_cases hmm : 60 < m.length
  · have d2 : decide (60 < m.length) = true := decide_eq_true hmm
    have d3 : decide ((60 : Int) < (m.length : Int)) = true := decide_eq_true (by omega)
    have hn := new_u [] (by decide) w
    clear hl hm hl40 hmm
    go_enter Try.func4, Try.ntmps4
    go_wp2_with fail
    refine hn.mono ?_; clear hn; rintro e w1 ⟨A, F1, rfl, h1, h2, h3⟩
    have hn2 := new_u [] (by decide) w1
    go_wp2_with fail
    refine hn2.mono ?_; clear hn2; rintro e w2 ⟨B, F2, rfl, k1, k2, k3⟩
    have HT := Lib.hid (two_new h1 h2 h3 k1 k2 k3)
    clear h1 h2 h3 k1 k2 k3
    go_wp2_with fail
    refine (awake16 _).mono ?_; rintro e w3 ⟨rfl, hb⟩
    go_wp2_with fail
    go_ret
    exact ⟨rfl, HT.out.b.trans (hb.mono HT.out.b.size)⟩
  have d2 : decide (60 < m.length) = false := decide_eq_false hmm
  have d3 : decide ((60 : Int) < (m.length : Int)) = false := decide_eq_false (by omega)
  obtain ⟨U, hU⟩ : ∃ U, U = ukeys l ++ ukeys m := ⟨_, rfl⟩
  have hUl : U.length ≤ 1000000 := by rw [hU, List.length_append]; unfold ukeys; rw [List.length_map, List.length_map]; omega
  have HKL : Hid (∀ i, i < l.length → (l.getD i (0, 0, 0)).2.1 ∈ U) := fun i hi => by rw [hU]; exact List.mem_append_left _ (ukeys_at hi)
  have HKM : Hid (∀ i, i < m.length → (m.getD i (0, 0, 0)).2.1 ∈ U) := fun i hi => by rw [hU]; exact List.mem_append_right _ (ukeys_at hi)
  have HL := Lib.hid hl; have HM := Lib.hid hm
  have HN : Hid (l.length ≤ 40 ∧ m.length ≤ 60 ∧ U.length ≤ 1000000) := ⟨by omega, by omega, hUl⟩
  have hn := new_u U hUl w
  clear hl hm hl40 hmm hU hUl
  go_enter Try.func4, Try.ntmps4
  go_wp2_with fail
  refine hn.mono ?_; clear hn; rintro e w1 ⟨A, F1, rfl, h1, h2, h3⟩
  have hn2 := new_u U HN.out.2.2 w1
  go_wp2_with fail
  refine hn2.mono ?_; clear hn2; rintro e w2 ⟨B, F2, rfl, k1, k2, k3⟩
  have HT := Lib.hid (two_new h1 h2 h3 k1 k2 k3)
  clear h1 h2 h3 k1 k2 k3
  go_wp2_with fail
  clear d0 d1 d2 d3
  have H0 : Hid (∃ (k : Nat) (s : USt), k ≤ l.length ∧ (Value.int .i64 0) = .int .i64 (k : Int) ∧ s.2.length ≤ k ∧ TwoU w w2 A B U s s) := ⟨0, ([], []), Nat.zero_le _, rfl, Nat.le_refl _, HT.out⟩
  clear HT
  go_loopw [7] (fun i wr => ∃ (k : Nat) (s : USt), k ≤ l.length ∧ i = .int .i64 (k : Int) ∧ s.2.length ≤ k ∧ TwoU w wr A B U s s) (fun i _ => l.length - (intOf i).toNat)
  case atStart => exact H0.out
  case round =>
    clear H0
    obtain ⟨k, s, hk, rfl, hs, hT⟩ := hrel
    by_cases hlt : k < l.length
    · obtain ⟨b, off, e0, c1, c2, c3, r1, r2, r3⟩ := HL.out.below hT.b k hlt
      have hkU := HKL.out k hlt
      have HC : Hid (∀ wy, Below w.heap.size w wy → wy.cell? ⟨b, off + k * 3, none⟩ = some (.int .i64 (l.getD k (0, 0, 0)).1) ∧ wy.cell? ⟨b, off + k * 3 + 1, none⟩ = some (.int .i64 (l.getD k (0, 0, 0)).2.1) ∧ wy.cell? ⟨b, off + k * 3 + 2, none⟩ = some (.int .i64 (l.getD k (0, 0, 0)).2.2)) := fun wy h => by
        obtain ⟨b', off', e, q1, q2, q3, _⟩ := HL.out.below h k hlt
        rw [e0] at e
        cases e
        exact ⟨q1, q2, q3⟩
      subst e0
      have i0 : (0 : Int) ≤ (k : Int) := by omega
      have i1 : (k : Int) < (l.length : Int) := by omega
      have kb := HN.out.1
      generalize (l.getD k (0, 0, 0)).1 = d at *
      generalize (l.getD k (0, 0, 0)).2.1 = x at *
      generalize (l.getD k (0, 0, 0)).2.2 = y at *
      have hdo := two_do hT d x y hkU r2 r3
      have HQ : Hid (∀ wy, TwoU w wy A B U (udo s d x y) s → Calls Try.prog 8 #[.pointer (some ⟨B, 0, none⟩), .agg #[.int .i64 d, .int .i64 x, .int .i64 y]] wy fun e w' => e = .returned (.int .i64 (udoE s d x)) ∧ TwoU w w' A B U (udo s d x y) (udo s d x y)) := fun wy h => (two_do h.swap d x y hkU r2 r3).mono fun e w' ⟨h1, h2⟩ => ⟨h1, h2.swap⟩
      have HS := Lib.hid (Nat.le_trans (udo_len s d x y) (Nat.succ_le_succ hs))
      have HLT := Lib.hid hlt
      generalize udo s d x y = s' at *
      generalize udoE s d x = e' at *
      clear hkU r1 r2 r3 hT hs hk hlt
      go_wp2_with fail
      refine hdo.mono ?_; clear hdo; rintro e w3 ⟨rfl, hT⟩
      have hq := HQ.out w3 hT
      obtain ⟨c1, c2, c3⟩ := HC.out w3 hT.b
      clear HQ HC hT
      go_wp2_with fail
      refine hq.mono ?_; clear hq; rintro e w4 ⟨rfl, hT⟩
      have HT := Lib.hid hT
      clear hT c1 c2 c3
      go_wp2_with fail
      go_roundw
      · exact ⟨k + 1, s', HLT.out, by go_num, HS.out, HT.out⟩
      · have := HLT.out; simp [intOf]; omega
    obtain rfl : k = l.length := by omega
    have hd0 : decide ((l.length : Int) < (l.length : Int)) = false := decide_eq_false (by omega)
    have hs40 : s.2.length ≤ 40 := Nat.le_trans hs HN.out.1
    clear hk hlt hs

    obtain ⟨e1, e2⟩ := begin_ok (s := s) (by omega)
    have hdp := two_depth hT
    have hbg := two_begin hT
    rw [e1, e2] at hbg
    clear e1 e2 hT
    go_wp2_with fail
    refine hdp.mono ?_; clear hdp; rintro e wa ⟨rfl, ha⟩
    replace ha := ha.symm
    subst ha
    go_wp2_with fail
    refine hbg.mono ?_; clear hbg; rintro e w3 ⟨rfl, hT⟩
    clear hd0
    go_wp2_with fail
    have H0 : Hid (∃ (k : Nat) (N : Prs) (S : List Prs), k ≤ m.length ∧ (Value.int .i64 0) = .int .i64 (k : Int) ∧ TwoU w w3 A B U (N, S ++ s.1 :: s.2) s) := ⟨0, s.1, [], Nat.zero_le _, rfl, hT⟩
    clear hT
    go_loopw [9] (fun i wr => ∃ (k : Nat) (N : Prs) (S : List Prs), k ≤ m.length ∧ i = .int .i64 (k : Int) ∧ TwoU w wr A B U (N, S ++ s.1 :: s.2) s) (fun i _ => m.length - (intOf i).toNat)
    case atStart => exact H0.out
    case round =>
      clear H0
      obtain ⟨k, N, S, hk, rfl, hT⟩ := hrel
      by_cases hlt : k < m.length
      · obtain ⟨b, off, e0, c1, c2, c3, r1, r2, r3⟩ := HM.out.below hT.b k hlt
        have hkU := HKM.out k hlt
        subst e0
        have i0 : (0 : Int) ≤ (k : Int) := by omega
        have i1 : (k : Int) < (m.length : Int) := by omega
        have kb := HN.out.2.1
        generalize (m.getD k (0, 0, 0)).1 = d at *
        generalize (m.getD k (0, 0, 0)).2.1 = x at *
        generalize (m.getD k (0, 0, 0)).2.2 = y at *
        have HLT := Lib.hid hlt
        have hdo := two_do hT d x y hkU r2 r3
        have hdp := two_depth hT
        have hlen : (((S ++ s.1 :: s.2).length : Nat) : Int) = (S.length : Int) + (s.2.length : Int) + 1 := by rw [List.length_append, List.length_cons]; omega
        obtain ⟨q, hq⟩ : ∃ q : Int, q = (S.length : Int) + (s.2.length : Int) + 1 := ⟨_, rfl⟩
        rw [← hq] at hlen
        have hon := udo_on N s.1 S s.2 (d := d)
        have hwr : wrap64 ((s.2.length : Int) + 1) = (s.2.length : Int) + 1 := by unfold wrap64; omega
        have hSl := hT.le.1
        simp only at hdp hSl
        rw [hlen] at hdp
        have HQ := Lib.hid hq
        have HDONE : Hid ((0 ≤ d ∧ d ≤ 2) ∨ S ≠ [] → ∃ N' S', udo (N, S ++ s.1 :: s.2) d x y = (N', S' ++ s.1 :: s.2)) := fun q => hon q x y
        have HT := Lib.hid hT
        clear hkU r1 r2 r3 hT hk hlt hon hlen hq
        by_cases hd : 0 ≤ d ∧ d ≤ 2
        · have d0 : decide (0 ≤ d) = true := decide_eq_true hd.1
          have d1 : decide (d ≤ 2) = true := decide_eq_true hd.2
          obtain ⟨N', S', e⟩ := HDONE.out (Or.inl hd)
          rw [e] at hdo
          generalize udoE (N, S ++ s.1 :: s.2) d x = e' at *
          clear hd e hdp HDONE HT hSl
          go_wp2_with fail
          refine hdo.mono ?_; clear hdo; rintro e w4 ⟨rfl, hT⟩
          have HT := Lib.hid hT
          clear hT c1 c2 c3
          go_wp2_with fail
          go_roundw
          · exact ⟨k + 1, N', S', HLT.out, by go_num, HT.out⟩
          · have := HLT.out; simp [intOf]; omega
        · by_cases hS : S = []
          · have d2 : decide ((s.2.length : Int) + 1 < q) = false := decide_eq_false (by have h1 := HQ.out; have h2 := congrArg List.length hS; rw [List.length_nil] at h2; omega)
            by_cases h0 : 0 ≤ d
            · have d0 : decide (0 ≤ d) = true := decide_eq_true h0
              have d1 : decide (d ≤ 2) = false := decide_eq_false (by omega)
              clear hdo HDONE hS hd h0 hSl
              go_wp2_with fail
              refine hdp.mono ?_; clear hdp; rintro e wa ⟨rfl, ha⟩
              replace ha := ha.symm
              subst ha
              clear c1 c2 c3
              go_wp2_with fail
              go_roundw
              · exact ⟨k + 1, N, S, HLT.out, by go_num, HT.out⟩
              · have := HLT.out; simp [intOf]; omega
            · have d0 : decide (0 ≤ d) = false := decide_eq_false h0
              clear hdo HDONE hS hd h0 hSl
              go_wp2_with fail
              refine hdp.mono ?_; clear hdp; rintro e wa ⟨rfl, ha⟩
              replace ha := ha.symm
              subst ha
              clear c1 c2 c3
              go_wp2_with fail
              go_roundw
              · exact ⟨k + 1, N, S, HLT.out, by go_num, HT.out⟩
              · have := HLT.out; simp [intOf]; omega
          · have hSp : 0 < S.length := List.length_pos_iff.2 hS
            have d2 : decide ((s.2.length : Int) + 1 < q) = true := decide_eq_true (by have := HQ.out; omega)
            obtain ⟨N', S', e⟩ := HDONE.out (Or.inr hS)
            rw [e] at hdo
            generalize udoE (N, S ++ s.1 :: s.2) d x = e' at *
            by_cases h0 : 0 ≤ d
            · have d0 : decide (0 ≤ d) = true := decide_eq_true h0
              have d1 : decide (d ≤ 2) = false := decide_eq_false (by omega)
              clear e HDONE HT hS hSp hd h0 hSl
              go_wp2_with fail
              refine hdp.mono ?_; clear hdp; rintro e wa ⟨rfl, ha⟩
              replace ha := ha.symm
              subst ha
              go_wp2_with fail
              refine hdo.mono ?_; clear hdo; rintro e w4 ⟨rfl, hT⟩
              have HT := Lib.hid hT
              clear hT c1 c2 c3
              go_wp2_with fail
              go_roundw
              · exact ⟨k + 1, N', S', HLT.out, by go_num, HT.out⟩
              · have := HLT.out; simp [intOf]; omega
            · have d0 : decide (0 ≤ d) = false := decide_eq_false h0
              clear e HDONE HT hS hSp hd h0 hSl
              go_wp2_with fail
              refine hdp.mono ?_; clear hdp; rintro e wa ⟨rfl, ha⟩
              replace ha := ha.symm
              subst ha
              go_wp2_with fail
              refine hdo.mono ?_; clear hdo; rintro e w4 ⟨rfl, hT⟩
              have HT := Lib.hid hT
              clear hT c1 c2 c3
              go_wp2_with fail
              go_roundw
              · exact ⟨k + 1, N', S', HLT.out, by go_num, HT.out⟩
              · have := HLT.out; simp [intOf]; omega
      obtain rfl : k = m.length := by omega
      have hd0 : decide ((m.length : Int) < (m.length : Int)) = false := decide_eq_false (by omega)
      have H0 : Hid (∃ (n : Nat) (t : USt), n ≤ 64 ∧ (Value.int .i64 0) = .int .i64 (n : Int) ∧ TwoU w wr A B U t s ∧ (t = s ∨ ∃ N S, t = (N, S ++ s.1 :: s.2) ∧ n + S.length + 1 + s.2.length ≤ 64)) :=
        ⟨0, _, Nat.zero_le _, rfl, hT, Or.inr ⟨N, S, rfl, by have h := hT.le.1; rw [List.length_append, List.length_cons] at h; omega⟩⟩
      clear hT hk hlt
      go_wp2_with fail
      clear hd0
      go_loopw [10] (fun i wr => ∃ (n : Nat) (t : USt), n ≤ 64 ∧ i = .int .i64 (n : Int) ∧ TwoU w wr A B U t s ∧ (t = s ∨ ∃ N S, t = (N, S ++ s.1 :: s.2) ∧ n + S.length + 1 + s.2.length ≤ 64)) (fun i _ => 64 - (intOf i).toNat)
      case atStart => exact H0.out
      case round =>
        clear H0
        obtain ⟨n, t, hn, rfl, hT, hts⟩ := hrel
        rcases hts with rfl | ⟨N, S, rfl, hnS⟩
        · have hd1 := two_depth hT
          have hd2 := two_depth hT.swap
          have HT := Lib.hid hT
          have dd : decide ((t.2.length : Int) < (t.2.length : Int)) = false := decide_eq_false (by omega)
          have hsm := same16 hT a0 c0 l (HL.out.below hT.b) (by have := HN.out; omega)
          have ho : t.2.length ≤ 64 := hT.le.1
          by_cases hn64 : n < 64
          · have d0 : decide (n < 64) = true := decide_eq_true hn64
            have d1 : decide ((n : Int) < 64) = true := decide_eq_true (by omega)
            clear hT hn hn64 ho hs40
            go_wp2_with fail
            refine hd1.mono ?_; rintro e wa ⟨rfl, ha⟩
            replace ha := ha.symm
            subst ha
            go_wp2_with fail
            refine hd1.mono ?_; rintro e wa ⟨rfl, ha⟩
            replace ha := ha.symm
            subst ha
            go_wp2_with fail
            refine hd2.mono ?_; rintro e wa ⟨rfl, ha⟩
            replace ha := ha.symm
            subst ha
            clear hd1 hd2
            go_wp2_with fail
            refine hsm.mono ?_; clear hsm; rintro e wc ⟨rfl, hb⟩
            replace HT := Lib.hid (HT.out.below hb)
            have hsm := same16 HT.out a1 c1 m (HM.out.below HT.out.b) (by have := HN.out; omega)
            clear hb
            go_wp2_with fail
            refine hsm.mono ?_; clear hsm; rintro e wd ⟨rfl, hb⟩
            replace HT := Lib.hid (HT.out.below hb)
            clear hb
            go_wp2_with fail
            refine (awake16 _).mono ?_; rintro e wz ⟨rfl, hb⟩
            go_wp2_with fail
            go_ret
            exact ⟨rfl, HT.out.b.trans (hb.mono HT.out.b.size)⟩
          · have d0 : decide (n < 64) = false := decide_eq_false hn64
            have d1 : decide ((n : Int) < 64) = false := decide_eq_false (by omega)
            clear hT hn hn64 ho hs40
            go_wp2_with fail
            refine hd1.mono ?_; rintro e wa ⟨rfl, ha⟩
            replace ha := ha.symm
            subst ha
            go_wp2_with fail
            refine hd2.mono ?_; rintro e wa ⟨rfl, ha⟩
            replace ha := ha.symm
            subst ha
            clear hd1 hd2
            go_wp2_with fail
            refine hsm.mono ?_; clear hsm; rintro e wc ⟨rfl, hb⟩
            replace HT := Lib.hid (HT.out.below hb)
            have hsm := same16 HT.out a1 c1 m (HM.out.below HT.out.b) (by have := HN.out; omega)
            clear hb
            go_wp2_with fail
            refine hsm.mono ?_; clear hsm; rintro e wd ⟨rfl, hb⟩
            replace HT := Lib.hid (HT.out.below hb)
            clear hb
            go_wp2_with fail
            refine (awake16 _).mono ?_; rintro e wz ⟨rfl, hb⟩
            go_wp2_with fail
            go_ret
            exact ⟨rfl, HT.out.b.trans (hb.mono HT.out.b.size)⟩
        · have d0 : decide (n < 64) = true := decide_eq_true (by omega)
          have d1 : decide ((n : Int) < 64) = true := decide_eq_true (by omega)
          have hn2 : n < 64 := by omega
          have hlen : (((S ++ s.1 :: s.2).length : Nat) : Int) = (S.length : Int) + (s.2.length : Int) + 1 := by rw [List.length_append, List.length_cons]; omega
          obtain ⟨q, hq⟩ : ∃ q : Int, q = (S.length : Int) + (s.2.length : Int) + 1 := ⟨_, rfl⟩
          rw [← hq] at hlen
          have d2 : decide ((s.2.length : Int) < q) = true := decide_eq_true (by omega)
          have hd1 := two_depth hT
          have hba := two_back hT
          simp only at hd1
          rw [hlen] at hd1
          rw [back_ok (show (N, S ++ s.1 :: s.2).2 ≠ [] by simp)] at hba
          have HE : Hid (∀ wy, TwoU w wy A B U (uback (N, S ++ s.1 :: s.2)) s → ∃ t, TwoU w wy A B U t s ∧ (t = s ∨ ∃ N S, t = (N, S ++ s.1 :: s.2) ∧ n + 1 + S.length + 1 + s.2.length ≤ 64)) := fun wy h => by
            cases S with
            | nil => exact ⟨s, h, Or.inl rfl⟩
            | cons q S' => exact ⟨_, h, Or.inr ⟨q, S', rfl, by simp only [List.length_cons] at hnS; omega⟩⟩
          generalize uback (N, S ++ s.1 :: s.2) = t' at *
          clear hT hn hnS hlen hq
          go_wp2_with fail
          refine hd1.mono ?_; clear hd1; rintro e wa ⟨rfl, ha⟩
          replace ha := ha.symm
          subst ha
          go_wp2_with fail
          refine hba.mono ?_; clear hba; rintro e w9 ⟨rfl, hT⟩
          obtain ⟨tt, hT2, hq⟩ := HE.out w9 hT
          have HQ := Lib.hid (And.intro hT2 hq)
          clear hT hT2 hq HE d0 d1 d2
          go_wp2_with fail
          go_roundw
          · exact ⟨n + 1, tt, hn2, by go_num, HQ.out.1, HQ.out.2⟩
          · simp [intOf]; omega
end Go.Proofs.Ytmhfgkkiplencaa
