/-
  ReachCloses of layer 13. No conditions.
-/
import Derived.Test.YtpjnpmdpabnjkaaRchL
namespace Go.Proofs.Ytpjnpmdpabnjkaa
open Go.RowKit
set_option linter.unusedSimpArgs false
set_option linter.unusedVariables false

set_option maxHeartbeats 8000000 in
set_option maxRecDepth 100000 in
theorem closes13 (m : Int) (a : Option Addr) (c : Nat) (l : List GA) (fa : Option Addr) (fc : Nat) (L : List Int) (w : World) (h : ActsG w a l) (hn : (l.length : Int) ≤ 9223372036854775807) (hr : Reads w fa L) (hnL : (L.length : Int) ≤ 9223372036854775807) :
    Calls Try.prog 4 #[.int .i64 m, .slice a l.length c, .slice fa L.length fc] w fun e w' => e = .returned (.bool true) ∧ Below w.heap.size w w' := by
  have hfew := few_g a c l w h hn
  have H := Lib.hid h; have HR := Lib.hid hr
  clear h hr
  cases hf : gfew l with
  | false =>
    rw [hf] at hfew
    go_enter Try.func4, Try.ntmps4
    go_wp2_with fail
    refine hfew.mono ?_; rintro e w1 ⟨rfl, rfl⟩
    go_wp2_with fail
    refine (awake13 _).mono ?_; rintro e w2 ⟨rfl, hb⟩
    go_wp2_with fail
    go_ret
    exact ⟨rfl, hb⟩
  | true =>
    rw [hf] at hfew
    have HF := Lib.hid hf
    clear hf
    by_cases hm12 : m ≤ 12
    · have dm : decide (12 < m) = false := decide_eq_false (by omega)
      by_cases hL : L.length ≤ 60
      · have dL : decide (60 < (L.length : Int)) = false := decide_eq_false (by omega)
        by_cases hm1 : 1 ≤ m
        · obtain ⟨n, rfl⟩ := Int.eq_ofNat_of_zero_le (by omega : 0 ≤ m)
          have hmade := made_at n (by omega) (by omega) a c l w H.out HF.out
          go_enter Try.func4, Try.ntmps4
          go_wp2_with fail
          refine hfew.mono ?_; rintro e w1 ⟨rfl, rfl⟩
          go_wp2_with fail
          refine hmade.mono ?_; rintro e w2 ⟨B, F, x, rfl, hG⟩
          have hRl := gfold_len n l l.length
          generalize gfold n l l.length = R at *
          obtain rfl : n = R.length := hRl.symm
          have hx := hG.x
          obtain ⟨xa, xc, _, rfl, _⟩ := hx
          have hb3 := below1 w2 (.cells #[.slice xa R.length xc] 29)
          have hG3 := hG.s.below hb3
          have HI := Lib.hid hG3.r.1
          have hl := HI.out.hi
          have hn6 : L.length ≤ 1000000 := by omega
          clear hb3 hG hfew hmade hRl
          go_upto_region 8 with fail
          generalize w2.alloc (.cells #[.slice xa R.length xc] 29) = w3 at *
          have q8 := reach_o hG3 fa fc L (HR.out.below hG3.b) hn6
          have HG3 := Lib.hid hG3
          clear hG3
          go_wp2_with fail
          refine q8.mono ?_; clear q8; rintro e w4 ⟨u1, S, rfl, ho1, hS, hb⟩
          obtain ⟨ua, uc, rfl, hu⟩ := inr_own ho1 (fnd_inr hS hl)
          have HS := Lib.hid hS; have HG4 := Lib.hid (HG3.out.below hb); have HU4 := Lib.hid hu
          have hfl := fnd_le hS hl
          clear ho1 hb hu hS HG3
          go_wp2_with fail
          go_loopw [11] (fun i wr => ∃ v : Nat, v ≤ R.length ∧ i = .int .i64 (v : Int) ∧ OneG w1 wr B R F ∧ Reads wr ua (fnd S)) (fun i _ => R.length - (intOf i).toNat)
          case atStart => exact ⟨0, Nat.zero_le _, rfl, HG4.out, HU4.out⟩
          case round =>
            clear HG4 HU4
            obtain ⟨v, hv, rfl, hG, hU⟩ := hrel
            by_cases hlv : v < R.length
            · have dv : decide ((v : Int) < (R.length : Int)) = true := decide_eq_true (by omega)
              have hiv : InR (v : Int) := by unfold InR; omega
              have HCL := Lib.hid (closes_eq hlv HS.out)
              have HG4 := Lib.hid hG; have HU4 := Lib.hid hU
              clear hG hU
              go_wp2_with fail
              go_loopw [12, 13] (fun r i wr => ∃ x : Nat, x ≤ R.length ∧ i = .int .i64 (x : Int) ∧ r = .bool (rdk R S v x) ∧ OneG w1 wr B R F ∧ Reads wr ua (fnd S)) (fun _ i _ => R.length - (intOf i).toNat)
              case atStart => exact ⟨0, Nat.zero_le _, rfl, rfl, HG4.out, HU4.out⟩
              case round =>
                clear HG4 HU4
                obtain ⟨x, hx, rfl, rfl, hG, hU⟩ := hrel
                by_cases hlx : x < R.length
                · have dx : decide ((x : Int) < (R.length : Int)) = true := decide_eq_true (by omega)
                  have hix : InR (x : Int) := by unfold InR; omega
                  have HST := Lib.hid (rdk_step R S v x)
                  have HG4 := Lib.hid hG; have HU4 := Lib.hid hU
                  have HGH : Hid (ghas R (v : Int) (x : Int) = decide (((x : Nat) : Int) ∈ gR R v)) := by show _ = _; unfold ghas; rw [greads_nat hlv]
                  have q1 := has_o hG (v : Int) (x : Int) hiv
                  rw [HGH.out] at q1
                  obtain ⟨p0, hp0⟩ : ∃ p0, p0 = rdk R S v x := ⟨_, rfl⟩
                  obtain ⟨p1, hp1⟩ : ∃ p1, p1 = decide (((x : Nat) : Int) ∈ gR R v) := ⟨_, rfl⟩
                  obtain ⟨p2, hp2⟩ : ∃ p2, p2 = decide (((x : Nat) : Int) ∈ fnd S) := ⟨_, rfl⟩
                  rw [← hp0, ← hp1, ← hp2] at HST
                  rw [← hp1] at q1
                  rw [← hp0]
                  have HP2 := Lib.hid hp2
                  clear hp0 hp1 hp2 hG hU HGH
                  cases p0 with
                  | true =>
                    have HGw := HG4; have HUw := HU4
                    clear q1 HG4 HU4
                    have hb0 := below1 wr (.cells #[.int .i64 (x : Int)] 3)
                    have q2 := reach_o (HGw.out.below hb0) (some ⟨wr.heap.size, 0, none⟩) 1 [(x : Int)] (lit_rg wr [(x : Int)] (by intro z hz; rw [List.mem_singleton.1 hz]; exact hix)) (by simp)
                    simp only [List.length_cons, List.length_nil, Nat.reduceAdd, List.map_cons, List.map_nil] at q2
                    have HGx := Lib.hid (HGw.out.below hb0); have HUx := Lib.hid (HUw.out.below hb0)
                    clear hb0
                    go_wp2_with fail
                    refine q2.mono ?_; clear q2; rintro e y2 ⟨v1, S1, rfl, ho, hS1, hb⟩
                    obtain ⟨va, vc, rfl, hr⟩ := inr_own ho (fnd_inr hS1 hl)
                    have q3 := has_any va vc (fnd S1) (v : Int) y2 hr (by have := fnd_le hS1 hl; omega)
                    have HS1 := Lib.hid hS1
                    have HG2 := Lib.hid (HGx.out.below hb); have HU2 := Lib.hid (HUx.out.below hb)
                    obtain ⟨p3, hp3⟩ : ∃ p3, p3 = decide (((v : Nat) : Int) ∈ fnd S1) := ⟨_, rfl⟩
                    rw [← hp3] at q3
                    have HP3 := Lib.hid hp3
                    clear ho hb hr hS1 hp3
                    go_wp2_with fail
                    refine q3.mono ?_; clear q3; rintro e y3 ⟨rfl, rfl⟩
                    have hb0 := below1 y2 (.cells #[.int .i64 (v : Int)] 3)
                    have q4 := needs_o (HG2.out.below hb0) (some ⟨y2.heap.size, 0, none⟩) 1 [(v : Int)] (lit_rg y2 [(v : Int)] (by intro z hz; rw [List.mem_singleton.1 hz]; exact hiv)) (by simp)
                    simp only [List.length_cons, List.length_nil, Nat.reduceAdd, List.map_cons, List.map_nil] at q4
                    have HG3 := Lib.hid (HG2.out.below hb0); have HU3 := Lib.hid (HU2.out.below hb0)
                    clear hb0
                    go_wp2_with fail
                    refine q4.mono ?_; clear q4; rintro e y4 ⟨v2, S2, rfl, ho, hS2, hb⟩
                    obtain ⟨vb, vd, rfl, hr⟩ := inr_own ho (fnd_inr hS2 hl)
                    have q5 := has_any vb vd (fnd S2) (x : Int) y4 hr (by have := fnd_le hS2 hl; omega)
                    rw [fnd_turn hlv hlx HS1.out hS2, ← HP3.out] at q5
                    have HG5 := Lib.hid (HG3.out.below hb); have HU5 := Lib.hid (HU3.out.below hb)
                    clear ho hb hr hS2 HS1 HP3
                    go_wp2_with fail
                    refine q5.mono ?_; clear q5; rintro e y5 ⟨rfl, rfl⟩
                    cases p3 with
                    | true =>
                      go_wp2_with fail
                      go_roundw
                      · exact ⟨x + 1, by omega, by go_num, by rw [HST.out]; simp, HG5.out, HU5.out⟩
                      · simp [intOf]; omega
                    | false =>
                      go_wp2_with fail
                      go_roundw
                      · exact ⟨x + 1, by omega, by go_num, by rw [HST.out]; simp, HG5.out, HU5.out⟩
                      · simp [intOf]; omega
                  | false =>
                    go_wp2_with fail
                    refine q1.mono ?_; clear q1; rintro e y1 ⟨rfl, hb⟩
                    have HGw := Lib.hid (HG4.out.below hb); have HUw := Lib.hid (HU4.out.below hb)
                    clear hb HG4 HU4
                    cases p1 with
                    | true =>
                      have q1 := has_any ua uc (fnd S) (x : Int) y1 HUw.out (by omega)
                      rw [← HP2.out] at q1
                      go_wp2_with fail
                      refine q1.mono ?_; clear q1; rintro e y9 ⟨rfl, rfl⟩
                      have hb0 := below1 y1 (.cells #[.int .i64 (x : Int)] 3)
                      have q2 := reach_o (HGw.out.below hb0) (some ⟨y1.heap.size, 0, none⟩) 1 [(x : Int)] (lit_rg y1 [(x : Int)] (by intro z hz; rw [List.mem_singleton.1 hz]; exact hix)) (by simp)
                      simp only [List.length_cons, List.length_nil, Nat.reduceAdd, List.map_cons, List.map_nil] at q2
                      have HGx := Lib.hid (HGw.out.below hb0); have HUx := Lib.hid (HUw.out.below hb0)
                      clear hb0
                      go_wp2_with fail
                      refine q2.mono ?_; clear q2; rintro e y2 ⟨v1, S1, rfl, ho, hS1, hb⟩
                      obtain ⟨va, vc, rfl, hr⟩ := inr_own ho (fnd_inr hS1 hl)
                      have q3 := has_any va vc (fnd S1) (v : Int) y2 hr (by have := fnd_le hS1 hl; omega)
                      have HS1 := Lib.hid hS1
                      have HG2 := Lib.hid (HGx.out.below hb); have HU2 := Lib.hid (HUx.out.below hb)
                      obtain ⟨p3, hp3⟩ : ∃ p3, p3 = decide (((v : Nat) : Int) ∈ fnd S1) := ⟨_, rfl⟩
                      rw [← hp3] at q3
                      have HP3 := Lib.hid hp3
                      clear ho hb hr hS1 hp3
                      go_wp2_with fail
                      refine q3.mono ?_; clear q3; rintro e y3 ⟨rfl, rfl⟩
                      have hb0 := below1 y2 (.cells #[.int .i64 (v : Int)] 3)
                      have q4 := needs_o (HG2.out.below hb0) (some ⟨y2.heap.size, 0, none⟩) 1 [(v : Int)] (lit_rg y2 [(v : Int)] (by intro z hz; rw [List.mem_singleton.1 hz]; exact hiv)) (by simp)
                      simp only [List.length_cons, List.length_nil, Nat.reduceAdd, List.map_cons, List.map_nil] at q4
                      have HG3 := Lib.hid (HG2.out.below hb0); have HU3 := Lib.hid (HU2.out.below hb0)
                      clear hb0
                      go_wp2_with fail
                      refine q4.mono ?_; clear q4; rintro e y4 ⟨v2, S2, rfl, ho, hS2, hb⟩
                      obtain ⟨vb, vd, rfl, hr⟩ := inr_own ho (fnd_inr hS2 hl)
                      have q5 := has_any vb vd (fnd S2) (x : Int) y4 hr (by have := fnd_le hS2 hl; omega)
                      rw [fnd_turn hlv hlx HS1.out hS2, ← HP3.out] at q5
                      have HG5 := Lib.hid (HG3.out.below hb); have HU5 := Lib.hid (HU3.out.below hb)
                      clear ho hb hr hS2 HS1 HP3
                      go_wp2_with fail
                      refine q5.mono ?_; clear q5; rintro e y5 ⟨rfl, rfl⟩
                      cases p3 with
                      | true =>
                        go_wp2_with fail
                        go_roundw
                        · exact ⟨x + 1, by omega, by go_num, by rw [HST.out]; simp, HG5.out, HU5.out⟩
                        · simp [intOf]; omega
                      | false =>
                        go_wp2_with fail
                        go_roundw
                        · exact ⟨x + 1, by omega, by go_num, by rw [HST.out]; simp, HG5.out, HU5.out⟩
                        · simp [intOf]; omega
                    | false =>
                      have hb0 := below1 y1 (.cells #[.int .i64 (x : Int)] 3)
                      have q2 := reach_o (HGw.out.below hb0) (some ⟨y1.heap.size, 0, none⟩) 1 [(x : Int)] (lit_rg y1 [(x : Int)] (by intro z hz; rw [List.mem_singleton.1 hz]; exact hix)) (by simp)
                      simp only [List.length_cons, List.length_nil, Nat.reduceAdd, List.map_cons, List.map_nil] at q2
                      have HGx := Lib.hid (HGw.out.below hb0); have HUx := Lib.hid (HUw.out.below hb0)
                      clear hb0
                      go_wp2_with fail
                      refine q2.mono ?_; clear q2; rintro e y2 ⟨v1, S1, rfl, ho, hS1, hb⟩
                      obtain ⟨va, vc, rfl, hr⟩ := inr_own ho (fnd_inr hS1 hl)
                      have q3 := has_any va vc (fnd S1) (v : Int) y2 hr (by have := fnd_le hS1 hl; omega)
                      have HS1 := Lib.hid hS1
                      have HG2 := Lib.hid (HGx.out.below hb); have HU2 := Lib.hid (HUx.out.below hb)
                      obtain ⟨p3, hp3⟩ : ∃ p3, p3 = decide (((v : Nat) : Int) ∈ fnd S1) := ⟨_, rfl⟩
                      rw [← hp3] at q3
                      have HP3 := Lib.hid hp3
                      clear ho hb hr hS1 hp3
                      go_wp2_with fail
                      refine q3.mono ?_; clear q3; rintro e y3 ⟨rfl, rfl⟩
                      have hb0 := below1 y2 (.cells #[.int .i64 (v : Int)] 3)
                      have q4 := needs_o (HG2.out.below hb0) (some ⟨y2.heap.size, 0, none⟩) 1 [(v : Int)] (lit_rg y2 [(v : Int)] (by intro z hz; rw [List.mem_singleton.1 hz]; exact hiv)) (by simp)
                      simp only [List.length_cons, List.length_nil, Nat.reduceAdd, List.map_cons, List.map_nil] at q4
                      have HG3 := Lib.hid (HG2.out.below hb0); have HU3 := Lib.hid (HU2.out.below hb0)
                      clear hb0
                      go_wp2_with fail
                      refine q4.mono ?_; clear q4; rintro e y4 ⟨v2, S2, rfl, ho, hS2, hb⟩
                      obtain ⟨vb, vd, rfl, hr⟩ := inr_own ho (fnd_inr hS2 hl)
                      have q5 := has_any vb vd (fnd S2) (x : Int) y4 hr (by have := fnd_le hS2 hl; omega)
                      rw [fnd_turn hlv hlx HS1.out hS2, ← HP3.out] at q5
                      have HG5 := Lib.hid (HG3.out.below hb); have HU5 := Lib.hid (HU3.out.below hb)
                      clear ho hb hr hS2 HS1 HP3
                      go_wp2_with fail
                      refine q5.mono ?_; clear q5; rintro e y5 ⟨rfl, rfl⟩
                      cases p3 with
                      | true =>
                        go_wp2_with fail
                        go_roundw
                        · exact ⟨x + 1, by omega, by go_num, by rw [HST.out]; simp, HG5.out, HU5.out⟩
                        · simp [intOf]; omega
                      | false =>
                        go_wp2_with fail
                        go_roundw
                        · exact ⟨x + 1, by omega, by go_num, by rw [HST.out]; simp, HG5.out, HU5.out⟩
                        · simp [intOf]; omega
                · obtain rfl : x = R.length := by omega
                  have dx : decide ((R.length : Int) < (R.length : Int)) = false := decide_eq_false (by omega)
                  have q1 := has_any ua uc (fnd S) (v : Int) wr hU (by omega)
                  have q2 := has_any fa fc L (v : Int) wr (HR.out.below hG.b) (by omega)
                  rw [HCL.out] at q1
                  have HG4 := Lib.hid hG; have HU4 := Lib.hid hU
                  generalize decide (((v : Nat) : Int) ∈ L) = p2 at *
                  generalize rdk R S v R.length = p0 at *
                  clear hG hU HCL
                  cases p0 with
                  | true =>
                    rw [Bool.true_or] at q1
                    go_wp2_with fail
                    refine q1.mono ?_; rintro e y1 ⟨rfl, rfl⟩
                    go_wp2_with fail
                    refine q1.mono ?_; rintro e y1 ⟨rfl, rfl⟩
                    go_wp2_with fail
                    go_roundw
                    · exact ⟨v + 1, by omega, by go_num, HG4.out, HU4.out⟩
                    · simp [intOf]; omega
                  | false =>
                    rw [Bool.false_or] at q1
                    cases p2 with
                    | true =>
                      go_wp2_with fail
                      refine q1.mono ?_; rintro e y1 ⟨rfl, rfl⟩
                      go_wp2_with fail
                      refine q2.mono ?_; rintro e y1 ⟨rfl, rfl⟩
                      go_wp2_with fail
                      refine q1.mono ?_; rintro e y1 ⟨rfl, rfl⟩
                      go_wp2_with fail
                      refine q2.mono ?_; rintro e y1 ⟨rfl, rfl⟩
                      go_wp2_with fail
                      go_roundw
                      · exact ⟨v + 1, by omega, by go_num, HG4.out, HU4.out⟩
                      · simp [intOf]; omega
                    | false =>
                      go_wp2_with fail
                      refine q1.mono ?_; rintro e y1 ⟨rfl, rfl⟩
                      go_wp2_with fail
                      refine q2.mono ?_; rintro e y1 ⟨rfl, rfl⟩
                      go_wp2_with fail
                      refine q1.mono ?_; rintro e y1 ⟨rfl, rfl⟩
                      go_wp2_with fail
                      go_roundw
                      · exact ⟨v + 1, by omega, by go_num, HG4.out, HU4.out⟩
                      · simp [intOf]; omega
            · obtain rfl : v = R.length := by omega
              have dv : decide ((R.length : Int) < (R.length : Int)) = false := decide_eq_false (by omega)
              have HG4 := Lib.hid hG
              clear hG hU
              go_wp2_with fail
              refine (awake13 _).mono ?_; rintro e w9 ⟨rfl, hb⟩
              have HE := Lib.hid (HG4.out.b.trans (hb.mono HG4.out.b.size))
              clear hb
              go_wp2_with fail
              go_ret
              exact ⟨rfl, HE.out⟩
        · have hmade := made_no m (by omega) a c l hn w
          go_enter Try.func4, Try.ntmps4
          go_wp2_with fail
          refine hfew.mono ?_; rintro e w1 ⟨rfl, rfl⟩
          go_wp2_with fail
          refine hmade.mono ?_; rintro e w2 ⟨xa, xn, xc, rfl, hb2⟩
          have HB2 := Lib.hid (hb2.trans ((below1 w2 (.cells #[.slice xa xn xc] 29)).mono hb2.size))
          clear hb2
          go_wp2_with fail
          refine (awake13 _).mono ?_; rintro e w3 ⟨rfl, hb⟩
          have HB3 := Lib.hid (HB2.out.trans (hb.mono HB2.out.size))
          clear hb
          go_wp2_with fail
          go_ret
          exact ⟨rfl, HB3.out⟩
      · have dL : decide (60 < (L.length : Int)) = true := decide_eq_true (by omega)
        go_enter Try.func4, Try.ntmps4
        go_wp2_with fail
        refine hfew.mono ?_; rintro e w1 ⟨rfl, rfl⟩
        go_wp2_with fail
        refine (awake13 _).mono ?_; rintro e w2 ⟨rfl, hb⟩
        go_wp2_with fail
        go_ret
        exact ⟨rfl, hb⟩
    · have dm : decide (12 < m) = true := decide_eq_true (by omega)
      go_enter Try.func4, Try.ntmps4
      go_wp2_with fail
      refine hfew.mono ?_; rintro e w1 ⟨rfl, rfl⟩
      go_wp2_with fail
      refine (awake13 _).mono ?_; rintro e w2 ⟨rfl, hb⟩
      go_wp2_with fail
      go_ret
      exact ⟨rfl, hb⟩
end Go.Proofs.Ytpjnpmdpabnjkaa
