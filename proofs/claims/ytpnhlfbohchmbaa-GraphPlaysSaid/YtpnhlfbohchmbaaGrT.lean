/-
  GraphTurns of layer 12. No conditions.
-/
import Derived.Test.YtpnhlfbohchmbaaGrJ
namespace Go.Proofs.Ytpnhlfbohchmbaa
open Go.RowKit
set_option linter.unusedSimpArgs false
set_option linter.unusedVariables false

theorem slx_act {w0 w : World} {B : Nat} {R : List (List Int)} {F : Nat → Prop} (h : OneG w0 w B R F) {u : Value} {L : List Int} (hs : Sl w0 u L) : SlX F w u L := by
  have h0 := slx_of hs h.f
  refine ⟨hs.below h.b, fun hn b hb => ?_⟩
  have := h0.2 hn b hb
  exact ⟨Nat.lt_of_lt_of_le this.1 h.b.size, this.2⟩
theorem slx_fresh {w0 w w' : World} {B : Nat} {R : List (List Int)} {F : Nat → Prop} (h : OneG w0 w B R F) {u : Value} {L : List Int} (ho : Own w' w.heap.size u L) (hL : ∀ z ∈ L, InR z) : SlX F w' u L :=
  slx_own ho hL fun j hj => h.r.foot j hj
theorem inr_row {R : List (List Int)} (hI : GrI R) (v : Nat) : ∀ z ∈ gR R v, InR z := fun z hz => by
  have h1 := hI.nodes v z hz
  have h2 := hI.hi
  unfold gnd at h1; unfold InR; omega
theorem inr_greads {R : List (List Int)} (hI : GrI R) (v : Int) : ∀ z ∈ greads R v, InR z := fun z hz => by
  unfold greads at hz
  split at hz
  · exact inr_row hI _ z hz
  · cases hz
theorem inr_rdrs {R : List (List Int)} (hI : GrI R) (v : Int) : ∀ z ∈ grdrs R v, InR z := fun z hz => by
  unfold grdrs at hz
  obtain ⟨u, hu, rfl⟩ := List.mem_map.1 hz
  have h1 := List.mem_range.1 (List.mem_filter.1 hu).1
  have h2 := hI.hi
  unfold InR; omega
theorem rdrs_len {R : List (List Int)} (v : Int) : (grdrs R v).length ≤ R.length := by
  unfold grdrs
  rw [List.length_map]
  exact Nat.le_trans (List.length_filter_le _ _) (by simp)
set_option maxHeartbeats 8000000 in
set_option maxRecDepth 100000 in
theorem turns12 (m : Int) (a : Option Addr) (c : Nat) (l : List GA) (w : World) (h : ActsG w a l) (hn : (l.length : Int) ≤ 9223372036854775807) :
    Calls Try.prog 4 #[.int .i64 m, .slice a l.length c] w fun e w' => e = .returned (.bool true) ∧ Below w.heap.size w w' := by
  have hfew := few_g a c l w h hn
  have H := Lib.hid h
  clear h
  cases hf : gfew l with
  | false =>
    rw [hf] at hfew
    go_enter Try.func4, Try.ntmps4
    go_wp2_with fail
    refine hfew.mono ?_; rintro e w1 ⟨rfl, rfl⟩
    go_wp2_with fail
    refine (g_awake _).mono ?_; rintro e w2 ⟨rfl, hb⟩
    go_wp2_with fail
    go_ret
    exact ⟨rfl, hb⟩
  | true =>
    rw [hf] at hfew
    obtain ⟨hl60, hl30⟩ := gfew_at hf
    have HL30 := Lib.hid hl30
    clear hl30 hf
    by_cases hm12 : m ≤ 12
    · have dm : decide (12 < m) = false := decide_eq_false (by omega)
      by_cases hm1 : 1 ≤ m
      · obtain ⟨n, rfl⟩ := Int.eq_ofNat_of_zero_le (by omega : 0 ≤ m)
        go_enter Try.func4, Try.ntmps4
        go_wp2_with fail
        refine hfew.mono ?_; rintro e w1 ⟨rfl, rfl⟩
        go_wp2_with fail
        refine (new_g n _ (by omega) (by omega)).mono ?_; rintro e w2 ⟨B, F, rfl, hr, hb, hF⟩
        have h2 := OneG.new (Below.refl w1.heap.size w1) hr hb hF
        have H2 := Lib.hid h2
        clear hr hb hF h2 hfew
        go_wp2_with fail
        go_loopw [7] (fun i wr => ∃ (k : Nat) (R : List (List Int)) (F : Nat → Prop), k ≤ l.length ∧ i = .int .i64 (k : Int) ∧ R.length = n ∧ OneG w1 wr B R F) (fun i _ => l.length - (intOf i).toNat)
        case atStart => exact ⟨0, _, F, Nat.zero_le _, rfl, List.length_replicate, H2.out⟩
        case round =>
          obtain ⟨k, R, F1, hk, rfl, hRl, hG⟩ := hrel
          by_cases hlt : k < l.length
          · obtain ⟨b, off, u, rfl, hc1, hc2, hsl, hir⟩ := H.out k hlt
            have hlen := HL30.out k hlt
            have hx := slx_act hG hsl
            have hbl := World.block_lt_of_cell? _ _ hc1
            have hc1 := (hG.b.cell (World.block_lt_of_cell? _ _ hc1)).trans hc1
            have hc2 := (hG.b.cell (World.block_lt_of_cell? _ _ hc2)).trans hc2
            have i0 : (0 : Int) ≤ (k : Int) := by omega
            have i1 : (k : Int) < (l.length : Int) := by omega
            have hset := fun W (hh : OneG w1 W B R F1) (hq : SlX F1 W u (gAt l k).2) => set_o hh (gAt l k).1 hq (by omega)
            have hgl := fun Rn => gset_len Rn (gAt l k).1 (gAt l k).2
            obtain ⟨ua, uc, rfl, _⟩ := hsl
            generalize (gAt l k).1 = v at *
            generalize (gAt l k).2 = L at *
            have HG := Lib.hid hG; have HX := Lib.hid hx
            clear hG hx
            go_wp2_with fail
            go_region_held3 (fun wz => wz.cell? ⟨b, off + k * 2, none⟩ = some (.int .i64 v) ∧ wz.cell? ⟨b, off + k * 2 + 1, none⟩ = some (.slice ua L.length uc))
              (first | exact ⟨hc1, hc2⟩ | exact ⟨hc3, hc4⟩)
              (first
                | (go_at_call 18; refine (hset _ (HG.out.below ((Below.refl _ _).drew)) (HX.out.below ((Below.refl _ _).drew))).mono ?_; rintro e w3 ⟨rfl, F2, h3, ht3, hs3⟩
                   have hb3 := (ht3.below HG.out.f HG.out.b.size)
                   have hc3 := (hb3.cell (p := ⟨b, off + k * 2, none⟩) hbl).trans hc1
                   have hc4 := (hb3.cell (p := ⟨b, off + k * 2 + 1, none⟩) hbl).trans hc2))
            go_wp2_with fail
            go_roundw
            · exact ⟨k + 1, _, F2, by omega, by go_num, (hgl R).trans hRl, h3⟩
            · simp [intOf]; omega
          · obtain rfl : k = l.length := by omega
            have hd0 : decide ((l.length : Int) < (l.length : Int)) = false := decide_eq_false (by omega)
            have HI := Lib.hid hG.r.1
            have hE := HI.out.edges
            have HT := Lib.hid (edges_there R)
            have HU := Lib.hid (edges_back HI.out)
            obtain rfl : n = R.length := hRl.symm
            have HG := Lib.hid hG
            clear hG
            go_wp2_with fail
            go_loopw [8, 9, 10] (fun t b i wr => ∃ (v T U : Nat) (F : Nat → Prop), v ≤ R.length ∧ i = .int .i64 (v : Int) ∧ t = .int .i64 (T : Int) ∧ b = .int .i64 (U : Int) ∧ T = sumN v (fun u => (gR R u).length) ∧ U = sumN v (fun x => (grdrs R ((x : Nat) : Int)).length) ∧ OneG w1 wr B R F) (fun t b i _ => R.length - (intOf i).toNat)
            case atStart => exact ⟨0, 0, 0, F1, Nat.zero_le _, rfl, rfl, rfl, rfl, rfl, HG.out⟩
            case round =>
              obtain ⟨v, T, U, F2, hv, rfl, rfl, rfl, hTs, hUs, hG⟩ := hrel
              have hT1 : T ≤ gedges R := by rw [hTs, HT.out]; exact sumN_le hv
              have hU1 : U ≤ gedges R := by rw [hUs, HU.out]; exact sumN_le hv
              have HTS := Lib.hid hTs; have HUS := Lib.hid hUs
              clear hTs hUs
              by_cases hlv : v < R.length
              · have dv : decide ((v : Int) < (R.length : Int)) = true := decide_eq_true (by omega)
                have hr1 := reads_o hG (v : Int)
                rw [greads_nat hlv] at hr1
                have hlen1 := HI.out.len v
                have hlen2 := rdrs_len (R := R) (v : Int)
                have hRhi := HI.out.hi
                have hir1 := inr_row HI.out v
                have hir2 := inr_rdrs HI.out (v : Int)
                have HT2 : Hid (T + (gR R v).length = sumN (v + 1) (fun u => (gR R u).length)) := by show _ = sumN v _ + _; rw [← HTS.out]
                have HU2 : Hid (U + (grdrs R (v : Int)).length = sumN (v + 1) (fun x => (grdrs R ((x : Nat) : Int)).length)) := by show _ = sumN v _ + _; rw [← HUS.out]
                have HS := Lib.hid (set_same HI.out hlv)
                have HM := Lib.hid (fun (z : Int) => mem_grdrs (R := R) hlv z)
                go_wp2_with fail
                refine hr1.mono ?_; clear hr1; rintro e w3 ⟨u1, rfl, ho1, hG3, hb3⟩
                obtain ⟨ua, uc, rfl, _, _⟩ := ho1.reads hir1
                clear ho1 hb3 hG
                have hr2 := readers_o hG3 (v : Int)
                go_wp2_with fail
                refine hr2.mono ?_; clear hr2; rintro e w4 ⟨u2, rfl, ho2, hG4, hb4⟩
                obtain ⟨va, vc, rfl, _, _⟩ := ho2.reads hir2
                clear ho2 hb4 hG3
                have HLa : Hid ((gR R v).length ≤ 20000 ∧ (grdrs R (v : Int)).length ≤ 20000) := ⟨by omega, by omega⟩
                obtain ⟨p1, hp1⟩ : ∃ p1, p1 = (gR R v).length := ⟨_, rfl⟩
                obtain ⟨p2, hp2⟩ : ∃ p2, p2 = (grdrs R (v : Int)).length := ⟨_, rfl⟩
                rw [← hp1, ← hp2] at HLa
                rw [← hp1] at hlen1 HT2 ⊢
                rw [← hp2] at hlen2 HU2 ⊢
                obtain ⟨hp1b, hp2b⟩ := HLa.out
                have HP1 := Lib.hid hp1; have HP2 := Lib.hid hp2
                have HG4 := Lib.hid hG4
                clear hp1 hp2 hG4 hir1 hir2
                go_wp2_with fail
                go_loopw [11] (fun j wr => ∃ x : Nat, x ≤ R.length ∧ j = .int .i64 (x : Int) ∧ OneG w1 wr B R F2) (fun j _ => R.length - (intOf j).toNat)
                case atStart => exact ⟨0, Nat.zero_le _, rfl, HG4.out⟩
                case round =>
                  obtain ⟨x, hx, rfl, hG5⟩ := hrel
                  by_cases hlx : x < R.length
                  · have dx : decide ((x : Int) < (R.length : Int)) = true := decide_eq_true (by omega)
                    have hiv : InR (v : Int) := by unfold InR; omega
                    have q1 := has_o hG5 (v : Int) (x : Int) hiv
                    have hgh : ghas R (v : Int) (x : Int) = decide ((x : Int) ∈ gR R v) := by unfold ghas; rw [greads_nat hlv]
                    rw [hgh] at q1
                    by_cases e : v = x
                    · subst e
                      have HM1 : Hid (decide ((v : Int) ∈ gR R v) = false) := decide_eq_false (HI.out.self v)
                      have HM2 : Hid (decide ((v : Int) ∈ grdrs R (v : Int)) = false) := decide_eq_false (fun q => HI.out.self v ((HM.out _).1 q))
                      rw [HM1.out] at q1
                      go_wp2_with fail
                      refine q1.mono ?_; clear q1; rintro e y1 ⟨rfl, hb1⟩
                      have hA := reads_o (hG5.below hb1) (v : Int)
                      rw [greads_nat hlv] at hA
                      go_wp2_with fail
                      refine hA.mono ?_; clear hA; rintro e y2 ⟨s1, rfl, ho1, hA2, hb2⟩
                      obtain ⟨sa, sc, rfl, _, hrd⟩ := ho1.reads (inr_row HI.out v)
                      have q2 := has_any sa sc (gR R v) (v : Int) y2 hrd (by have := HI.out.len v; have := HI.out.hi; omega)
                      rw [HM1.out] at q2
                      clear ho1 hb2 hrd hb1
                      go_wp2_with fail
                      refine q2.mono ?_; clear q2; rintro e y3 ⟨rfl, rfl⟩
                      have hA := readers_o hA2 (v : Int)
                      go_wp2_with fail
                      refine hA.mono ?_; clear hA; rintro e y4 ⟨s2, rfl, ho2, hA4, hb4⟩
                      obtain ⟨sb, sd, rfl, _, hrd⟩ := ho2.reads (inr_rdrs HI.out (v : Int))
                      have q3 := has_any sb sd (grdrs R (v : Int)) (v : Int) y4 hrd (by have := rdrs_len (R := R) (v : Int); have := HI.out.hi; omega)
                      rw [HM2.out] at q3
                      clear ho2 hb4 hrd hA2
                      go_wp2_with fail
                      refine q3.mono ?_; clear q3; rintro e y5 ⟨rfl, rfl⟩
                      have HA4 := Lib.hid hA4; clear hA4 hG5
                      go_wp2_with fail
                      go_roundw
                      · exact ⟨v + 1, by omega, by go_num, HA4.out⟩
                      · simp [intOf]; omega
                    · have hne : ((v : Int) == (x : Int)) = false := by simp; omega
                      by_cases hin : (x : Int) ∈ gR R v
                      · have HM1 : Hid (decide ((x : Int) ∈ gR R v) = true) := decide_eq_true hin
                        have HM2 : Hid (decide ((v : Int) ∈ grdrs R (x : Int)) = true) := decide_eq_true ((HM.out _).2 hin)
                        rw [HM1.out] at q1
                        go_wp2_with fail
                        refine q1.mono ?_; clear q1; rintro e y1 ⟨rfl, hb1⟩
                        have hA := reads_o (hG5.below hb1) (v : Int)
                        rw [greads_nat hlv] at hA
                        go_wp2_with fail
                        refine hA.mono ?_; clear hA; rintro e y2 ⟨s1, rfl, ho1, hA2, hb2⟩
                        obtain ⟨sa, sc, rfl, _, hrd⟩ := ho1.reads (inr_row HI.out v)
                        have q2 := has_any sa sc (gR R v) (x : Int) y2 hrd (by have := HI.out.len v; have := HI.out.hi; omega)
                        rw [HM1.out] at q2
                        clear ho1 hb2 hrd hb1
                        go_wp2_with fail
                        refine q2.mono ?_; clear q2; rintro e y3 ⟨rfl, rfl⟩
                        have hA := readers_o hA2 (x : Int)
                        go_wp2_with fail
                        refine hA.mono ?_; clear hA; rintro e y4 ⟨s2, rfl, ho2, hA4, hb4⟩
                        obtain ⟨sb, sd, rfl, _, hrd⟩ := ho2.reads (inr_rdrs HI.out (x : Int))
                        have q3 := has_any sb sd (grdrs R (x : Int)) (v : Int) y4 hrd (by have := rdrs_len (R := R) (x : Int); have := HI.out.hi; omega)
                        rw [HM2.out] at q3
                        clear ho2 hb4 hrd hA2
                        go_wp2_with fail
                        refine q3.mono ?_; clear q3; rintro e y5 ⟨rfl, rfl⟩
                        have HA4 := Lib.hid hA4; clear hA4 hG5
                        go_wp2_with fail
                        go_roundw
                        · exact ⟨x + 1, by omega, by go_num, HA4.out⟩
                        · simp [intOf]; omega
                      · have HM1 : Hid (decide ((x : Int) ∈ gR R v) = false) := decide_eq_false hin
                        have HM2 : Hid (decide ((v : Int) ∈ grdrs R (x : Int)) = false) := decide_eq_false (fun q => hin ((HM.out _).1 q))
                        rw [HM1.out] at q1
                        go_wp2_with fail
                        refine q1.mono ?_; clear q1; rintro e y1 ⟨rfl, hb1⟩
                        have hA := reads_o (hG5.below hb1) (v : Int)
                        rw [greads_nat hlv] at hA
                        go_wp2_with fail
                        refine hA.mono ?_; clear hA; rintro e y2 ⟨s1, rfl, ho1, hA2, hb2⟩
                        obtain ⟨sa, sc, rfl, _, hrd⟩ := ho1.reads (inr_row HI.out v)
                        have q2 := has_any sa sc (gR R v) (x : Int) y2 hrd (by have := HI.out.len v; have := HI.out.hi; omega)
                        rw [HM1.out] at q2
                        clear ho1 hb2 hrd hb1
                        go_wp2_with fail
                        refine q2.mono ?_; clear q2; rintro e y3 ⟨rfl, rfl⟩
                        have hA := readers_o hA2 (x : Int)
                        go_wp2_with fail
                        refine hA.mono ?_; clear hA; rintro e y4 ⟨s2, rfl, ho2, hA4, hb4⟩
                        obtain ⟨sb, sd, rfl, _, hrd⟩ := ho2.reads (inr_rdrs HI.out (x : Int))
                        have q3 := has_any sb sd (grdrs R (x : Int)) (v : Int) y4 hrd (by have := rdrs_len (R := R) (x : Int); have := HI.out.hi; omega)
                        rw [HM2.out] at q3
                        clear ho2 hb4 hrd hA2
                        go_wp2_with fail
                        refine q3.mono ?_; clear q3; rintro e y5 ⟨rfl, rfl⟩
                        have HA4 := Lib.hid hA4; clear hA4 hG5
                        go_wp2_with fail
                        go_roundw
                        · exact ⟨x + 1, by omega, by go_num, HA4.out⟩
                        · simp [intOf]; omega
                  · obtain rfl : x = R.length := by omega
                    have dx : decide ((R.length : Int) < (R.length : Int)) = false := decide_eq_false (by omega)
                    have hA := reads_o hG5 (v : Int)
                    rw [greads_nat hlv] at hA
                    go_wp2_with fail
                    refine hA.mono ?_; clear hA; rintro e y1 ⟨s1, rfl, ho1, hG6, hb1⟩
                    have hx := slx_fresh hG5 ho1 (inr_row HI.out v)
                    have q1 := set_o hG6 (v : Int) hx (by have := HI.out.len v; have := HI.out.hi; omega)
                    rw [HS.out.1, HS.out.2.1, HS.out.2.2.1, HS.out.2.2.2] at q1
                    obtain ⟨sa, sc, rfl, _, hrd⟩ := ho1.reads (inr_row HI.out v)
                    clear ho1 hb1 hx hG5 hrd
                    go_wp2_with fail
                    refine q1.mono ?_; clear q1; rintro e y2 ⟨rfl, F3, hG7, ht7, hs7⟩
                    have HG7 := Lib.hid hG7
                    clear hG7 ht7 hs7 hG6
                    go_wp2_with fail
                    go_roundw
                    · exact ⟨v + 1, T + p1, U + p2, F3, by omega, by go_num, by go_num, by go_num, HT2.out, HU2.out, HG7.out⟩
                    · simp [intOf]; omega
              · obtain rfl : v = R.length := by omega
                have dv : decide ((R.length : Int) < (R.length : Int)) = false := decide_eq_false (by omega)
                obtain rfl : T = gedges R := HTS.out.trans HT.out.symm
                obtain rfl : U = gedges R := HUS.out.trans HU.out.symm
                have q1 := edges_o hG
                generalize gedges R = E0 at *
                have HG8 := Lib.hid hG; clear hG
                go_wp2_with fail
                refine q1.mono ?_; rintro e y1 ⟨rfl, rfl⟩
                go_wp2_with fail
                refine (g_awake _).mono ?_; rintro e y2 ⟨rfl, hb⟩
                have HB := Lib.hid (HG8.out.b.trans (hb.mono HG8.out.b.size))
                clear hb
                go_wp2_with fail
                go_ret
                exact ⟨rfl, HB.out⟩
      · go_enter Try.func4, Try.ntmps4
        go_wp2_with fail
        refine hfew.mono ?_; rintro e w1 ⟨rfl, rfl⟩
        go_wp2_with fail
        refine (new_no_g m _ (by omega)).mono ?_; rintro e w2 ⟨rfl, rfl⟩
        go_wp2_with fail
        refine (g_awake _).mono ?_; rintro e w3 ⟨rfl, hb⟩
        go_wp2_with fail
        go_ret
        exact ⟨rfl, hb⟩
    · have dm : decide (12 < m) = true := decide_eq_true (by omega)
      go_enter Try.func4, Try.ntmps4
      go_wp2_with fail
      refine hfew.mono ?_; rintro e w1 ⟨rfl, rfl⟩
      go_wp2_with fail
      refine (g_awake _).mono ?_; rintro e w3 ⟨rfl, hb⟩
      go_wp2_with fail
      go_ret
      exact ⟨rfl, hb⟩
end Go.Proofs.Ytpnhlfbohchmbaa
