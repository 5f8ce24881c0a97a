/-
  What the document's own Set (gavelkindref21) answers. The condition: at most 100000 rates.
-/
import Derived.Test.YtogckefmmjbapaaR21b
import Derived.Test.YtogckefmmjbapaaRtE
namespace Go.Proofs.Ytogckefmmjbapaa
open Go.RowKit
set_option linter.unusedSimpArgs false
set_option linter.unusedVariables false

set_option maxHeartbeats 8000000 in
set_option maxRecDepth 100000 in
theorem r21set (a : Option Addr) (c : Nat) (L : List RtT) (r : RtT) (w : World) (hL : RdR w a L) (hn : L.length ≤ 100000) (hc : L.length ≤ c) (ca : a = none → c = 0) (hs : okT r) :
    Calls Try.prog 10 #[.slice a L.length c, encR r] w fun e w' => ∃ v, e = .returned (.tuple #[v, .int .i64 (stE L r)]) ∧ OwnR w' w.heap.size v (stL L r) ∧ Below w.heap.size w w' := by
  have hbx := below1 w (objR r)
  have HO := Lib.hid (Ow6.new w r)
  have hw0 := r21may r.1 r.2.1 r.2.2.1 r.2.2.2.1 r.2.2.2.2.1 r.2.2.2.2.2 (w.alloc (objR r))
  obtain ⟨z, hz⟩ : ∃ z, wrR r = z := ⟨_, rfl⟩
  have hw : Calls Try.prog 21 #[.agg #[.int .i64 r.1, .int .i64 r.2.1, .int .i64 r.2.2.1, .int .i64 r.2.2.2.1, .int .i64 r.2.2.2.2.1, .int .i64 r.2.2.2.2.2]] (w.alloc (.cells #[.int .i64 r.1, .int .i64 r.2.1, .int .i64 r.2.2.1, .int .i64 r.2.2.2.1, .int .i64 r.2.2.2.2.1, .int .i64 r.2.2.2.2.2] 26)) fun e w' => e = .returned (.int .i64 z) ∧ Below (w.alloc (.cells #[.int .i64 r.1, .int .i64 r.2.1, .int .i64 r.2.2.1, .int .i64 r.2.2.2.1, .int .i64 r.2.2.2.2.1, .int .i64 r.2.2.2.2.2] 26)).heap.size (w.alloc (.cells #[.int .i64 r.1, .int .i64 r.2.1, .int .i64 r.2.2.1, .int .i64 r.2.2.2.1, .int .i64 r.2.2.2.2.1, .int .i64 r.2.2.2.2.2] 26)) w' := by rw [← hz]; exact hw0
  have HL := Lib.hid hL
  have HBX := Lib.hid hbx
  have HCC := Lib.hid (And.intro hc (And.intro ca (And.intro hs hn)))
  have HZ := Lib.hid hz
  clear hL hbx hc ca hs hw0 hz
  obtain ⟨c0, c1, c2, c3, c4, c5⟩ := HO.out.cells
  go_enter Try.func10, Try.ntmps10
  go_wp2_with fail
  refine hw.mono ?_; clear hw; rintro e w5 ⟨rfl, hb5⟩
  have HB5 := Lib.hid (HBX.out.trans (hb5.mono HBX.out.size))
  have HO5 := Lib.hid (HO.out.below hb5)
  have HL5 := Lib.hid (HL.out.below HB5.out)
  clear hb5 c0 c1 c2 c3 c4 c5
  by_cases h0 : z = 0
  · have d0 : (z != 0) = false := by simpa using h0
    have HW : Hid (wrR r = 0) := HZ.out.trans h0
    clear h0
    go_wp2_with fail
    clear d0
    go_loopw [7, 8] (fun u i wr => ∃ q : Nat, q ≤ L.length ∧ i = .int .i64 (q : Int) ∧ u = .int .i64 (lsN L r q) ∧ Below w5.heap.size w5 wr) (fun _ i _ => L.length - (RowKit.intOf i).toNat)
    case atStart => exact ⟨0, Nat.zero_le _, rfl, rfl, Below.refl _ _⟩
    case round =>
      obtain ⟨q, hq, rfl, rfl, hb⟩ := hrel
      by_cases hlt : q < L.length
      · obtain ⟨b, off, rfl, e0, e1, e2, e3, e4, e5⟩ := (HL5.out.below hb).2 q hlt
        have i0 : (0 : Int) ≤ (q : Int) := by omega
        have i1 : (q : Int) < (L.length : Int) := by omega
        have g1 := wrapR hlt (show L.length ≤ 1000000 by omega)
        have HM := Lib.hid (And.intro (show q + 1 ≤ L.length from hlt) (measR hlt))
        have HYES : Hid (onK (L.getD q zR) r = true → lsN L r (q + 1) = (q : Int)) := fun h => lsN_yes h
        have HNO : Hid (onK (L.getD q zR) r = false → lsN L r (q + 1) = lsN L r q) := fun h => lsN_no h
        have HB := Lib.hid hb
        have hOk := HO5.out.below hb
        have hone := fun wz => r21one (L.getD q zR).1 (L.getD q zR).2.1 (L.getD q zR).2.2.1 (L.getD q zR).2.2.2.1 (L.getD q zR).2.2.2.2.1 (L.getD q zR).2.2.2.2.2 r.1 r.2.1 r.2.2.1 r.2.2.2.1 r.2.2.2.2.1 r.2.2.2.2.2 wz
        generalize L.getD q zR = s at *
        obtain ⟨t, ht⟩ : ∃ t, onK s r = t := ⟨_, rfl⟩
        rw [ht] at HYES HNO
        have HC : Hid (∀ wz, Calls Try.prog 13 #[.agg #[.int .i64 s.1, .int .i64 s.2.1, .int .i64 s.2.2.1, .int .i64 s.2.2.2.1, .int .i64 s.2.2.2.2.1, .int .i64 s.2.2.2.2.2], .agg #[.int .i64 r.1, .int .i64 r.2.1, .int .i64 r.2.2.1, .int .i64 r.2.2.2.1, .int .i64 r.2.2.2.2.1, .int .i64 r.2.2.2.2.2]] wz fun e w' => e = .returned (.bool t) ∧ Below wz.heap.size wz w') := by rw [← ht]; exact hone
        have hlb : b < wr.heap.size := World.block_lt_of_cell? wr _ e0
        have HS : Hid (∀ wz, Below wr.heap.size wr wz → (wz.cell? ⟨b, off + q * 6, none⟩ = some (.int .i64 s.1) ∧ wz.cell? ⟨b, off + q * 6 + 1, none⟩ = some (.int .i64 s.2.1) ∧ wz.cell? ⟨b, off + q * 6 + 2, none⟩ = some (.int .i64 s.2.2.1) ∧ wz.cell? ⟨b, off + q * 6 + 3, none⟩ = some (.int .i64 s.2.2.2.1) ∧ wz.cell? ⟨b, off + q * 6 + 4, none⟩ = some (.int .i64 s.2.2.2.2.1) ∧ wz.cell? ⟨b, off + q * 6 + 5, none⟩ = some (.int .i64 s.2.2.2.2.2)) ∧ (wz.cell? ⟨w.heap.size, 0, none⟩ = some (.int .i64 r.1) ∧ wz.cell? ⟨w.heap.size, 1, none⟩ = some (.int .i64 r.2.1) ∧ wz.cell? ⟨w.heap.size, 2, none⟩ = some (.int .i64 r.2.2.1) ∧ wz.cell? ⟨w.heap.size, 3, none⟩ = some (.int .i64 r.2.2.2.1) ∧ wz.cell? ⟨w.heap.size, 4, none⟩ = some (.int .i64 r.2.2.2.2.1) ∧ wz.cell? ⟨w.heap.size, 5, none⟩ = some (.int .i64 r.2.2.2.2.2))) := fun wz h => ⟨⟨(h.cell (p := ⟨b, off + q * 6, none⟩) hlb).trans e0, (h.cell (p := ⟨b, off + q * 6 + 1, none⟩) hlb).trans e1, (h.cell (p := ⟨b, off + q * 6 + 2, none⟩) hlb).trans e2, (h.cell (p := ⟨b, off + q * 6 + 3, none⟩) hlb).trans e3, (h.cell (p := ⟨b, off + q * 6 + 4, none⟩) hlb).trans e4, (h.cell (p := ⟨b, off + q * 6 + 5, none⟩) hlb).trans e5⟩, (hOk.below h).cells⟩
        obtain ⟨c0, c1, c2, c3, c4, c5⟩ := hOk.cells
        have K := Lib.hid (Below.refl wr.heap.size wr)
        obtain ⟨x, hx⟩ : ∃ x, lsN L r q = x := ⟨_, rfl⟩
        rw [hx] at HNO ⊢
        clear hone ht hb hOk hlb hx hlt hq
        go_wp2_with fail
        cases t with
        | true =>
          have HY2 : Hid (lsN L r (q + 1) = (q : Int)) := HYES.out rfl
          clear HYES HNO
          go_region_held3 (fun wz => (wz.cell? ⟨b, off + q * 6, none⟩ = some (.int .i64 s.1) ∧ wz.cell? ⟨b, off + q * 6 + 1, none⟩ = some (.int .i64 s.2.1) ∧ wz.cell? ⟨b, off + q * 6 + 2, none⟩ = some (.int .i64 s.2.2.1) ∧ wz.cell? ⟨b, off + q * 6 + 3, none⟩ = some (.int .i64 s.2.2.2.1) ∧ wz.cell? ⟨b, off + q * 6 + 4, none⟩ = some (.int .i64 s.2.2.2.2.1) ∧ wz.cell? ⟨b, off + q * 6 + 5, none⟩ = some (.int .i64 s.2.2.2.2.2)) ∧ (wz.cell? ⟨w.heap.size, 0, none⟩ = some (.int .i64 r.1) ∧ wz.cell? ⟨w.heap.size, 1, none⟩ = some (.int .i64 r.2.1) ∧ wz.cell? ⟨w.heap.size, 2, none⟩ = some (.int .i64 r.2.2.1) ∧ wz.cell? ⟨w.heap.size, 3, none⟩ = some (.int .i64 r.2.2.2.1) ∧ wz.cell? ⟨w.heap.size, 4, none⟩ = some (.int .i64 r.2.2.2.2.1) ∧ wz.cell? ⟨w.heap.size, 5, none⟩ = some (.int .i64 r.2.2.2.2.2)))
            (first | exact HS.out _ K.out | exact HS.out _ K.out.drew)
            (first
              | (go_at_call 13; with_reducible refine (HC.out _).mono ?_; rintro e wn ⟨rfl, hbn⟩; (first | replace K := Lib.hid (K.out.trans (hbn.mono K.out.size)) | replace K := Lib.hid (K.out.drew.trans (hbn.mono K.out.drew.size))); clear hbn))
          all_goals clear c0 c1 c2 c3 c4 c5 e0 e1 e2 e3 e4 e5
          all_goals go_wp2_with fail
          all_goals go_roundw
          · exact ⟨q + 1, HM.out.1, by go_num, by rw [HY2.out], HB.out.trans (K.out.mono HB.out.size)⟩
          · first | exact HM.out.2 | (rw [g1]; exact HM.out.2)
        | false =>
          have HY2 : Hid (lsN L r (q + 1) = x) := HNO.out rfl
          clear HYES HNO
          go_region_held3 (fun wz => (wz.cell? ⟨b, off + q * 6, none⟩ = some (.int .i64 s.1) ∧ wz.cell? ⟨b, off + q * 6 + 1, none⟩ = some (.int .i64 s.2.1) ∧ wz.cell? ⟨b, off + q * 6 + 2, none⟩ = some (.int .i64 s.2.2.1) ∧ wz.cell? ⟨b, off + q * 6 + 3, none⟩ = some (.int .i64 s.2.2.2.1) ∧ wz.cell? ⟨b, off + q * 6 + 4, none⟩ = some (.int .i64 s.2.2.2.2.1) ∧ wz.cell? ⟨b, off + q * 6 + 5, none⟩ = some (.int .i64 s.2.2.2.2.2)) ∧ (wz.cell? ⟨w.heap.size, 0, none⟩ = some (.int .i64 r.1) ∧ wz.cell? ⟨w.heap.size, 1, none⟩ = some (.int .i64 r.2.1) ∧ wz.cell? ⟨w.heap.size, 2, none⟩ = some (.int .i64 r.2.2.1) ∧ wz.cell? ⟨w.heap.size, 3, none⟩ = some (.int .i64 r.2.2.2.1) ∧ wz.cell? ⟨w.heap.size, 4, none⟩ = some (.int .i64 r.2.2.2.2.1) ∧ wz.cell? ⟨w.heap.size, 5, none⟩ = some (.int .i64 r.2.2.2.2.2)))
            (first | exact HS.out _ K.out | exact HS.out _ K.out.drew)
            (first
              | (go_at_call 13; with_reducible refine (HC.out _).mono ?_; rintro e wn ⟨rfl, hbn⟩; (first | replace K := Lib.hid (K.out.trans (hbn.mono K.out.size)) | replace K := Lib.hid (K.out.drew.trans (hbn.mono K.out.drew.size))); clear hbn))
          all_goals clear c0 c1 c2 c3 c4 c5 e0 e1 e2 e3 e4 e5
          all_goals go_wp2_with fail
          all_goals go_roundw
          · exact ⟨q + 1, HM.out.1, by go_num, by rw [HY2.out], HB.out.trans (K.out.mono HB.out.size)⟩
          · first | exact HM.out.2 | (rw [g1]; exact HM.out.2)
      · obtain rfl : q = L.length := by omega
        have hlin := lst_in L r
        have HST := Lib.hid hlin
        obtain ⟨x, hx⟩ : ∃ x, lsN L r L.length = x := ⟨_, rfl⟩
        have HX : Hid (lst L r = x) := hx
        rw [show lst L r = x from hx] at hlin
        rw [hx]
        have HOR := Lib.hid (HO5.out.below hb)
        have HSL := Lib.hid (((HL5.out.below hb).below (below1 wr (.cells #[] 26))).slc HCC.out.1 HCC.out.2.1)
        have hOE : OwnR (wr.alloc (.cells #[] 26)) wr.heap.size (.slice (some ⟨wr.heap.size, 0, none⟩) 0 0) [] := World.ownsRow_lit (base := wr.heap.size) (e := 26) (size := 6) wr #[] 0 (Nat.le_refl _) (by unfold maxLen; omega) rfl
        have HOE := Lib.hid hOE
        have HB := Lib.hid (HB5.out.trans (hb.mono HB5.out.size))
        clear hx hb hlt hq hOE
        by_cases h1 : 0 ≤ x
        · obtain ⟨m, rfl⟩ := Int.eq_ofNat_of_zero_le h1
          have HSE : Hid (stE L r = 0 ∧ stL L r = L.set m r) := by
            have := stE_at (L := L) HW.out (by rw [HX.out]; exact h1)
            rw [HX.out, Int.toNat_natCast] at this; exact this
          have d1 : decide ((0 : Int) ≤ (m : Int)) = true := decide_eq_true h1
          have hml : m < L.length := by omega
          have i0 : (0 : Int) ≤ (m : Int) := h1
          have i1 : (m : Int) < (L.length : Int) := by omega
          clear h1 hlin
          go_wp2_with
            (at_builtin
             refine wp_catR _ rfl (.tmp 28) (.tmp 29) rfl wr.heap.size _ [] L a c rfl HOE.out rfl HSL.out (by simp; omega) (by simp) ?_
             intro v7 w7 ho7 hb7
             obtain ⟨g, cap, hv7, hgb⟩ := OwnR.form (by simpa using ho7) (show 0 < L.length by omega)
             subst hv7
             have HO7 : Hid (OwnR w7 wr.heap.size (.slice (some ⟨g, 0, none⟩) L.length cap) L) := by have := ho7; rwa [List.nil_append] at this
             have HB7 : Hid (Below wr.heap.size wr w7) := (below1 wr _).trans hb7
             clear ho7 hb7
             obtain ⟨c0, c1, c2, c3, c4, c5⟩ := (HOR.out.below HB7.out).cells
             obtain ⟨⟨k0, k1, k2, k3, k4, k5⟩, f0, f1, f2, f3, f4, f5⟩ := HO7.out.cells hml)
          go_ret2
          rw [HSE.out.1, HSE.out.2]
          have hb := HB.out.trans (HB7.out.mono HB.out.size)
          have hg : w.heap.size ≤ g := Nat.le_trans HB.out.size hgb
          exact ⟨_, rfl, (HO7.out.put hml r).lower HB.out.size, ((((((hb.setCell (p := ⟨g, m * 6, none⟩) hg (.int .i64 r.1)).setCell (p := ⟨g, m * 6 + 1, none⟩) hg (.int .i64 r.2.1)).setCell (p := ⟨g, m * 6 + 2, none⟩) hg (.int .i64 r.2.2.1)).setCell (p := ⟨g, m * 6 + 3, none⟩) hg (.int .i64 r.2.2.2.1)).setCell (p := ⟨g, m * 6 + 4, none⟩) hg (.int .i64 r.2.2.2.2.1)).setCell (p := ⟨g, m * 6 + 5, none⟩) hg (.int .i64 r.2.2.2.2.2))⟩
        · have d1 : decide ((0 : Int) ≤ x) = false := decide_eq_false h1
          by_cases h2 : 2000 ≤ L.length
          · have d2 : decide ((2000 : Int) ≤ (L.length : Int)) = true := decide_eq_true (by omega)
            have d3 : decide (2000 ≤ L.length) = true := decide_eq_true h2
            have HSE : Hid (stE L r = 3 ∧ stL L r = []) := stE_full HW.out (by rw [HX.out]; exact h1) h2
            clear h1 hlin
            go_wp2_with
              (at_builtin
               refine wp_catR _ rfl (.tmp 28) (.tmp 29) rfl wr.heap.size _ [] L a c rfl HOE.out rfl HSL.out (by simp; omega) (by simp) ?_
               intro v7 w7 ho7 hb7
               have HB7 : Hid (Below wr.heap.size wr w7) := (below1 wr _).trans hb7
               clear ho7 hb7)
            go_ret2
            rw [HSE.out.1, HSE.out.2]
            exact ⟨_, rfl, OwnR.nil _ _, HB.out.trans (HB7.out.mono HB.out.size)⟩
          · have d2 : decide ((2000 : Int) ≤ (L.length : Int)) = false := decide_eq_false (by omega)
            have d3 : decide (2000 ≤ L.length) = false := decide_eq_false h2
            have HSE : Hid (stE L r = 0 ∧ stL L r = L ++ [r]) := stE_new HW.out (by rw [HX.out]; exact h1) h2
            clear h1 hlin
            have hlen : L.length + [r].length ≤ 1000000000 := by simp; omega
            go_wp2_with
              (first
                | (at_builtin
                   refine wp_catR _ rfl (.tmp 28) (.tmp 29) rfl wr.heap.size _ [] L a c rfl HOE.out rfl HSL.out (by simp; omega) (by simp) ?_
                   intro v7 w7 ho7 hb7
                   have HO7 : Hid (OwnR w7 wr.heap.size v7 L) := by have := ho7; rwa [List.nil_append] at this
                   obtain ⟨ua, uc, hu⟩ := (ownsRow_slc HO7.out).form
                   subst hu
                   have HB7 : Hid (Below wr.heap.size wr w7) := (below1 wr _).trans hb7
                   clear ho7 hb7
                   obtain ⟨c0, c1, c2, c3, c4, c5⟩ := (HOR.out.below HB7.out).cells
                   have HQ : Hid (SlC (w7.alloc (objR r)) (.slice (some ⟨w7.heap.size, 0, none⟩) [r].length 1) 6 [r].length (rowR [r])) := by (show SlC _ _ _ _ _; simpa [rowR] using oneR w7 r)
                   have hb8 : wr.heap.size ≤ (w7.alloc (objR r)).heap.size := by (have := HB7.out.size; simp; omega))
                | (at_builtin
                   refine wp_catR _ rfl (.tmp 41) (.tmp 43) rfl wr.heap.size _ L [r] (some ⟨w7.heap.size, 0, none⟩) 1 rfl (HO7.out.below (below1 _ _)) rfl HQ.out hlen hb8 ?_
                   intro v9 w9 ho9 hb9
                   have HO9 := Lib.hid ho9
                   obtain ⟨va, vc, hu⟩ := (ownsRow_slc HO9.out).form
                   subst hu
                   clear ho9))
            go_ret2
            rw [HSE.out.1, HSE.out.2]
            exact ⟨_, rfl, by simpa using HO9.out.lower HB.out.size, HB.out.trans ((HB7.out.trans (((below1 w7 (objR r)).mono HB7.out.size).trans hb9)).mono HB.out.size)⟩
  · have d0 : (z != 0) = true := by simpa using h0
    have HSE : Hid (stE L r = z ∧ stL L r = []) := by
      have := stE_wr (L := L) (r := r) (by rw [HZ.out]; exact h0)
      rw [HZ.out] at this; exact this
    clear h0
    go_wp2_with fail
    go_ret2
    rw [HSE.out.1, HSE.out.2]
    exact ⟨_, rfl, OwnR.nil _ _, HB5.out⟩
end Go.Proofs.Ytogckefmmjbapaa
