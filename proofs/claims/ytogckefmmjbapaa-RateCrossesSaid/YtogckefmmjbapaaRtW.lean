/-
  Layer 21's awake, and contracts at written numbers as its walk asks them. No conditions.
-/
import Derived.Test.YtogckefmmjbapaaRtH
import Derived.Test.YtogckefmmjbapaaRtK
import Derived.Test.YtogckefmmjbapaaR21c
import Derived.Test.YtogckefmmjbapaaRefHs
namespace Go.Proofs.Ytogckefmmjbapaa
open Go.RowKit
set_option linter.unusedSimpArgs false
set_option linter.unusedVariables false

def twoR : List RtT := [(1, 2, 1, 0, 3, 2), (3, 2, 1, 0, 1, 2)]
theorem twoR_ok : ∀ s ∈ twoR, okT s := by
  intro s hs
  simp [twoR] at hs
  rcases hs with rfl | rfl <;> exact ⟨by decide, by decide, by decide, by decide, by decide, by decide⟩
theorem litR (w : World) (L : List RtT) (hL : ∀ s ∈ L, okT s) (hl : L.length ≤ 1000) : RdR (w.alloc (.cells (rowR L).toArray 26)) (some ⟨w.heap.size, 0, none⟩) L :=
  rdR_of (c := L.length) (ownsRow_slc (World.ownsRow_lit (base := w.heap.size) (e := 26) (size := 6) w (rowR L).toArray L.length (Nat.le_refl _) (by unfold maxLen; omega) (by simpa using rowR_len L))) hL
set_option maxRecDepth 100000 in
theorem two21 (w : World) : Calls Try.prog 17 #[] w fun e w' => ∃ a, e = .returned (.slice a 2 2) ∧ (a = none → 2 = 0) ∧ RdR w' a twoR ∧ Below w.heap.size w w' := by
  have hR : Hid (RdR (w.alloc (.cells #[.int .i64 1, .int .i64 2, .int .i64 1, .int .i64 0, .int .i64 3, .int .i64 2, .int .i64 3, .int .i64 2, .int .i64 1, .int .i64 0, .int .i64 1, .int .i64 2] 26)) (some ⟨w.heap.size, 0, none⟩) twoR) := litR w twoR twoR_ok (by decide)
  have HB := Lib.hid (below1 w (.cells #[.int .i64 1, .int .i64 2, .int .i64 1, .int .i64 0, .int .i64 3, .int .i64 2, .int .i64 3, .int .i64 2, .int .i64 1, .int .i64 0, .int .i64 1, .int .i64 2] 26))
  go_enter Try.func17, Try.ntmps17
  go_wp2_with fail
  go_ret
  exact ⟨_, rfl, fun q => (by cases q), hR.out, HB.out⟩
theorem check21 (a : Option Addr) (c n : Nat) (L : List RtT) (v e : Int) (w : World) (hL : RdR w a L) (hn : L.length = n) (hl : n ≤ 1000000) (hv : rkV L = v) (he : rkE L = e) :
    Calls Try.prog 7 #[.slice a n c] w fun en w' => en = .returned (.tuple #[.int .i64 v, .int .i64 e]) ∧ Below w.heap.size w w' := by
  subst hn; subst hv; subst he
  exact check_r a c L w hL hl
theorem find21 (a : Option Addr) (c n : Nat) (L : List RtT) (k0 k1 k2 k3 k4 k5 p q : Int) (b : Bool) (w : World) (hL : RdR w a L) (hn : L.length = n) (hl : n ≤ 1000000) (hp : (fnd L (k0, k1, k2, k3, k4, k5)).getD (0, 0) = (p, q)) (hb : (fnd L (k0, k1, k2, k3, k4, k5)).isSome = b) :
    Calls Try.prog 12 #[.slice a n c, .agg #[.int .i64 k0, .int .i64 k1, .int .i64 k2, .int .i64 k3, .int .i64 k4, .int .i64 k5]] w fun en w' => en = .returned (.tuple #[.agg #[.int .i64 p, .int .i64 q], .bool b]) ∧ Below w.heap.size w w' := by
  subst hn; subst hb
  have := find_r a c L (k0, k1, k2, k3, k4, k5) w hL hl
  rw [hp] at this; exact this
theorem cross21 (a : Option Addr) (c n : Nat) (L : List RtT) (k0 k1 k2 k3 k4 k5 p q : Int) (b : Bool) (w : World) (hL : RdR w a L) (hn : L.length = n) (hl : n ≤ 100000) (hp : (crs L (k0, k1, k2, k3, k4, k5)).getD (0, 0) = (p, q)) (hb : (crs L (k0, k1, k2, k3, k4, k5)).isSome = b) :
    Calls Try.prog 14 #[.slice a n c, .agg #[.int .i64 k0, .int .i64 k1, .int .i64 k2, .int .i64 k3, .int .i64 k4, .int .i64 k5]] w fun en w' => en = .returned (.tuple #[.agg #[.int .i64 p, .int .i64 q], .bool b]) ∧ Below w.heap.size w w' := by
  subst hn; subst hb
  have := cross_r a c L (k0, k1, k2, k3, k4, k5) w hL hl
  rw [hp] at this; exact this
theorem set21 (a : Option Addr) (c n m : Nat) (L M : List RtT) (k0 k1 k2 k3 k4 k5 e : Int) (w : World) (hL : RdR w a L) (hn : L.length = n) (hl : n ≤ 100000) (hc : n ≤ c) (ca : a = none → c = 0) (hs : okT (k0, k1, k2, k3, k4, k5)) (hM : stL L (k0, k1, k2, k3, k4, k5) = M) (hm : M.length = m) (he : stE L (k0, k1, k2, k3, k4, k5) = e) :
    Calls Try.prog 9 #[.slice a n c, .agg #[.int .i64 k0, .int .i64 k1, .int .i64 k2, .int .i64 k3, .int .i64 k4, .int .i64 k5]] w fun en w' => ∃ ma mc, en = .returned (.tuple #[.slice ma m mc, .int .i64 e]) ∧ m ≤ mc ∧ RdR w' ma M ∧ Below w.heap.size w w' := by
  subst hn; subst he
  have hok := stL_ok hL.1 hs
  rw [hM] at hok
  refine (set_r a c L (k0, k1, k2, k3, k4, k5) w hL hl hc ca hs).mono fun en w' ⟨v, h1, h2, h3⟩ => ?_
  rw [hM] at h2
  obtain ⟨ma, mc, rfl, q1, _, q3⟩ := h2.reads hok
  rw [hm] at h1 q1
  exact ⟨ma, mc, h1, q1, q3, h3⟩
theorem known21 (a : Option Addr) (c n m : Nat) (L : List RtT) (F : List Int) (k0 k1 k2 k3 k4 k5 : Int) (w : World) (hL : RdR w a L) (hn : L.length = n) (hl : n ≤ 100000) (hF : knw L (k0, k1, k2, k3, k4, k5) = F) (hm : F.length = m) :
    Calls Try.prog 19 #[.slice a n c, .agg #[.int .i64 k0, .int .i64 k1, .int .i64 k2, .int .i64 k3, .int .i64 k4, .int .i64 k5]] w fun en w' => ∃ fa fc, en = .returned (.slice fa m fc) ∧ Reads w' fa F ∧ Below w.heap.size w w' := by
  subst hn; subst hF
  refine (known_r a c L (k0, k1, k2, k3, k4, k5) w hL hl).mono fun en w' ⟨v, h1, h2, h3⟩ => ?_
  obtain ⟨fa, fc, rfl, _, _, hr⟩ := h2
  rw [hm] at h1
  exact ⟨fa, fc, h1, hr, h3⟩
theorem same01 (a a' : Option Addr) (c c' n m : Nat) (L M : List Int) (w : World) (hL : Reads w a L) (hM : Reads w a' M) (hn : L.length = n) (hm : M.length = m) (h : L = M) (hl : n ≤ 1000000) :
    Calls Try.prog 18 #[.slice a n c, .slice a' m c'] w fun e w' => e = .returned (.bool true) ∧ Below w.heap.size w w' := by
  subst hn; subst hm
  have := same_any a a' c c' L M w hL hM (by omega)
  rwa [decide_eq_true h] at this
theorem litI (w : World) (L : List Int) (hL : ∀ z ∈ L, InR z) : Reads (w.alloc (.cells (L.map (Value.int .i64)).toArray 3)) (some ⟨w.heap.size, 0, none⟩) L :=
  ⟨hL, fun i hi => ⟨w.heap.size, 0, rfl, by rw [getD_lt _ _ hi]; simp [hi]⟩⟩
theorem knw_is : knw (twoR ++ [(1, 2, 1, 4, 5, 1)]) (1, 2, 1, 0, 0, 0) = [0, 4] := by
  have e : prds (twoR ++ [(1, 2, 1, 4, 5, 1)]) (1, 2, 1, 0, 0, 0) = [0, 4] := by decide
  unfold knw
  rw [e, List.mergeSort_of_pairwise (by simp)]
  decide +kernel

set_option maxHeartbeats 8000000 in
set_option maxRecDepth 100000 in
theorem awake21 (w : World) : Calls Try.prog 6 #[] w fun e w' => e = .returned (.bool true) ∧ Below w.heap.size w w' := by
  have HE1 : Hid (rkV twoR = 2 ∧ rkE twoR = 0) := ⟨by decide +kernel, by decide +kernel⟩
  have HE2 : Hid ((crs twoR (1, 3, 1, 0, 0, 0)).getD (0, 0) = (3, 1) ∧ (crs twoR (1, 3, 1, 0, 0, 0)).isSome = true) := ⟨by decide +kernel, by decide +kernel⟩
  have HE3 : Hid ((crs twoR (2, 1, 1, 0, 0, 0)).getD (0, 0) = (2, 3) ∧ (crs twoR (2, 1, 1, 0, 0, 0)).isSome = true) := ⟨by decide +kernel, by decide +kernel⟩
  have HE4 : Hid ((fnd twoR (2, 1, 1, 0, 0, 0)).getD (0, 0) = (0, 0) ∧ (fnd twoR (2, 1, 1, 0, 0, 0)).isSome = false) := ⟨by decide +kernel, by decide +kernel⟩
  have HE5 : Hid (stL twoR (1, 2, 1, 0, 5, 1) = [(1, 2, 1, 0, 5, 1), (3, 2, 1, 0, 1, 2)] ∧ stE twoR (1, 2, 1, 0, 5, 1) = 0) := ⟨by decide +kernel, by decide +kernel⟩
  have HE6 : Hid (stL twoR (1, 1, 1, 0, 5, 1) = [] ∧ stE twoR (1, 1, 1, 0, 5, 1) = 23) := ⟨by decide +kernel, by decide +kernel⟩
  have HE7 : Hid (stL twoR (1, 2, 1, 4, 5, 1) = twoR ++ [(1, 2, 1, 4, 5, 1)] ∧ stE twoR (1, 2, 1, 4, 5, 1) = 0) := ⟨by decide +kernel, by decide +kernel⟩
  have HE8 : Hid (knw (twoR ++ [(1, 2, 1, 4, 5, 1)]) (1, 2, 1, 0, 0, 0) = [0, 4]) := knw_is
  have HTL : Hid (twoR.length = 2) := rfl
  go_enter Try.func6, Try.ntmps6
  go_wp2_with fail
  refine (two21 _).mono ?_; rintro e w1 ⟨a1, rfl, ca1, hR1, hb1⟩
  have HB1 : Hid (Below w.heap.size w w1) := Below.trans (Below.refl w.heap.size w) (hb1.mono (Below.size (Below.refl w.heap.size w)))
  have HR1 := Lib.hid hR1; have HC1 := Lib.hid ca1
  clear ca1 hR1
  clear hb1
  go_wp2_with fail
  refine (check21 a1 2 2 twoR 2 0 _ HR1.out HTL.out (by omega) HE1.out.1 HE1.out.2).mono ?_; rintro e w2 ⟨rfl, hb2⟩
  have HB2 : Hid (Below w.heap.size w w2) := Below.trans HB1.out (hb2.mono (Below.size HB1.out))
  clear hb2
  go_wp2_with fail
  refine (two21 _).mono ?_; rintro e w3 ⟨a3, rfl, ca3, hR3, hb3⟩
  have HB3 : Hid (Below w.heap.size w w3) := Below.trans HB2.out (hb3.mono (Below.size HB2.out))
  have HR3 := Lib.hid hR3; have HC3 := Lib.hid ca3
  clear ca3 hR3
  clear hb3
  go_wp2_with fail
  refine (cross21 a3 2 2 twoR 1 3 1 0 0 0 3 1 true _ HR3.out HTL.out (by omega) HE2.out.1 HE2.out.2).mono ?_; rintro e w4 ⟨rfl, hb4⟩
  have HB4 : Hid (Below w.heap.size w w4) := Below.trans HB3.out (hb4.mono (Below.size HB3.out))
  clear hb4
  have H3 : Hid (At2 (World.alloc w4 (.cells #[.int .i64 3, .int .i64 1] 24)) w4.heap.size (.int .i64 3) (.int .i64 1)) := At2.new _ _ _ _
  skip
  go_wp2_with fail
  refine (two21 _).mono ?_; rintro e w5 ⟨a5, rfl, ca5, hR5, hb5⟩
  have HB5 : Hid (Below w.heap.size w w5) := Below.trans (Below.alloc HB4.out (Below.size HB4.out) (.cells #[.int .i64 3, .int .i64 1] 24)) (hb5.mono (Below.size (Below.alloc HB4.out (Below.size HB4.out) (.cells #[.int .i64 3, .int .i64 1] 24))))
  have H3 := Lib.hid (H3.out.below hb5)
  have HR5 := Lib.hid hR5; have HC5 := Lib.hid ca5
  clear ca5 hR5
  clear hb5
  go_wp2_with fail
  refine (cross21 a5 2 2 twoR 2 1 1 0 0 0 2 3 true _ HR5.out HTL.out (by omega) HE3.out.1 HE3.out.2).mono ?_; rintro e w6 ⟨rfl, hb6⟩
  have HB6 : Hid (Below w.heap.size w w6) := Below.trans HB5.out (hb6.mono (Below.size HB5.out))
  have H3 := Lib.hid (H3.out.below hb6)
  clear hb6
  have H5 : Hid (At2 (World.alloc w6 (.cells #[.int .i64 2, .int .i64 3] 24)) w6.heap.size (.int .i64 2) (.int .i64 3)) := At2.new _ _ _ _
  have H3 := Lib.hid (H3.out.below (below1 w6 (.cells #[.int .i64 2, .int .i64 3] 24)))
  skip
  go_wp2_with fail
  refine (two21 _).mono ?_; rintro e w7 ⟨a7, rfl, ca7, hR7, hb7⟩
  have HB7 : Hid (Below w.heap.size w w7) := Below.trans (Below.alloc HB6.out (Below.size HB6.out) (.cells #[.int .i64 2, .int .i64 3] 24)) (hb7.mono (Below.size (Below.alloc HB6.out (Below.size HB6.out) (.cells #[.int .i64 2, .int .i64 3] 24))))
  have H3 := Lib.hid (H3.out.below hb7)
  have H5 := Lib.hid (H5.out.below hb7)
  have HR7 := Lib.hid hR7; have HC7 := Lib.hid ca7
  clear ca7 hR7
  clear hb7
  go_wp2_with fail
  refine (find21 a7 2 2 twoR 2 1 1 0 0 0 0 0 false _ HR7.out HTL.out (by omega) HE4.out.1 HE4.out.2).mono ?_; rintro e w8 ⟨rfl, hb8⟩
  have HB8 : Hid (Below w.heap.size w w8) := Below.trans HB7.out (hb8.mono (Below.size HB7.out))
  have H3 := Lib.hid (H3.out.below hb8)
  have H5 := Lib.hid (H5.out.below hb8)
  clear hb8
  have H7 : Hid (At2 (World.alloc w8 (.cells #[.int .i64 0, .int .i64 0] 24)) w8.heap.size (.int .i64 0) (.int .i64 0)) := At2.new _ _ _ _
  have H3 := Lib.hid (H3.out.below (below1 w8 (.cells #[.int .i64 0, .int .i64 0] 24)))
  have H5 := Lib.hid (H5.out.below (below1 w8 (.cells #[.int .i64 0, .int .i64 0] 24)))
  skip
  go_wp2_with fail
  refine (two21 _).mono ?_; rintro e w9 ⟨a9, rfl, ca9, hR9, hb9⟩
  have HB9 : Hid (Below w.heap.size w w9) := Below.trans (Below.alloc HB8.out (Below.size HB8.out) (.cells #[.int .i64 0, .int .i64 0] 24)) (hb9.mono (Below.size (Below.alloc HB8.out (Below.size HB8.out) (.cells #[.int .i64 0, .int .i64 0] 24))))
  have H3 := Lib.hid (H3.out.below hb9)
  have H5 := Lib.hid (H5.out.below hb9)
  have H7 := Lib.hid (H7.out.below hb9)
  have HR9 := Lib.hid hR9; have HC9 := Lib.hid ca9
  clear ca9 hR9
  clear hb9
  go_wp2_with fail
  refine (set21 a9 2 2 2 twoR _ 1 2 1 0 5 1 0 _ HR9.out HTL.out (by omega) (by omega) HC9.out ⟨by decide, by decide, by decide, by decide, by decide, by decide⟩ HE5.out.1 rfl HE5.out.2).mono ?_; rintro e w10 ⟨ma, mc, rfl, hmc, hM, hb10⟩
  have HB10 : Hid (Below w.heap.size w w10) := Below.trans HB9.out (hb10.mono (Below.size HB9.out))
  have H3 := Lib.hid (H3.out.below hb10)
  have H5 := Lib.hid (H5.out.below hb10)
  have H7 := Lib.hid (H7.out.below hb10)
  have HM := Lib.hid hM
  clear hM
  clear hb10
  go_wp2_with fail
  refine (two21 _).mono ?_; rintro e w11 ⟨a11, rfl, ca11, hR11, hb11⟩
  have HB11 : Hid (Below w.heap.size w w11) := Below.trans HB10.out (hb11.mono (Below.size HB10.out))
  have H3 := Lib.hid (H3.out.below hb11)
  have H5 := Lib.hid (H5.out.below hb11)
  have H7 := Lib.hid (H7.out.below hb11)
  have HM := Lib.hid (HM.out.below hb11)
  have HR11 := Lib.hid hR11; have HC11 := Lib.hid ca11
  clear ca11 hR11
  clear hb11
  go_wp2_with fail
  refine (set21 a11 2 2 0 twoR _ 1 1 1 0 5 1 23 _ HR11.out HTL.out (by omega) (by omega) HC11.out ⟨by decide, by decide, by decide, by decide, by decide, by decide⟩ HE6.out.1 rfl HE6.out.2).mono ?_; rintro e w12 ⟨xa, xc, rfl, hxc, hX, hb12⟩
  have HB12 : Hid (Below w.heap.size w w12) := Below.trans HB11.out (hb12.mono (Below.size HB11.out))
  have H3 := Lib.hid (H3.out.below hb12)
  have H5 := Lib.hid (H5.out.below hb12)
  have H7 := Lib.hid (H7.out.below hb12)
  have HM := Lib.hid (HM.out.below hb12)
  clear hX hxc
  clear hb12
  go_wp2_with fail
  refine (two21 _).mono ?_; rintro e w13 ⟨a13, rfl, ca13, hR13, hb13⟩
  have HB13 : Hid (Below w.heap.size w w13) := Below.trans HB12.out (hb13.mono (Below.size HB12.out))
  have H3 := Lib.hid (H3.out.below hb13)
  have H5 := Lib.hid (H5.out.below hb13)
  have H7 := Lib.hid (H7.out.below hb13)
  have HM := Lib.hid (HM.out.below hb13)
  have HR13 := Lib.hid hR13; have HC13 := Lib.hid ca13
  clear ca13 hR13
  clear hb13
  go_wp2_with fail
  refine (set21 a13 2 2 3 twoR _ 1 2 1 4 5 1 0 _ HR13.out HTL.out (by omega) (by omega) HC13.out ⟨by decide, by decide, by decide, by decide, by decide, by decide⟩ HE7.out.1 rfl HE7.out.2).mono ?_; rintro e w14 ⟨na, nc, rfl, hnc, hN, hb14⟩
  have HB14 : Hid (Below w.heap.size w w14) := Below.trans HB13.out (hb14.mono (Below.size HB13.out))
  have H3 := Lib.hid (H3.out.below hb14)
  have H5 := Lib.hid (H5.out.below hb14)
  have H7 := Lib.hid (H7.out.below hb14)
  have HM := Lib.hid (HM.out.below hb14)
  have HN := Lib.hid hN
  obtain ⟨x0, x1, -⟩ := H3.out
  obtain ⟨y0, y1, -⟩ := H5.out
  obtain ⟨mb, mo, rfl, -, -, -, -, m4, -⟩ := HM.out.2 0 (by decide)
  have m4 : World.cell? w14 ⟨mb, mo + 4, none⟩ = some (.int .i64 5) := m4
  clear hN
  clear hb14
  go_wp2_with fail
  refine (known21 na nc 3 2 _ [0, 4] 1 2 1 0 0 0 _ HN.out rfl (by omega) HE8.out rfl).mono ?_; rintro e wk ⟨fa, fc, rfl, hF, hbk⟩
  have HBK := Lib.hid (HB14.out.trans (hbk.mono HB14.out.size))
  have hb2 := below1 wk (.cells #[.int .i64 0, .int .i64 4] 3)
  have hR17 : Reads (wk.alloc (.cells #[.int .i64 0, .int .i64 4] 3)) (some ⟨wk.heap.size, 0, none⟩) [0, 4] := litI wk [0, 4] (by decide)
  have HR17 := Lib.hid (And.intro (hF.below hb2) hR17)
  have HB17 : Hid (Below w.heap.size w (wk.alloc (.cells #[.int .i64 0, .int .i64 4] 3))) := HBK.out.trans (hb2.mono HBK.out.size)
  clear hF hbk hb2 hR17 x0 x1 y0 y1 m4
  go_wp2_with fail
  refine (same01 fa _ fc 2 2 2 [0, 4] [0, 4] _ HR17.out.1 HR17.out.2 rfl rfl rfl (by omega)).mono ?_; rintro e wl ⟨rfl, hbl⟩
  have HBL : Hid (Below w.heap.size w wl) := HB17.out.trans (hbl.mono HB17.out.size)
  clear hbl
  go_wp2_with fail
  go_ret
  exact ⟨rfl, HBL.out⟩
end Go.Proofs.Ytogckefmmjbapaa
