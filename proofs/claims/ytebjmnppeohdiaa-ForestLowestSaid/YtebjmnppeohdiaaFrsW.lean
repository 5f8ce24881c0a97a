/-
  Layer 19's awake, and contracts at written numbers as its walk asks them. No conditions.
-/
import Derived.Test.YtebjmnppeohdiaaR19c
import Derived.Test.YtebjmnppeohdiaaRfH
import Derived.Deep.QuietTactic
import Derived.BigQuiet
import Derived.WalkSmall
import Derived.Deep.DeepCutAuto
import Derived.Deep.RegionHeld3
namespace Go.Proofs.Ytebjmnppeohdiaa
open Go.RowKit
set_option linter.unusedSimpArgs false
set_option linter.unusedVariables false

def fourL : List K4 := [(2, 1, 8000, 0), (3, 1, 10000, 0), (4, 2, 5000, 0)]
theorem lits19 (w : World) (L : List K4) (hL : ∀ s ∈ L, ok4 s) (hl : L.length ≤ 1000) : RdQ (w.alloc (.cells (row4 L).toArray 75)) (some ⟨w.heap.size, 0, none⟩) L :=
  rdq_of (c := L.length) (ownsRow_slc (World.ownsRow_lit (base := w.heap.size) (e := 75) (size := 4) w (row4 L).toArray L.length (Nat.le_refl _) (by unfold maxLen; omega) (by simpa using row4_len L))) hL
theorem fourL_ok : ∀ s ∈ fourL, ok4 s := by
  intro s hs
  simp [fourL] at hs
  rcases hs with rfl | rfl | rfl <;> exact ⟨by decide, by decide, by decide, by decide⟩
set_option maxRecDepth 100000 in
theorem four_c (w : World) : Calls Try.prog 29 #[] w fun e w' => ∃ a, e = .returned (.slice a 3 3) ∧ (a = none → 3 = 0) ∧ RdQ w' a fourL ∧ Below w.heap.size w w' := by
  have hR : Hid (RdQ (w.alloc (.cells #[.int .i64 2, .int .i64 1, .int .i64 8000, .int .i64 0, .int .i64 3, .int .i64 1, .int .i64 10000, .int .i64 0, .int .i64 4, .int .i64 2, .int .i64 5000, .int .i64 0] 75)) (some ⟨w.heap.size, 0, none⟩) fourL) := lits19 w fourL fourL_ok (by decide)
  have HB := Lib.hid (below1 w (.cells #[.int .i64 2, .int .i64 1, .int .i64 8000, .int .i64 0, .int .i64 3, .int .i64 1, .int .i64 10000, .int .i64 0, .int .i64 4, .int .i64 2, .int .i64 5000, .int .i64 0] 75))
  go_enter Try.func29, Try.ntmps29
  go_wp2_with fail
  go_ret
  exact ⟨_, rfl, fun q => (by cases q), hR.out, HB.out⟩
theorem at19 (a : Option Addr) (c m : Nat) (L : List K4) (n p : Int) (w : World) (hL : RdQ w a L) (hm : L.length = m) (hl : m ≤ 1000000) (he : atE L n p = 0) :
    Calls Try.prog 8 #[.slice a m c, .int .i64 n, .int .i64 p] w fun e w' => ∃ B, e = .returned (.tuple #[ptr B, .int .i64 0]) ∧ FrB w' B n (pr L n p) (sr L n p) ∧ w.heap.size ≤ B ∧ Below w.heap.size w w' := by
  subst hm
  obtain ⟨h1, h2, h3⟩ := atE_zero he
  exact fat_c a c L n p w hL hl h1 h2 h3
theorem atno19 (a : Option Addr) (c m : Nat) (L : List K4) (n p x : Int) (w : World) (hL : RdQ w a L) (hm : L.length = m) (hl : m ≤ 1000000) (he : atE L n p = x) (hx : x ≠ 0) :
    Calls Try.prog 8 #[.slice a m c, .int .i64 n, .int .i64 p] w fun e w' => e = .returned (.tuple #[.pointer none, .int .i64 x]) ∧ Below w.heap.size w w' := by
  subst hm; subst he
  exact fat_no a c L n p w hL hl hx
theorem at_len {L : List K4} {n p : Int} (he : atE L n p = 0) : L.length ≤ 400 := by
  have h := (atE_zero he).2.2
  unfold chE at h
  split at h
  · omega
  · omega
theorem held19 {w : World} {B : Nat} {n : Int} {f s : Int → Int} (h : FrB w B n f s) (hf : FOk n f) (hs : ∀ x, 0 ≤ s x ∧ s x ≤ 10000) (t x a b c : Int) (e : hdv n f s t x = (a, b, c)) :
    Calls Try.prog 24 #[ptr B, .int .i64 t, .int .i64 x] w fun e w' => e = .returned (.tuple #[.agg #[.int .i64 a, .int .i64 b], .int .i64 c]) ∧ Below w.heap.size w w' := by
  have := held_c h hf hs t x
  rwa [e] at this
theorem meet19 {w : World} {B : Nat} {n : Int} {f s : Int → Int} (h : FrB w B n f s) (hf : FOk n f) (a b m : Int) (e : mt n f a b = m) :
    Calls Try.prog 26 #[ptr B, .int .i64 a, .int .i64 b] w fun e w' => e = .returned (.int .i64 m) ∧ Below w.heap.size w w' := by
  subst e; exact meet_c h hf a b
theorem parent19 {w : World} {B : Nat} {n : Int} {f s : Int → Int} (h : FrB w B n f s) (x z : Int) (e : f x = z) :
    Calls Try.prog 10 #[ptr B, .int .i64 x] w fun e w' => e = .returned (.int .i64 z) ∧ Below w.heap.size w w' := by
  subst e; exact parent_c h x
theorem share19 {w : World} {B : Nat} {n : Int} {f s : Int → Int} (h : FrB w B n f s) (x z : Int) (e : s x = z) :
    Calls Try.prog 12 #[ptr B, .int .i64 x] w fun e w' => e = .returned (.int .i64 z) ∧ Below w.heap.size w w' := by
  subst e; exact share_c h x
theorem same19 (a a' : Option Addr) (c c' n m : Nat) (L M : List Int) (w : World) (hL : Reads w a L) (hM : Reads w a' M) (hn : L.length = n) (hm : M.length = m) (h : L = M) (hl : n ≤ 1000000) :
    Calls Try.prog 14 #[.slice a n c, .slice a' m c'] w fun e w' => e = .returned (.bool true) ∧ Below w.heap.size w w' := by
  subst hn; subst hm
  have := same_any a a' c c' L M w hL hM (by omega)
  rwa [decide_eq_true h] at this
theorem lit19 (w : World) (L : List Int) (hL : ∀ z ∈ L, InR z) : Reads (w.alloc (.cells (L.map (Value.int .i64)).toArray 3)) (some ⟨w.heap.size, 0, none⟩) L :=
  ⟨hL, fun i hi => ⟨w.heap.size, 0, rfl, by rw [getD_lt _ _ hi]; simp [hi]⟩⟩
theorem eq_ratio19 (a b c d : Int) (w : World) : (Op.equalIn 10000 43 (.agg #[.int .i64 a, .int .i64 b]) (.agg #[.int .i64 c, .int .i64 d])).run Try.prog w = .ok (a == c && b == d) w := by
  simp [go_sem]
  by_cases h1 : a = c <;> by_cases h2 : b = d <;> simp [h1, h2]
theorem aw19_0 : atE fourL 5 0 = 0 := by decide +kernel
theorem aw19_1 : atE fourL 3 0 = 20 := by decide +kernel
theorem aw19_2 : atE fourL 4 24 = 22 := by decide +kernel
theorem aw19_3 : hdv 5 (pr fourL 5 0) (sr fourL 5 0) 1 4 = (2, 5, 0) := by decide +kernel
theorem aw19_4 : hdv 5 (pr fourL 5 0) (sr fourL 5 0) 3 4 = (0, 0, 20) := by decide +kernel
theorem aw19_5 : pr fourL 5 0 4 = 2 := by decide +kernel
theorem aw19_6 : sr fourL 5 0 2 = 8000 := by decide +kernel
theorem aw19_7 : chl 5 (pr fourL 5 0) 1 = [2, 3] := by decide +kernel
theorem aw19_8 : up 5 (pr fourL 5 0) ((pr fourL 5 0) 4) = [2, 1] := by decide +kernel
theorem aw19_9 : und 5 (pr fourL 5 0) 2 = [2, 4] := by decide +kernel
theorem aw19_10 : rts 5 (pr fourL 5 0) = [1, 5] := by decide +kernel
theorem aw19_11 : mt 5 (pr fourL 5 0) 4 3 = 1 := by decide +kernel
theorem aw19_12 : mt 5 (pr fourL 5 0) 4 5 = 0 := by decide +kernel

set_option maxHeartbeats 8000000 in
set_option maxRecDepth 100000 in
theorem awake19 (w : World) : Calls Try.prog 7 #[] w fun e w' => e = .returned (.bool true) ∧ Below w.heap.size w w' := by
  have heq := eq_ratio19
  have HFO : Hid (FOk 5 (pr fourL 5 0)) := pr_ok 0 (by decide) (atE_zero aw19_0).2.2
  have HSO : Hid (∀ x, 0 ≤ sr fourL 5 0 x ∧ sr fourL 5 0 x ≤ 10000) := sr_ok 0 (by decide) (atE_zero aw19_0).2.2
  go_enter Try.func7, Try.ntmps7
  go_wp2_with fail
  refine (four_c _).mono ?_; rintro e w1 ⟨a1, rfl, ca1, hR1, hb1⟩
  have HB1 := Lib.hid hb1
  have HR1 := Lib.hid hR1
  clear ca1 hb1 hR1
  go_wp2_with fail
  refine (at19 a1 3 3 fourL 5 0 _ HR1.out rfl (by omega) aw19_0).mono ?_; rintro e w2 ⟨B, rfl, hFB, -, hb2⟩
  have HB2 : Hid (Below w.heap.size w w2) := HB1.out.trans (hb2.mono HB1.out.size)
  have HFB := Lib.hid hFB
  have HK2 := Lib.hid (Below.refl w2.heap.size w2)
  clear hFB hb2 HB1 HR1
  go_wp2_with fail
  refine (held19 (HFB.out.below HK2.out) HFO.out HSO.out 1 4 2 5 0 aw19_3).mono ?_; rintro e w3 ⟨rfl, hb3⟩
  have HK3 : Hid (Below w2.heap.size w2 w3) := HK2.out.trans (hb3.mono HK2.out.size)
  clear hb3
  have HQ3 := Lib.hid (Ow2.new w3 (.int .i64 2) (.int .i64 5) 43)
  have HX3 : Hid (Below w2.heap.size w2 (w3.alloc (.cells #[.int .i64 2, .int .i64 5] 43))) := HK3.out.trans ((below1 w3 _).mono HK3.out.size)
  clear HK3
  have HK3 := HX3
  clear HX3
  go_wp2_with fail
  generalize w3.alloc (.cells #[.int .i64 2, .int .i64 5] 43) = v3 at *
  generalize w3.heap.size = z3 at *
  refine (held19 (HFB.out.below HK3.out) HFO.out HSO.out 3 4 0 0 20 aw19_4).mono ?_; rintro e w4 ⟨rfl, hb4⟩
  have HQ3' := Lib.hid (HQ3.out.below hb4)
  have HK4 : Hid (Below w2.heap.size w2 w4) := HK3.out.trans (hb4.mono HK3.out.size)
  clear hb4 HQ3
  have HQ3 := HQ3'
  clear HQ3'
  have hb4a := below1 w4 (.cells #[.int .i64 0, .int .i64 0] 43)
  have HQ3' := Lib.hid (HQ3.out.below hb4a)
  have HK4' : Hid (Below w2.heap.size w2 (w4.alloc (.cells #[.int .i64 0, .int .i64 0] 43))) := HK4.out.trans (hb4a.mono HK4.out.size)
  clear HK4 HQ3 hb4a
  have HK4 := HK4'
  have HQ3 := HQ3'
  clear HK4' HQ3'
  go_wp2_with fail
  generalize w4.alloc (.cells #[.int .i64 0, .int .i64 0] 43) = v4 at *
  refine (four_c _).mono ?_; rintro e w5 ⟨a5, rfl, ca5, hR5, hb5⟩
  have HK5 : Hid (Below w2.heap.size w2 w5) := HK4.out.trans (hb5.mono HK4.out.size)
  have HQQ := Lib.hid (HQ3.out.below hb5)
  clear HQ3
  have HQ3 := HQQ
  clear HQQ
  have HR5 := Lib.hid hR5
  clear ca5 hR5
  clear hb5
  go_wp2_with fail
  refine (atno19 a5 3 3 fourL 3 0 20 _ HR5.out rfl (by omega) aw19_1 (by decide)).mono ?_; rintro e w6 ⟨rfl, hb6⟩
  have HK6 : Hid (Below w2.heap.size w2 w6) := HK5.out.trans (hb6.mono HK5.out.size)
  have HQQ := Lib.hid (HQ3.out.below hb6)
  clear HQ3
  have HQ3 := HQQ
  clear HQQ
  clear hb6
  go_wp2_with fail
  refine (four_c _).mono ?_; rintro e w7 ⟨a7, rfl, ca7, hR7, hb7⟩
  have HK7 : Hid (Below w2.heap.size w2 w7) := HK6.out.trans (hb7.mono HK6.out.size)
  have HQQ := Lib.hid (HQ3.out.below hb7)
  clear HQ3
  have HQ3 := HQQ
  clear HQQ
  have HR7 := Lib.hid hR7
  clear ca7 hR7
  clear hb7
  go_wp2_with fail
  refine (atno19 a7 3 3 fourL 4 24 22 _ HR7.out rfl (by omega) aw19_2 (by decide)).mono ?_; rintro e w8 ⟨rfl, hb8⟩
  have HK8 : Hid (Below w2.heap.size w2 w8) := HK7.out.trans (hb8.mono HK7.out.size)
  have HQQ := Lib.hid (HQ3.out.below hb8)
  clear HQ3
  have HQ3 := HQQ
  clear HQQ
  clear hb8
  go_wp2_with fail
  refine (parent19 (HFB.out.below HK8.out) 4 2 aw19_5).mono ?_; rintro e w9 ⟨rfl, hb9⟩
  have HK9 : Hid (Below w2.heap.size w2 w9) := HK8.out.trans (hb9.mono HK8.out.size)
  have HQQ := Lib.hid (HQ3.out.below hb9)
  clear HQ3
  have HQ3 := HQQ
  clear HQQ
  clear hb9
  go_wp2_with fail
  refine (share19 (HFB.out.below HK9.out) 2 8000 aw19_6).mono ?_; rintro e w10 ⟨rfl, hb10⟩
  have HK10 : Hid (Below w2.heap.size w2 w10) := HK9.out.trans (hb10.mono HK9.out.size)
  have HQQ := Lib.hid (HQ3.out.below hb10)
  clear HQ3
  have HQ3 := HQQ
  clear HQQ
  clear hb10
  go_wp2_with fail
  refine (children_c (HFB.out.below HK10.out) 1).mono ?_; rintro e w11 ⟨u11, rfl, ho11, hb11⟩
  have HK11 : Hid (Below w2.heap.size w2 w11) := HK10.out.trans (hb11.mono HK10.out.size)
  have HQQ := Lib.hid (HQ3.out.below hb11)
  clear HQ3
  have HQ3 := HQQ
  clear HQQ
  clear hb11
  rw [aw19_7] at ho11
  obtain ⟨ra11, rc11, rfl, -, hr11⟩ := ho11.reads (show ∀ z ∈ ([2, 3] : List Int), InR z by decide)
  have hb11b := below1 w11 (.cells #[.int .i64 2, .int .i64 3] 3)
  have HR11 := Lib.hid (And.intro (hr11.below hb11b) (lit19 w11 [2, 3] (by decide)))
  have HK11' : Hid (Below w2.heap.size w2 (w11.alloc (.cells #[.int .i64 2, .int .i64 3] 3))) := HK11.out.trans (hb11b.mono HK11.out.size)
  have HQ3' := Lib.hid (HQ3.out.below hb11b)
  clear HK11 HQ3 hb11b ho11 hr11
  have HK11 := HK11'
  have HQ3 := HQ3'
  clear HK11' HQ3'
  go_wp2_with fail
  refine (same19 ra11 _ rc11 2 2 2 [2, 3] [2, 3] _ HR11.out.1 HR11.out.2 rfl rfl rfl (by omega)).mono ?_; rintro e w12 ⟨rfl, hb12⟩
  have HK12 : Hid (Below w2.heap.size w2 w12) := HK11.out.trans (hb12.mono HK11.out.size)
  have HQQ := Lib.hid (HQ3.out.below hb12)
  clear HQ3
  have HQ3 := HQQ
  clear HQQ
  clear hb12
  go_wp2_with fail
  refine (up_c (HFB.out.below HK12.out) HFO.out 4).mono ?_; rintro e w13 ⟨u13, rfl, ho13, hb13⟩
  have HK13 : Hid (Below w2.heap.size w2 w13) := HK12.out.trans (hb13.mono HK12.out.size)
  have HQQ := Lib.hid (HQ3.out.below hb13)
  clear HQ3
  have HQ3 := HQQ
  clear HQQ
  clear hb13
  rw [aw19_8] at ho13
  obtain ⟨ra13, rc13, rfl, -, hr13⟩ := ho13.reads (show ∀ z ∈ ([2, 1] : List Int), InR z by decide)
  have hb13b := below1 w13 (.cells #[.int .i64 2, .int .i64 1] 3)
  have HR13 := Lib.hid (And.intro (hr13.below hb13b) (lit19 w13 [2, 1] (by decide)))
  have HK13' : Hid (Below w2.heap.size w2 (w13.alloc (.cells #[.int .i64 2, .int .i64 1] 3))) := HK13.out.trans (hb13b.mono HK13.out.size)
  have HQ3' := Lib.hid (HQ3.out.below hb13b)
  clear HK13 HQ3 hb13b ho13 hr13
  have HK13 := HK13'
  have HQ3 := HQ3'
  clear HK13' HQ3'
  go_wp2_with fail
  refine (same19 ra13 _ rc13 2 2 2 [2, 1] [2, 1] _ HR13.out.1 HR13.out.2 rfl rfl rfl (by omega)).mono ?_; rintro e w14 ⟨rfl, hb14⟩
  have HK14 : Hid (Below w2.heap.size w2 w14) := HK13.out.trans (hb14.mono HK13.out.size)
  have HQQ := Lib.hid (HQ3.out.below hb14)
  clear HQ3
  have HQ3 := HQQ
  clear HQQ
  clear hb14
  go_wp2_with fail
  refine (unders_c (HFB.out.below HK14.out) HFO.out 2).mono ?_; rintro e w15 ⟨u15, rfl, ho15, hb15⟩
  have HK15 : Hid (Below w2.heap.size w2 w15) := HK14.out.trans (hb15.mono HK14.out.size)
  have HQQ := Lib.hid (HQ3.out.below hb15)
  clear HQ3
  have HQ3 := HQQ
  clear HQQ
  clear hb15
  rw [aw19_9] at ho15
  obtain ⟨ra15, rc15, rfl, -, hr15⟩ := ho15.reads (show ∀ z ∈ ([2, 4] : List Int), InR z by decide)
  have hb15b := below1 w15 (.cells #[.int .i64 2, .int .i64 4] 3)
  have HR15 := Lib.hid (And.intro (hr15.below hb15b) (lit19 w15 [2, 4] (by decide)))
  have HK15' : Hid (Below w2.heap.size w2 (w15.alloc (.cells #[.int .i64 2, .int .i64 4] 3))) := HK15.out.trans (hb15b.mono HK15.out.size)
  have HQ3' := Lib.hid (HQ3.out.below hb15b)
  clear HK15 HQ3 hb15b ho15 hr15
  have HK15 := HK15'
  have HQ3 := HQ3'
  clear HK15' HQ3'
  go_wp2_with fail
  refine (same19 ra15 _ rc15 2 2 2 [2, 4] [2, 4] _ HR15.out.1 HR15.out.2 rfl rfl rfl (by omega)).mono ?_; rintro e w16 ⟨rfl, hb16⟩
  have HK16 : Hid (Below w2.heap.size w2 w16) := HK15.out.trans (hb16.mono HK15.out.size)
  have HQQ := Lib.hid (HQ3.out.below hb16)
  clear HQ3
  have HQ3 := HQQ
  clear HQQ
  clear hb16
  go_wp2_with fail
  refine (roots_c (HFB.out.below HK16.out)).mono ?_; rintro e w17 ⟨u17, rfl, ho17, hb17⟩
  have HK17 : Hid (Below w2.heap.size w2 w17) := HK16.out.trans (hb17.mono HK16.out.size)
  have HQQ := Lib.hid (HQ3.out.below hb17)
  clear HQ3
  have HQ3 := HQQ
  clear HQQ
  clear hb17
  rw [aw19_10] at ho17
  obtain ⟨ra17, rc17, rfl, -, hr17⟩ := ho17.reads (show ∀ z ∈ ([1, 5] : List Int), InR z by decide)
  have hb17b := below1 w17 (.cells #[.int .i64 1, .int .i64 5] 3)
  have HR17 := Lib.hid (And.intro (hr17.below hb17b) (lit19 w17 [1, 5] (by decide)))
  have HK17' : Hid (Below w2.heap.size w2 (w17.alloc (.cells #[.int .i64 1, .int .i64 5] 3))) := HK17.out.trans (hb17b.mono HK17.out.size)
  have HQ3' := Lib.hid (HQ3.out.below hb17b)
  clear HK17 HQ3 hb17b ho17 hr17
  have HK17 := HK17'
  have HQ3 := HQ3'
  clear HK17' HQ3'
  go_wp2_with fail
  refine (same19 ra17 _ rc17 2 2 2 [1, 5] [1, 5] _ HR17.out.1 HR17.out.2 rfl rfl rfl (by omega)).mono ?_; rintro e w18 ⟨rfl, hb18⟩
  have HK18 : Hid (Below w2.heap.size w2 w18) := HK17.out.trans (hb18.mono HK17.out.size)
  have HQQ := Lib.hid (HQ3.out.below hb18)
  clear HQ3
  have HQ3 := HQQ
  clear HQQ
  clear hb18
  go_wp2_with fail
  refine (meet19 (HFB.out.below HK18.out) HFO.out 4 3 1 aw19_11).mono ?_; rintro e w19 ⟨rfl, hb19⟩
  have HK19 : Hid (Below w2.heap.size w2 w19) := HK18.out.trans (hb19.mono HK18.out.size)
  have HQQ := Lib.hid (HQ3.out.below hb19)
  clear HQ3
  have HQ3 := HQQ
  clear HQQ
  clear hb19
  go_wp2_with fail
  refine (meet19 (HFB.out.below HK19.out) HFO.out 4 5 0 aw19_12).mono ?_; rintro e w20 ⟨rfl, hb20⟩
  have HK20 : Hid (Below w2.heap.size w2 w20) := HK19.out.trans (hb20.mono HK19.out.size)
  have HQQ := Lib.hid (HQ3.out.below hb20)
  clear HQ3
  have HQ3 := HQQ
  clear HQQ
  obtain ⟨⟨q0, q1, q2⟩, -⟩ := HQ3.out
  clear hb20
  go_wp2_with fail
  refine (parent_nil 1 _).mono ?_; rintro e w21 ⟨rfl, hb21⟩
  have HK21 : Hid (Below w2.heap.size w2 w21) := HK20.out.trans (hb21.mono HK20.out.size)
  have HQQ := Lib.hid (HQ3.out.below hb21)
  clear HQ3
  have HQ3 := HQQ
  clear HQQ
  clear q0 q1 q2
  clear hb21
  go_wp2_with fail
  go_ret
  exact ⟨rfl, HB2.out.trans (HK21.out.mono HB2.out.size)⟩
end Go.Proofs.Ytebjmnppeohdiaa
