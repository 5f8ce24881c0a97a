/-
  Layer 18's awake, and contracts at written numbers as its walk asks them. No conditions.
-/
import Derived.Test.YtjanbaecgldjkaaStkJ
import Derived.Test.YtjanbaecgldjkaaStkL
import Derived.Test.YtjanbaecgldjkaaStkN
import Derived.Test.YtjanbaecgldjkaaStkQ
import Derived.Test.YtjanbaecgldjkaaRefHs
namespace Go.Proofs.Ytjanbaecgldjkaa
open Go.RowKit
set_option linter.unusedSimpArgs false
set_option linter.unusedVariables false

def twoL : List K4 := [(2, 1, 8000, 0), (2, 0, 10000, 3)]
theorem lits (w : World) (L : List K4) (hL : ∀ s ∈ L, ok4 s) (hl : L.length ≤ 1000) : RdQ (w.alloc (.cells (row4 L).toArray 24)) (some ⟨w.heap.size, 0, none⟩) L :=
  rdq_of (c := L.length) (ownsRow_slc (World.ownsRow_lit (base := w.heap.size) (e := 24) (size := 4) w (row4 L).toArray L.length (Nat.le_refl _) (by unfold maxLen; omega) (by simpa using row4_len L))) hL
theorem twoL_ok : ∀ s ∈ twoL, ok4 s := by
  intro s hs
  simp [twoL] at hs
  rcases hs with rfl | rfl <;> exact ⟨by decide, by decide, by decide, by decide⟩
set_option maxRecDepth 100000 in
theorem two_c (w : World) : Calls Try.prog 21 #[] w fun e w' => ∃ a, e = .returned (.slice a 2 2) ∧ (a = none → 2 = 0) ∧ RdQ w' a twoL ∧ Below w.heap.size w w' := by
  have hR : Hid (RdQ (w.alloc (.cells #[.int .i64 2, .int .i64 1, .int .i64 8000, .int .i64 0, .int .i64 2, .int .i64 0, .int .i64 10000, .int .i64 3] 24)) (some ⟨w.heap.size, 0, none⟩) twoL) := lits w twoL twoL_ok (by decide)
  have HB := Lib.hid (below1 w (.cells #[.int .i64 2, .int .i64 1, .int .i64 8000, .int .i64 0, .int .i64 2, .int .i64 0, .int .i64 10000, .int .i64 3] 24))
  go_enter Try.func21, Try.ntmps21
  go_wp2_with fail
  go_ret
  exact ⟨_, rfl, fun q => (by cases q), hR.out, HB.out⟩
theorem check18 (a : Option Addr) (c n : Nat) (L : List K4) (m v e : Int) (w : World) (hL : RdQ w a L) (hn : L.length = n) (hl : n ≤ 1000000) (hv : chV L m = v) (he : chE L m = e) :
    Calls Try.prog 12 #[.slice a n c, .int .i64 m] w fun en w' => en = .returned (.tuple #[.int .i64 v, .int .i64 e]) ∧ Below w.heap.size w w' := by
  subst hn; subst hv; subst he
  exact check_s a c L m w hL hl
theorem at18 (a : Option Addr) (c n : Nat) (L : List K4) (x p u s : Int) (w : World) (hL : RdQ w a L) (hn : L.length = n) (hl : n ≤ 1000000) (hu : upv L x p = u) (hs : shv L x p = s) :
    Calls Try.prog 14 #[.slice a n c, .int .i64 x, .int .i64 p] w fun en w' => en = .returned (.tuple #[.int .i64 u, .int .i64 s]) ∧ Below w.heap.size w w' := by
  subst hn; subst hu; subst hs
  exact at_s a c L x p w hL hl
theorem add18 (a : Option Addr) (c n : Nat) (L M : List K4) (s1 s2 s3 s4 m e : Int) (w : World) (hL : RdQ w a L) (hn : L.length = n) (hl : n ≤ 1000000) (hc : n ≤ c) (ca : a = none → c = 0) (hs : ok4 (s1, s2, s3, s4)) (hv : adL L (s1, s2, s3, s4) m = M) (he : adE L (s1, s2, s3, s4) m = e) :
    Calls Try.prog 9 #[.slice a n c, .agg #[.int .i64 s1, .int .i64 s2, .int .i64 s3, .int .i64 s4], .int .i64 m] w fun en w' => ∃ u, en = .returned (.tuple #[u, .int .i64 e]) ∧ OwnS w' w.heap.size u M ∧ Below w.heap.size w w' := by
  subst hn; subst hv; subst he
  exact add_s a c L (s1, s2, s3, s4) m w hL hl hc ca hs
theorem spans18 (a : Option Addr) (c n : Nat) (L R : List K4) (x : Int) (w : World) (hL : RdQ w a L) (hn : L.length = n) (hl : n ≤ 1000000) (hr : spn L x 24 = R) :
    Calls Try.prog 19 #[.slice a n c, .int .i64 x] w fun en w' => ∃ v, en = .returned v ∧ w'.ownsRow w.heap.size 49 4 v R.length (row4 R) ∧ Below w.heap.size w w' := by
  subst hn; subst hr
  exact spans_s a c L x w hL hl
theorem froms18 (a : Option Addr) (c n : Nat) (L : List K4) (F : List Int) (x : Int) (w : World) (hL : RdQ w a L) (hn : L.length = n) (hl : n ≤ 1000000) (hf : frm L x = F) :
    Calls Try.prog 17 #[.slice a n c, .int .i64 x] w fun en w' => ∃ v, en = .returned v ∧ Sl w' v F ∧ Below w.heap.size w w' := by
  subst hn; subst hf
  exact froms_s a c L x w hL hl
theorem same18 (a a' : Option Addr) (c c' n m : Nat) (L M : List Int) (w : World) (hL : Reads w a L) (hM : Reads w a' M) (hn : L.length = n) (hm : M.length = m) (h : L = M) (hl : n ≤ 1000000) :
    Calls Try.prog 16 #[.slice a n c, .slice a' m c'] w fun e w' => e = .returned (.bool true) ∧ Below w.heap.size w w' := by
  subst hn; subst hm
  have := same_any a a' c c' L M w hL hM (by omega)
  rwa [decide_eq_true h] at this
theorem lit18 (w : World) (L : List Int) (hL : ∀ z ∈ L, InR z) : Reads (w.alloc (.cells (L.map (Value.int .i64)).toArray 3)) (some ⟨w.heap.size, 0, none⟩) L :=
  ⟨hL, fun i hi => ⟨w.heap.size, 0, rfl, by rw [getD_lt _ _ hi]; simp [hi]⟩⟩
theorem eq_span (a b c d a' b' c' d' : Int) (w : World) : (Op.equalIn 10000 49 (.agg #[.int .i64 a, .int .i64 b, .int .i64 c, .int .i64 d]) (.agg #[.int .i64 a', .int .i64 b', .int .i64 c', .int .i64 d'])).run Try.prog w = .ok (a == a' && (b == b' && (c == c' && d == d'))) w := by
  simp [go_sem]
  by_cases h1 : a = a' <;> by_cases h2 : b = b' <;> by_cases h3 : c = c' <;> by_cases h4 : d = d' <;> simp [h1, h2, h3, h4]

set_option maxHeartbeats 4000000 in
set_option maxRecDepth 100000 in
theorem awake18 (w : World) : Calls Try.prog 8 #[] w fun e w' => e = .returned (.bool true) ∧ Below w.heap.size w w' := by
  have HE1 : Hid (chV twoL 2 = 2 ∧ chE twoL 2 = 0) := ⟨by decide +kernel, by decide +kernel⟩
  have HE2 : Hid (upv twoL 2 2 = 1 ∧ shv twoL 2 2 = 8000 ∧ upv twoL 2 3 = 0 ∧ shv twoL 2 3 = 10000) := ⟨by decide +kernel, by decide +kernel, by decide +kernel, by decide +kernel⟩
  have HE3 : Hid (adL twoL (1, 2, 1, 2) 2 = [] ∧ adE twoL (1, 2, 1, 2) 2 = 26) := ⟨by decide +kernel, by decide +kernel⟩
  have HE4 : Hid (adL twoL (1, 2, 1, 3) 2 = twoL ++ [(1, 2, 1, 3)] ∧ adE twoL (1, 2, 1, 3) 2 = 0) := ⟨by decide +kernel, by decide +kernel⟩
  have HE5 : Hid (chV [(1, 1, 1, 0)] 1 = 0 ∧ chE [(1, 1, 1, 0)] 1 = 26) := ⟨by decide +kernel, by decide +kernel⟩
  have HE6 : Hid (spn twoL 2 24 = [(0, 2, 1, 8000), (3, 23, 0, 10000)]) := by show _ = _; decide +kernel
  have HE7 : Hid (frm twoL 2 = [0, 3]) := by show _ = _; decide +kernel
  have HTL : Hid (twoL.length = 2) := rfl
  have heq := eq_span
  go_enter Try.func8, Try.ntmps8
  go_wp2_with fail
  refine (two_c _).mono ?_; rintro e w1 ⟨a1, rfl, ca1, hR1, hb1⟩
  have HB1 := Lib.hid hb1
  have HR1 := Lib.hid hR1
  clear ca1 hb1 hR1
  go_wp2_with fail
  refine (check18 a1 2 2 twoL 2 2 0 _ HR1.out HTL.out (by omega) HE1.out.1 HE1.out.2).mono ?_; rintro e w2 ⟨rfl, hb2⟩
  have HB2 : Hid (Below w.heap.size w w2) := HB1.out.trans (hb2.mono HB1.out.size)
  clear hb2
  go_wp2_with fail
  refine (two_c _).mono ?_; rintro e w3 ⟨a3, rfl, ca3, hR3, hb3⟩
  have HB3 : Hid (Below w.heap.size w w3) := HB2.out.trans (hb3.mono HB2.out.size)
  have HR3 := Lib.hid hR3
  clear ca3 hb3 hR3
  go_wp2_with fail
  refine (at18 a3 2 2 twoL 2 2 1 8000 _ HR3.out HTL.out (by omega) HE2.out.1 HE2.out.2.1).mono ?_; rintro e w4 ⟨rfl, hb4⟩
  have HB4 : Hid (Below w.heap.size w w4) := HB3.out.trans (hb4.mono HB3.out.size)
  clear hb4
  go_wp2_with fail
  refine (two_c _).mono ?_; rintro e w5 ⟨a5, rfl, ca5, hR5, hb5⟩
  have HB5 : Hid (Below w.heap.size w w5) := HB4.out.trans (hb5.mono HB4.out.size)
  have HR5 := Lib.hid hR5
  clear ca5 hb5 hR5
  go_wp2_with fail
  refine (at18 a5 2 2 twoL 2 3 0 10000 _ HR5.out HTL.out (by omega) HE2.out.2.2.1 HE2.out.2.2.2).mono ?_; rintro e w6 ⟨rfl, hb6⟩
  have HB6 : Hid (Below w.heap.size w w6) := HB5.out.trans (hb6.mono HB5.out.size)
  clear hb6
  go_wp2_with fail
  refine (two_c _).mono ?_; rintro e w7 ⟨a7, rfl, ca7, hR7, hb7⟩
  have HB7 : Hid (Below w.heap.size w w7) := HB6.out.trans (hb7.mono HB6.out.size)
  have HR7 := Lib.hid hR7
  have HC7 := Lib.hid ca7
  clear ca7 hb7 hR7
  go_wp2_with fail
  refine (add18 a7 2 2 twoL [] 1 2 1 2 2 26 _ HR7.out HTL.out (by omega) (by omega) HC7.out ⟨by decide, by decide, by decide, by decide⟩ HE3.out.1 HE3.out.2).mono ?_; rintro e w8 ⟨v8, rfl, ho8, hb8⟩
  have HB8 : Hid (Below w.heap.size w w8) := HB7.out.trans (hb8.mono HB7.out.size)
  obtain ⟨a8, c8, hv8⟩ := (ownsRow_slc ho8).form
  have hv8 : v8 = .slice a8 0 c8 := hv8
  subst hv8
  clear ho8 hb8
  go_wp2_with fail
  refine (two_c _).mono ?_; rintro e w9 ⟨a9, rfl, ca9, hR9, hb9⟩
  have HB9 : Hid (Below w.heap.size w w9) := HB8.out.trans (hb9.mono HB8.out.size)
  have HR9 := Lib.hid hR9
  have HC9 := Lib.hid ca9
  clear ca9 hb9 hR9
  go_wp2_with fail
  refine (add18 a9 2 2 twoL _ 1 2 1 3 2 0 _ HR9.out HTL.out (by omega) (by omega) HC9.out ⟨by decide, by decide, by decide, by decide⟩ HE4.out.1 HE4.out.2).mono ?_; rintro e w10 ⟨v10, rfl, ho10, hb10⟩
  have HB10 : Hid (Below w.heap.size w w10) := HB9.out.trans (hb10.mono HB9.out.size)
  obtain ⟨a10, c10, hv10⟩ := (ownsRow_slc ho10).form
  have hv10 : v10 = .slice a10 3 c10 := hv10
  subst hv10
  clear ho10 hb10
  have hR11 : RdQ (w10.alloc (.cells #[.int .i64 1, .int .i64 1, .int .i64 1, .int .i64 0] 24)) (some ⟨w10.heap.size, 0, none⟩) [(1, 1, 1, 0)] := lits w10 [(1, 1, 1, 0)] (fun s hs => by rw [List.mem_singleton.1 hs]; exact ⟨by decide, by decide, by decide, by decide⟩) (by decide)
  have HR11 := Lib.hid hR11
  have HB11 : Hid (Below w.heap.size w (w10.alloc (.cells #[.int .i64 1, .int .i64 1, .int .i64 1, .int .i64 0] 24))) := HB10.out.trans ((below1 w10 _).mono HB10.out.size)
  clear hR11
  go_wp2_with fail
  refine (check18 _ 1 1 [(1, 1, 1, 0)] 1 0 26 _ HR11.out rfl (by omega) HE5.out.1 HE5.out.2).mono ?_; rintro e w12 ⟨rfl, hb12⟩
  have HB12 : Hid (Below w.heap.size w w12) := HB11.out.trans (hb12.mono HB11.out.size)
  clear hb12 HB11 HR11
  go_wp2_with fail
  refine (two_c _).mono ?_; rintro e w13 ⟨a13, rfl, ca13, hR13, hb13⟩
  have HB13 : Hid (Below w.heap.size w w13) := HB12.out.trans (hb13.mono HB12.out.size)
  have HR13 := Lib.hid hR13
  clear ca13 hb13 hR13
  go_wp2_with fail
  refine (spans18 a13 2 2 twoL _ 2 _ HR13.out HTL.out (by omega) HE6.out).mono ?_; rintro e w14 ⟨v14, rfl, ho14, hb14⟩
  have HB14 : Hid (Below w.heap.size w w14) := HB13.out.trans (hb14.mono HB13.out.size)
  obtain ⟨g, cap, hv14⟩ : ∃ g cap, v14 = .slice (some ⟨g, 0, none⟩) 2 cap := by
    rcases ho14.2 with ⟨_, e⟩ | ⟨g, cap, cur, e, _⟩
    · cases e
    · exact ⟨g, cap, e⟩
  subst hv14
  have y0 : w14.cell? ⟨g, 0, none⟩ = some (.int .i64 0) := World.ownsRow.cellAt ho14 0 (by decide)
  have y1 : w14.cell? ⟨g, 1, none⟩ = some (.int .i64 2) := World.ownsRow.cellAt ho14 1 (by decide)
  have y2 : w14.cell? ⟨g, 2, none⟩ = some (.int .i64 1) := World.ownsRow.cellAt ho14 2 (by decide)
  have y3 : w14.cell? ⟨g, 3, none⟩ = some (.int .i64 8000) := World.ownsRow.cellAt ho14 3 (by decide)
  have y4 : w14.cell? ⟨g, 4, none⟩ = some (.int .i64 3) := World.ownsRow.cellAt ho14 4 (by decide)
  have y5 : w14.cell? ⟨g, 5, none⟩ = some (.int .i64 23) := World.ownsRow.cellAt ho14 5 (by decide)
  have y6 : w14.cell? ⟨g, 6, none⟩ = some (.int .i64 0) := World.ownsRow.cellAt ho14 6 (by decide)
  have y7 : w14.cell? ⟨g, 7, none⟩ = some (.int .i64 10000) := World.ownsRow.cellAt ho14 7 (by decide)
  clear ho14 hb14
  go_wp2_with fail
  refine (two_c _).mono ?_; rintro e w15 ⟨a15, rfl, ca15, hR15, hb15⟩
  have HB15 : Hid (Below w.heap.size w w15) := HB14.out.trans (hb15.mono HB14.out.size)
  have HR15 := Lib.hid hR15
  clear ca15 hb15 hR15 y0 y1 y2 y3 y4 y5 y6 y7
  go_wp2_with fail
  refine (froms18 a15 2 2 twoL [0, 3] 2 _ HR15.out HTL.out (by omega) HE7.out).mono ?_; rintro e w16 ⟨v16, rfl, hs16, hb16⟩
  have HB16 : Hid (Below w.heap.size w w16) := HB15.out.trans (hb16.mono HB15.out.size)
  obtain ⟨a16, c16, hv16, _, _, hr16⟩ := hs16
  have hv16 : v16 = .slice a16 2 c16 := hv16
  subst hv16
  clear hb16
  have hR17 : Reads (w16.alloc (.cells #[.int .i64 0, .int .i64 3] 3)) (some ⟨w16.heap.size, 0, none⟩) [0, 3] := lit18 w16 [0, 3] (by decide)
  have hb17 := below1 w16 (.cells #[.int .i64 0, .int .i64 3] 3)
  have HR17 := Lib.hid (And.intro (hr16.below hb17) hR17)
  have HB17 : Hid (Below w.heap.size w (w16.alloc (.cells #[.int .i64 0, .int .i64 3] 3))) := HB16.out.trans (hb17.mono HB16.out.size)
  clear hR17 hb17 hr16
  go_wp2_with fail
  refine (same18 a16 _ c16 2 2 2 [0, 3] [0, 3] _ HR17.out.1 HR17.out.2 rfl rfl rfl (by omega)).mono ?_; rintro e w18 ⟨rfl, hb18⟩
  have HB18 : Hid (Below w.heap.size w w18) := HB17.out.trans (hb18.mono HB17.out.size)
  clear hb18
  go_wp2_with fail
  go_ret
  exact ⟨rfl, HB18.out⟩
end Go.Proofs.Ytjanbaecgldjkaa
