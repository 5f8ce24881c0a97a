/-
  ScanTells and ScanLines of layer 7 answer true, for whatever texts, places and bounds, out of the contracts of scan's own calls. The conditions: the contracts.
-/
import Derived.Test.YtmmjkbjceocpmaaDoorScnC
import Derived.Test.YtmmjkbjceocpmaaDoorRefLa
import Derived.Test.YtmmjkbjceocpmaaDoorRefLb
import Derived.Test.YtmmjkbjceocpmaaDoorRefLc
namespace Go.Proofs.YtmmjkbjceocpmaaDoor
open Go.RowKit
set_option linter.unusedSimpArgs false
set_option linter.unusedVariables false

set_option maxHeartbeats 4000000 in
set_option maxRecDepth 100000 in
theorem tells7_all (hL : LitC) (hN : NumC) (hI : LineC) (hD : DigitsC) (l t : List UInt8) (a b c : Int) (hl : (l.length : Int) ≤ 9223372036854775807) (ht : (t.length : Int) ≤ 9223372036854775807) (w : World) (L : Laid w) :
    Calls Tryd.prog 3 #[.string (bs l), .agg #[.int .i64 a, .int .i64 b, .int .i64 c], .string (bs t)] w fun e w' => e = .returned (.bool true) ∧ Below w.heap.size w w' := by
  have haw := n_awake hL hN hI hD
  have LL := L.all
  have hsl := bs_size l; have hst := bs_size t
  have hb0 := below1 w (.cells #[.int .i64 a, .int .i64 b, .int .i64 c] 22)
  have A0 := At3.new w (.int .i64 a) (.int .i64 b) (.int .i64 c) 22
  by_cases h : l.length ≤ 500 ∧ t.length ≤ 100
  · have h1 : ¬ 500 < (bs l).size := by omega
    have h2 : ¬ 100 < (bs t).size := by omega
    have c1 := fun w L => hL l a t w (by omega) (by omega) L
    have c2 := fun w => r7lit_any l a t (by omega) (by omega) w
    have c3 := fun w L => hN l a b c w (by omega) L
    have c4 := fun w => r7num_any l a b c (by omega) w
    generalize litv l a t = r at *; generalize lite l a t = re at *
    generalize numv l a b c = n at *; generalize numk l a b c = k at *; generalize nume l a b c = ne at *
    generalize bs l = sl at *; generalize bs t = st at *
    clear hL hN hI hD h hsl hst hl ht
    have HB := Lib.hid hb0; clear hb0
    go_enter Tryd.func3, Tryd.ntmps3
    obtain ⟨x0, x1, x2, x3⟩ := A0
    have A0 := Lib.hid (At3.new w (.int .i64 a) (.int .i64 b) (.int .i64 c) 22)
    go_wp2_with fail
    refine (c1 _ (LL _ HB.out)).mono ?_; rintro e w1 ⟨rfl, hb1⟩
    replace A0 := Lib.hid (A0.out.below hb1); replace HB := Lib.hid (HB.out.trans (hb1.mono HB.out.size)); clear hb1 x0 x1 x2 x3
    obtain ⟨x0, x1, x2, x3⟩ := A0.out
    go_wp2_with fail
    refine (c2 _).mono ?_; rintro e w2 ⟨rfl, hb2⟩
    replace A0 := Lib.hid (A0.out.below hb2); replace HB := Lib.hid (HB.out.trans (hb2.mono HB.out.size)); clear hb2 x0 x1 x2 x3
    obtain ⟨x0, x1, x2, x3⟩ := A0.out
    go_wp2_with fail
    refine (c3 _ (LL _ HB.out)).mono ?_; rintro e w3 ⟨rfl, hb3⟩
    replace A0 := Lib.hid (A0.out.below hb3); replace HB := Lib.hid (HB.out.trans (hb3.mono HB.out.size)); clear hb3 x0 x1 x2 x3
    obtain ⟨x0, x1, x2, x3⟩ := A0.out
    go_wp2_with fail
    refine (c4 _).mono ?_; rintro e w4 ⟨rfl, hb4⟩
    replace HB := Lib.hid (HB.out.trans (hb4.mono HB.out.size)); clear hb4 x0 x1 x2 x3
    go_wp2_with fail
    refine (haw _ (LL _ HB.out)).mono ?_; rintro e w5 ⟨rfl, hb5⟩
    replace HB := Lib.hid (HB.out.trans (hb5.mono HB.out.size))
    go_wp2_with fail
    go_ret
    exact ⟨rfl, HB.out⟩
  · have hq : (500 < (bs l).size) ∨ (¬ 500 < (bs l).size ∧ 100 < (bs t).size) := by omega
    clear hL hN hI hD h A0 hsl hst hl ht
    rcases hq with h1 | ⟨h1, h2⟩
    all_goals go_enter Tryd.func3, Tryd.ntmps3
    all_goals go_wp2_with fail
    all_goals (refine (haw _ (LL _ hb0)).mono ?_; rintro e w1 ⟨rfl, hb1⟩)
    all_goals go_wp2_with fail
    all_goals go_ret
    all_goals exact ⟨rfl, hb0.trans (hb1.mono hb0.size)⟩

set_option maxHeartbeats 4000000 in
set_option maxRecDepth 100000 in
theorem lines7_all (hL : LitC) (hN : NumC) (hI : LineC) (hD : DigitsC) (l : List UInt8) (a : Int) (hl : (l.length : Int) ≤ 9223372036854775807) (ha : InR a) (w : World) (L : Laid w) :
    Calls Tryd.prog 4 #[.string (bs l), .int .i64 a] w fun e w' => e = .returned (.bool true) ∧ Below w.heap.size w w' := by
  have haw := n_awake hL hN hI hD
  have LL := L.all
  have hsl := bs_size l
  by_cases h : l.length ≤ 500
  · have h1 : ¬ 500 < (bs l).size := by omega
    have c1 := fun w L => hI l a w (by omega) L
    have c2 := fun w => r7line_any l a (by omega) w
    have c3 := fun w L => hD a w ha L
    have c4 := fun w => r7digits_any a ha w
    generalize bs (lineb l a) = r at *; generalize linen l a = n at *; generalize linee l a = re at *
    generalize bs (dtext a 0) = d at *
    generalize bs l = sl at *
    clear hL hN hI hD h hsl hl ha
    have K := Keeps.start w
    go_enter Tryd.func4, Tryd.ntmps4
    go_wp2_with fail
    refine (c1 _ (LL _ K.1)).mono ?_; rintro e w1 ⟨rfl, hb1⟩
    replace K := K.below hb1; clear hb1
    go_wp2_with fail
    refine (c2 _).mono ?_; rintro e w2 ⟨rfl, hb2⟩
    replace K := K.below hb2; clear hb2
    go_wp2_with fail
    refine (c3 _ (LL _ K.1)).mono ?_; rintro e w3 ⟨rfl, hb3⟩
    replace K := K.below hb3; clear hb3
    go_wp2_with fail
    refine (c4 _).mono ?_; rintro e w4 ⟨rfl, hb4⟩
    replace K := K.below hb4; clear hb4
    go_wp2_with fail
    refine (haw _ (LL _ K.1)).mono ?_; rintro e w5 ⟨rfl, hb5⟩
    replace K := K.below hb5
    go_wp2_with fail
    go_ret
    exact ⟨rfl, K.1⟩
  · have h1 : 500 < (bs l).size := by omega
    clear hL hN hI hD h hsl hl ha
    go_enter Tryd.func4, Tryd.ntmps4
    go_wp2_with fail
    refine (haw _ L).mono ?_; rintro e w1 ⟨rfl, hb1⟩
    go_wp2_with fail
    go_ret
    exact ⟨rfl, hb1⟩

theorem tells7_str (hL : LitC) (hN : NumC) (hI : LineC) (hD : DigitsC) (s t : ByteArray) (a b c : Int) (hs : s.size ≤ maxLen) (ht : t.size ≤ maxLen) (w : World) (L : Laid w) :
    Calls Tryd.prog 3 #[.string s, .agg #[.int .i64 a, .int .i64 b, .int .i64 c], .string t] w fun e w' => e = .returned (.bool true) ∧ Below w.heap.size w w' := by
  have h := tells7_all hL hN hI hD s.data.toList t.data.toList a b c (by rw [data_len]; unfold maxLen at hs; omega) (by rw [data_len]; unfold maxLen at ht; omega) w L
  rwa [bs_data, bs_data] at h
theorem lines7_str (hL : LitC) (hN : NumC) (hI : LineC) (hD : DigitsC) (s : ByteArray) (a : Int) (hs : s.size ≤ maxLen) (ha : InR a) (w : World) (L : Laid w) :
    Calls Tryd.prog 4 #[.string s, .int .i64 a] w fun e w' => e = .returned (.bool true) ∧ Below w.heap.size w w' := by
  have h := lines7_all hL hN hI hD s.data.toList a (by rw [data_len]; unfold maxLen at hs; omega) ha w L
  rwa [bs_data] at h
end Go.Proofs.YtmmjkbjceocpmaaDoor
