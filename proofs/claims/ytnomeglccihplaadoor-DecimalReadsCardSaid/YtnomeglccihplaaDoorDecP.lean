/-
  DecimalPrints and DecimalReads of layer 6 answer true, for whatever amount, decimals and text, out of the contracts of decimal's own calls. The conditions: the contracts.
-/
import Derived.Test.YtnomeglccihplaaDoorDecC
import Derived.Test.YtnomeglccihplaaDoorRefDb
import Derived.Test.YtnomeglccihplaaDoorRefDb2
import Derived.Test.YtnomeglccihplaaDoorRefDc
namespace Go.Proofs.YtnomeglccihplaaDoor
open Go.RowKit
set_option linter.unusedSimpArgs false
set_option linter.unusedVariables false

set_option maxHeartbeats 2000000 in
set_option maxRecDepth 100000 in
theorem prints6_all (hP : PrintC) (hQ : ParseC) (hR : RescaleC) (x s t : Int) (hx : InR x) (w : World) (L : Laid w) :
    Calls Tryd.prog 3 #[.int .i64 x, .agg #[.int .i64 s, .int .i64 t]] w fun e w' => e = .returned (.bool true) ∧ Below w.heap.size w w' := by
  have haw := d_awake hP hQ hR
  have LL := L.all
  have h1 := fun w L => hP x s w hx L
  have h2 := fun w => r6print_any x s hx w
  have h3 := fun w => hR x s t w hx
  have h4 := fun w => r6rescale_any x s t hx w
  generalize printv x s = p at *; generalize dc s = c at *
  generalize rsv x s t = r at *; generalize rse x s t = re at *
  clear hP hQ hR hx
  have K := (Keeps.start w).new (.int .i64 s) (.int .i64 t) 22
  obtain ⟨z0, z1, z2⟩ := K.at0
  go_enter Tryd.func3, Tryd.ntmps3
  go_wp2_with fail
  refine (h1 _ (LL _ K.1)).mono ?_; rintro e w1 ⟨rfl, hb1⟩
  replace K := K.below hb1; clear hb1 z0 z1 z2
  obtain ⟨z0, z1, z2⟩ := K.at0
  go_wp2_with fail
  refine (h2 _).mono ?_; rintro e w2 ⟨rfl, hb2⟩
  replace K := K.below hb2; clear hb2 z0 z1 z2
  obtain ⟨z0, z1, z2⟩ := K.at0
  go_wp2_with fail
  refine (h3 _).mono ?_; rintro e w3 ⟨rfl, hb3⟩
  replace K := K.below hb3; clear hb3 z0 z1 z2
  obtain ⟨z0, z1, z2⟩ := K.at0
  go_wp2_with fail
  refine (h4 _).mono ?_; rintro e w4 ⟨rfl, hb4⟩
  replace K := K.below hb4; clear hb4 z0 z1 z2
  go_wp2_with fail
  refine (haw _ (LL _ K.1)).mono ?_; rintro e w5 ⟨rfl, hb5⟩
  replace K := K.below hb5
  go_wp2_with fail
  go_ret
  exact ⟨rfl, K.1⟩

set_option maxHeartbeats 2000000 in
set_option maxRecDepth 100000 in
theorem reads6_all (hP : PrintC) (hQ : ParseC) (hR : RescaleC) (l : List UInt8) (d : Int) (hl : (l.length : Int) ≤ 9223372036854775807) (w : World) (L : Laid w) :
    Calls Tryd.prog 4 #[.string (bs l), .int .i64 d] w fun e w' => e = .returned (.bool true) ∧ Below w.heap.size w w' := by
  have haw := d_awake hP hQ hR
  have LL := L.all
  have hsz := bs_size l
  have K := Keeps.start w
  by_cases h : 100 < l.length
  · have h' : 100 < (bs l).size := by omega
    clear hP hQ hR
    go_enter Tryd.func4, Tryd.ntmps4
    go_wp2_with fail
    refine (haw _ (LL _ K.1)).mono ?_; rintro e w1 ⟨rfl, hb1⟩
    go_wp2_with fail
    go_ret
    exact ⟨rfl, hb1⟩
  · have h' : ¬ 100 < (bs l).size := by omega
    have h1 := fun w L => hQ l d w (by omega) L
    have h2 := fun w => r6parse_any l d (by omega) w
    generalize parsev l d = p at *; generalize parsee l d = c at *
    generalize bs l = b at *
    clear hP hQ hR h
    go_enter Tryd.func4, Tryd.ntmps4
    go_wp2_with fail
    refine (h1 _ (LL _ K.1)).mono ?_; rintro e w1 ⟨rfl, hb1⟩
    replace K := K.below hb1; clear hb1
    go_wp2_with fail
    refine (h2 _).mono ?_; rintro e w2 ⟨rfl, hb2⟩
    replace K := K.below hb2; clear hb2
    go_wp2_with fail
    refine (haw _ (LL _ K.1)).mono ?_; rintro e w3 ⟨rfl, hb3⟩
    replace K := K.below hb3
    go_wp2_with fail
    go_ret
    exact ⟨rfl, K.1⟩

theorem reads6_str (hP : PrintC) (hQ : ParseC) (hR : RescaleC) (s : ByteArray) (d : Int) (hs : s.size ≤ maxLen) (w : World) (L : Laid w) :
    Calls Tryd.prog 4 #[.string s, .int .i64 d] w fun e w' => e = .returned (.bool true) ∧ Below w.heap.size w w' := by
  have h := reads6_all hP hQ hR s.data.toList d (by rw [data_len]; unfold maxLen at hs; omega) w L
  rwa [bs_data] at h
end Go.Proofs.YtnomeglccihplaaDoor
