/-
  DecimalBack of layer 6 answers true, for whatever amount, text and decimals, out of the contracts of decimal's own calls. The conditions: the contracts.
-/
import Derived.Test.YtnomeglccihplaaDoorDecC
namespace Go.Proofs.YtnomeglccihplaaDoor
open Go.RowKit
set_option linter.unusedSimpArgs false
set_option linter.unusedVariables false

theorem dtext_len {x : Int} (hx : InR x) {d : Int} (hd : OkD d) : (dtext x d.toNat).length ≤ 1000000 := by
  have h1 : (digs x.natAbs).length ≤ 19 := digs_len _ _ (by unfold InR at hx; show _ < 10000000000000000000; omega)
  have h2 : (padd (digs x.natAbs) d.toNat).length ≤ 30 := by
    unfold OkD at hd
    unfold padd; rw [List.length_append, List.length_replicate]; omega
  have h3 := dtxt_len (padd (digs x.natAbs) d.toNat) d.toNat (padd (digs x.natAbs) d.toNat).length
  unfold dtext
  simp only
  split
  · rw [List.length_cons]; omega
  · omega

set_option maxHeartbeats 4000000 in
set_option maxRecDepth 100000 in
theorem back6_ok (haw : ∀ w, Laid w → Calls Tryd.prog 11 #[] w fun e w' => e = .returned (.bool true) ∧ Below w.heap.size w w') (x d p pe : Int) (t s : ByteArray)
    (hd : 0 ≤ d) (hd6 : d ≤ 6) (hs : ¬ 100 < s.size) (hpe : (pe != 0) = true ∧ p = 0 ∨ pe = 0)
    (h1 : ∀ w, Laid w → Calls Tryd.prog 7 #[.int .i64 x, .int .i64 d] w fun e w' => e = .returned (.tuple #[.string t, .int .i64 0]) ∧ Below w.heap.size w w')
    (h2 : ∀ w, Laid w → Calls Tryd.prog 12 #[.string t, .int .i64 d] w fun e w' => e = .returned (.tuple #[.int .i64 x, .int .i64 0]) ∧ Below w.heap.size w w')
    (h3 : ∀ w, Laid w → Calls Tryd.prog 12 #[.string s, .int .i64 d] w fun e w' => e = .returned (.tuple #[.int .i64 p, .int .i64 pe]) ∧ Below w.heap.size w w')
    (h4 : pe = 0 → ∀ w, Laid w → Calls Tryd.prog 7 #[.int .i64 p, .int .i64 d] w fun e w' => e = .returned (.tuple #[.string s, .int .i64 0]) ∧ Below w.heap.size w w') (w : World) (L : Laid w) :
    Calls Tryd.prog 5 #[.int .i64 x, .string s, .int .i64 d] w fun e w' => e = .returned (.bool true) ∧ Below w.heap.size w w' := by
  have d1 : decide (d < 0) = false := decide_eq_false (by omega)
  have d2 : decide (6 < d) = false := decide_eq_false (by omega)
  have LL := L.all
  have K := Keeps.start w
  have HE := Lib.hid hpe; have H4 := Lib.hid h4
  clear hd hd6 hpe h4
  go_enter Tryd.func5, Tryd.ntmps5
  go_wp2_with fail
  refine (h1 _ (LL _ K.1)).mono ?_; rintro e w1 ⟨rfl, hb1⟩
  replace K := K.below hb1; clear hb1 h1
  go_wp2_with fail
  refine (h2 _ (LL _ K.1)).mono ?_; rintro e w2 ⟨rfl, hb2⟩
  replace K := K.below hb2; clear hb2 h2
  go_wp2_with fail
  refine (h3 _ (LL _ K.1)).mono ?_; rintro e w3 ⟨rfl, hb3⟩
  replace K := K.below hb3; clear hb3 h3
  rcases HE.out with ⟨g, rfl⟩ | rfl
  · go_wp2_with fail
    refine (haw _ (LL _ K.1)).mono ?_; rintro e w4 ⟨rfl, hb4⟩
    replace K := K.below hb4
    go_wp2_with fail
    go_ret
    exact ⟨rfl, K.1⟩
  · have h4 := H4.out rfl
    go_wp2_with fail
    refine (h4 _ (LL _ K.1)).mono ?_; rintro e w4 ⟨rfl, hb4⟩
    replace K := K.below hb4; clear hb4
    go_wp2_with fail
    refine (haw _ (LL _ K.1)).mono ?_; rintro e w5 ⟨rfl, hb5⟩
    replace K := K.below hb5
    go_wp2_with fail
    go_ret
    exact ⟨rfl, K.1⟩

set_option maxHeartbeats 2000000 in
theorem back6_all (hP : PrintC) (hQ : ParseC) (hR : RescaleC) (x d : Int) (l : List UInt8) (hx : InR x) (hl : (l.length : Int) ≤ 9223372036854775807) (w : World) (L : Laid w) :
    Calls Tryd.prog 5 #[.int .i64 x, .string (bs l), .int .i64 d] w fun e w' => e = .returned (.bool true) ∧ Below w.heap.size w w' := by
  have haw := d_awake hP hQ hR
  have hsz := bs_size l
  by_cases hd : OkD d
  · by_cases h : 100 < l.length
    · have d1 : decide (d < 0) = false := decide_eq_false (by unfold OkD at hd; omega)
      have d2 : decide (6 < d) = false := decide_eq_false (by unfold OkD at hd; omega)
      have h' : 100 < (bs l).size := by omega
      clear hP hQ hR hd
      go_enter Tryd.func5, Tryd.ntmps5
      go_wp2_with fail
      refine (haw _ L).mono ?_; rintro e w1 ⟨rfl, hb1⟩
      go_wp2_with fail
      go_ret
      exact ⟨rfl, hb1⟩
    · have h1 := fun w L => hP x d w hx L
      rw [dc_ok hd] at h1
      have e1 : printv x d = bs (dtext x d.toNat) := if_pos hd
      rw [e1] at h1
      have h2 := fun w L => hQ (dtext x d.toNat) d w (dtext_len hx hd) L
      rw [(parse_back hx hd).1, (parse_back hx hd).2] at h2
      have h3 := fun w L => hQ l d w (by omega) L
      refine back6_ok haw x d (parsev l d) (parsee l d) _ (bs l) hd.1 hd.2 (by omega) ?_ h1 h2 h3 ?_ w L
      · by_cases q : parsee l d = 0
        · exact Or.inr q
        · exact Or.inl ⟨by simpa using q, parse_no q⟩
      · intro q w L
        have hk := parse_ok q
        have h4 := hP (parsev l d) d w hk.2.1 L
        have e2 : printv (parsev l d) d = bs (dtext (parsev l d) d.toNat) := if_pos hd
        rw [dc_ok hd, e2, hk.2.2] at h4
        exact h4
  · by_cases h1 : d < 0
    · clear hP hQ hR hd
      go_enter Tryd.func5, Tryd.ntmps5
      go_wp2_with fail
      refine (haw _ L).mono ?_; rintro e w1 ⟨rfl, hb1⟩
      go_wp2_with fail
      go_ret
      exact ⟨rfl, hb1⟩
    · have h2 : 6 < d := by unfold OkD at hd; omega
      clear hP hQ hR hd
      go_enter Tryd.func5, Tryd.ntmps5
      go_wp2_with fail
      refine (haw _ L).mono ?_; rintro e w1 ⟨rfl, hb1⟩
      go_wp2_with fail
      go_ret
      exact ⟨rfl, hb1⟩

theorem back6_str (hP : PrintC) (hQ : ParseC) (hR : RescaleC) (x d : Int) (s : ByteArray) (hx : InR x) (hs : s.size ≤ maxLen) (w : World) (L : Laid w) :
    Calls Tryd.prog 5 #[.int .i64 x, .string s, .int .i64 d] w fun e w' => e = .returned (.bool true) ∧ Below w.heap.size w w' := by
  have h := back6_all hP hQ hR x d s.data.toList hx (by rw [data_len]; unfold maxLen at hs; omega) w L
  rwa [bs_data] at h
end Go.Proofs.YtnomeglccihplaaDoor
