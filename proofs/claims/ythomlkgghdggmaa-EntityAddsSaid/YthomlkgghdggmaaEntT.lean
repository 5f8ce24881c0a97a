/-
  EntityTells and EntityAdds of layer 17 return true, whatever rows and numbers they are given. No conditions.
-/
import Derived.Test.YthomlkgghdggmaaEntW
import Derived.Test.YthomlkgghdggmaaEntR
import Derived.Test.YthomlkgghdggmaaRowB
namespace Go.Proofs.Ythomlkgghdggmaa
open Go.RowKit
set_option linter.unusedSimpArgs false
set_option linter.unusedVariables false

theorem ofL_in {L M : List Int} (h : L.length ≤ 1000000) : ∀ z ∈ ofL L M, InR z := ofK_in h
theorem addL_in {L : List Int} {z : Int} (hL : ∀ y ∈ L, InR y) (hz : InR z) : ∀ y ∈ addL L z, InR y := by
  intro y hy
  unfold addL at hy
  split at hy
  · rcases List.mem_append.1 hy with q | q
    · exact hL y q
    · rw [List.mem_singleton.1 q]; exact hz
  · cases hy
theorem addL_len (L : List Int) (z : Int) : (addL L z).length ≤ L.length + 1 := by
  unfold addL; split <;> simp

set_option maxHeartbeats 4000000 in
set_option maxRecDepth 100000 in
theorem tells17 (a : Option Addr) (c : Nat) (L : List Int) (x y : Int) (a' : Option Addr) (c' : Nat) (M : List Int) (w : World) (hr : Go.RowsIn.IntS w a c L) (hr' : Go.RowsIn.IntS w a' c' M) (hx : InR x) (hy : InR y) :
    Calls Try.prog 3 #[.slice a L.length c, .agg #[.int .i64 x, .int .i64 y], .slice a' M.length c'] w fun e w' => e = .returned (.bool true) ∧ Below w.heap.size w w' := by
  have HL : Hid (Reads w a L) := reads_of hr
  have HM : Hid (Reads w a' M) := reads_of hr'
  have HC : Hid (a = none → c = 0) := hr.2.1
  clear hr hr'
  by_cases h1 : 200 < L.length
  · have d1 : decide ((200 : Int) < (L.length : Int)) = true := decide_eq_true (by omega)
    have d2 : decide (200 < L.length) = true := decide_eq_true h1
    have hb1 := below1 w (.cells #[.int .i64 x, .int .i64 y] 23)
    have HB := Lib.hid hb1; clear hb1
    go_enter Try.func3, Try.ntmps3
    go_wp2_with fail
    refine (awake17 _).mono ?_; rintro e w2 ⟨rfl, hb2⟩
    go_wp2_with fail
    go_ret
    exact ⟨rfl, HB.out.trans (hb2.mono HB.out.size)⟩
  · by_cases h2 : 50 < M.length
    · have d1 : decide ((200 : Int) < (L.length : Int)) = false := decide_eq_false (by omega)
      have d2 : decide (200 < L.length) = false := decide_eq_false h1
      have d3 : decide ((50 : Int) < (M.length : Int)) = true := decide_eq_true (by omega)
      have d4 : decide (50 < M.length) = true := decide_eq_true h2
      have hb1 := below1 w (.cells #[.int .i64 x, .int .i64 y] 23)
      have HB := Lib.hid hb1; clear hb1
      go_enter Try.func3, Try.ntmps3
      go_wp2_with fail
      refine (awake17 _).mono ?_; rintro e w2 ⟨rfl, hb2⟩
      go_wp2_with fail
      go_ret
      exact ⟨rfl, HB.out.trans (hb2.mono HB.out.size)⟩
    · have d1 : decide ((200 : Int) < (L.length : Int)) = false := decide_eq_false (by omega)
      have d2 : decide (200 < L.length) = false := decide_eq_false h1
      have d3 : decide ((50 : Int) < (M.length : Int)) = false := decide_eq_false (by omega)
      have d4 : decide (50 < M.length) = false := decide_eq_false h2
      have hb1 := below1 w (.cells #[.int .i64 x, .int .i64 y] 23)
      have hX : (w.alloc (.cells #[.int .i64 x, .int .i64 y] 23)).cell? ⟨w.heap.size, 0, none⟩ = some (.int .i64 x) := by simp
      have hY : (w.alloc (.cells #[.int .i64 x, .int .i64 y] 23)).cell? ⟨w.heap.size, 1, none⟩ = some (.int .i64 y) := by simp
      have hs : w.heap.size < (w.alloc (.cells #[.int .i64 x, .int .i64 y] 23)).heap.size := by simp
      have HB := Lib.hid hb1
      have HL1 : Hid (Reads (w.alloc (.cells #[.int .i64 x, .int .i64 y] 23)) a L) := HL.out.below hb1
      have HM1 : Hid (Reads (w.alloc (.cells #[.int .i64 x, .int .i64 y] 23)) a' M) := HM.out.below hb1
      have HIN : Hid ((∀ z ∈ addL L y, InR z) ∧ (∀ z ∈ ofL L M, InR z) ∧ (addL L y).length ≤ 1000000 ∧ (ofL L M).length ≤ 1000000) := ⟨addL_in HL.out.1 hy, ofL_in (by omega), by have := addL_len L y; omega, by have : (ofL L M).length ≤ L.length := ofK_len L M L.length; omega⟩
      clear hb1 HL HM
      go_enter Try.func3, Try.ntmps3
      go_wp2_with fail
      generalize w.alloc (.cells #[.int .i64 x, .int .i64 y] 23) = W at *
      clear d1 d2 d3 d4
      have HXY : Hid (∀ w', Below W.heap.size W w' → w'.cell? ⟨w.heap.size, 0, none⟩ = some (.int .i64 x) ∧ w'.cell? ⟨w.heap.size, 1, none⟩ = some (.int .i64 y)) := fun w' hb => ⟨(hb.cell (p := ⟨w.heap.size, 0, none⟩) hs).trans hX, (hb.cell (p := ⟨w.heap.size, 1, none⟩) hs).trans hY⟩
      clear hX hY hs
      refine (check_e a c L W HL1.out (by omega)).mono ?_; rintro e w1 ⟨rfl, hb1⟩
      have HB1 := Lib.hid hb1; clear hb1
      go_wp2_with fail
      refine (r17check a c L w1 (HL1.out.below HB1.out) (by omega)).mono ?_; rintro e w1 ⟨rfl, rfl⟩
      obtain ⟨hX, hY⟩ := HXY.out _ HB1.out
      go_wp2_with fail
      refine (cur_e a c L x _ (HL1.out.below HB1.out) (by omega) hx).mono ?_; rintro e w2 ⟨rfl, hb2⟩
      have HB2 : Hid (Below W.heap.size W w2) := HB1.out.trans (hb2.mono HB1.out.size)
      clear hb2 hX hY
      obtain ⟨hX, hY⟩ := HXY.out _ HB2.out
      go_wp2_with fail
      refine (r17cur a c L x _ (HL1.out.below HB2.out) (by omega) hx).mono ?_; rintro e w2 ⟨rfl, rfl⟩
      go_wp2_with fail
      refine (add_e a c L y (by omega) _ (HL1.out.below HB2.out) HC.out hy).mono ?_; rintro e w3 ⟨v3, rfl, ho3, hb3⟩
      have HB3 : Hid (Below W.heap.size W w3) := HB2.out.trans (hb3.mono HB2.out.size)
      clear hb3 hX hY
      obtain ⟨a3, c3, rfl, -, hR3⟩ := ho3.reads HIN.out.1
      have HR3 := Lib.hid hR3
      clear ho3 hR3
      obtain ⟨hX, hY⟩ := HXY.out _ HB3.out
      go_wp2_with fail
      refine (r17add a c L y (by omega) _ (HL1.out.below HB3.out) HC.out).mono ?_; rintro e w4 ⟨v4, rfl, ho4, hb4⟩
      have HB4 : Hid (Below W.heap.size W w4) := HB3.out.trans (hb4.mono HB3.out.size)
      have HR34 : Hid (Reads w4 a3 (addL L y)) := HR3.out.below hb4
      obtain ⟨a4, c4, rfl, -, hR4⟩ := ho4.reads HIN.out.1
      have HR4 := Lib.hid hR4
      clear ho4 hR4 hb4 hX hY HR3
      go_wp2_with fail
      refine (same17 a3 a4 c3 c4 _ _ (addL L y) (addL L y) _ HR34.out HR4.out rfl rfl rfl HIN.out.2.2.1).mono ?_; rintro e w5 ⟨rfl, hb5⟩
      have HB5 : Hid (Below W.heap.size W w5) := HB4.out.trans (hb5.mono HB4.out.size)
      clear hb5
      go_wp2_with fail
      refine (of_e a c L a' c' M (by omega) (by omega) _ (HL1.out.below HB5.out) (HM1.out.below HB5.out)).mono ?_; rintro e w6 ⟨v6, rfl, ho6, hb6⟩
      have HB6 : Hid (Below W.heap.size W w6) := HB5.out.trans (hb6.mono HB5.out.size)
      obtain ⟨a6, c6, rfl, -, hR6⟩ := ho6.reads HIN.out.2.1
      have HR6 := Lib.hid hR6
      clear ho6 hR6 hb6
      go_wp2_with fail
      refine (r17of a c L a' c' M (by omega) (by omega) _ (HL1.out.below HB6.out) (HM1.out.below HB6.out)).mono ?_; rintro e w7 ⟨v7, rfl, ho7, hb7⟩
      have HB7 : Hid (Below W.heap.size W w7) := HB6.out.trans (hb7.mono HB6.out.size)
      have HR67 : Hid (Reads w7 a6 (ofL L M)) := HR6.out.below hb7
      obtain ⟨a7, c7, rfl, -, hR7⟩ := ho7.reads HIN.out.2.1
      have HR7 := Lib.hid hR7
      clear ho7 hR7 hb7 HR6
      go_wp2_with fail
      refine (same17 a6 a7 c6 c7 _ _ (ofL L M) (ofL L M) _ HR67.out HR7.out rfl rfl rfl HIN.out.2.2.2).mono ?_; rintro e w8 ⟨rfl, hb8⟩
      have HB8 : Hid (Below W.heap.size W w8) := HB7.out.trans (hb8.mono HB7.out.size)
      clear hb8
      go_wp2_with fail
      refine (awake17 _).mono ?_; rintro e w9 ⟨rfl, hb9⟩
      have HB9 : Hid (Below W.heap.size W w9) := HB8.out.trans (hb9.mono HB8.out.size)
      clear hb9
      go_wp2_with fail
      go_ret
      exact ⟨rfl, HB.out.trans (HB9.out.mono HB.out.size)⟩

theorem badAt_append {L : List Int} {z : Int} (hz : Mon z) : badAt (L ++ [z]) = if badAt L < L.length then badAt L else L.length + 1 := by
  have hlen : (L ++ [z]).length = L.length + 1 := by simp
  have hat : ∀ j, j < L.length → (L ++ [z]).getD j 0 = L.getD j 0 := fun j hj => by
    rw [getD_lt _ _ (by omega), getD_lt _ _ hj, List.getElem_append_left]
  split
  · rename_i h
    refine badAt_is (by rw [hlen]; omega) (fun j hj => ?_) (Or.inr ?_)
    · rw [hat j (by omega)]; exact badAt_ok hj
    · rw [hat _ h]; exact badAt_no h
  · rename_i h
    have hb : badAt L = L.length := by have := badAt_le L; omega
    rw [← hlen]
    refine badAt_is (Nat.le_refl _) (fun j hj => ?_) (Or.inl rfl)
    rcases Nat.lt_or_ge j L.length with q | q
    · rw [hat j q]; exact badAt_ok (by omega)
    · rw [show j = L.length by omega, getD_lt _ _ (by omega)]; simpa using hz
/-- What may be still may be. -/
theorem chk_add {L : List Int} {z : Int} (hz : Mon z) (hl : L.length < 40) :
    (chkE L = 0 ∧ chkE (L ++ [z]) = 0 ∧ chkV L = (L.length : Int) ∧ chkV (L ++ [z]) = (L.length : Int) + 1) ∨ (chkE L = 23 ∧ chkE (L ++ [z]) = 23) := by
  have hlen : (L ++ [z]).length = L.length + 1 := by simp
  have hb := badAt_le L
  have e1 : chkE L = if badAt L < L.length then 23 else 0 := if_neg (by omega)
  have v1 : chkV L = (badAt L : Int) := if_neg (by omega)
  have e2 : chkE (L ++ [z]) = if badAt (L ++ [z]) < (L ++ [z]).length then 23 else 0 := if_neg (by omega)
  have v2 : chkV (L ++ [z]) = (badAt (L ++ [z]) : Int) := if_neg (by omega)
  rw [e1, v1, e2, v2, badAt_append hz, hlen]
  by_cases h : badAt L < L.length
  · right
    rw [if_pos h, if_pos h, if_pos (by omega)]
    exact ⟨rfl, rfl⟩
  · left
    rw [if_neg h, if_neg h, if_neg (by omega)]
    exact ⟨rfl, rfl, by omega, by omega⟩
theorem cur_add {L : List Int} {z n : Int} (hn : n ≠ (L.length : Int) + 1) : curV (L ++ [z]) n = curV L n ∧ curE (L ++ [z]) n = curE L n := by
  have hlen : (L ++ [z]).length = L.length + 1 := by simp
  unfold curV curE
  by_cases h : 1 ≤ n ∧ n ≤ (L.length : Int)
  · rw [if_pos h, if_pos h, if_pos (by rw [hlen]; omega), if_pos (by rw [hlen]; omega)]
    exact ⟨by rw [getD_lt _ _ (by rw [hlen]; omega), getD_lt _ _ (by omega), List.getElem_append_left], rfl⟩
  · rw [if_neg h, if_neg h, if_neg (by rw [hlen]; omega), if_neg (by rw [hlen]; omega)]
    exact ⟨rfl, rfl⟩
theorem cur_last {L : List Int} {z : Int} : curV (L ++ [z]) ((L.length : Int) + 1) = z ∧ curE (L ++ [z]) ((L.length : Int) + 1) = 0 := by
  have hlen : (L ++ [z]).length = L.length + 1 := by simp
  unfold curV curE
  rw [if_pos (by rw [hlen]; omega), if_pos (by rw [hlen]; omega), show ((L.length : Int) + 1 - 1).toNat = L.length by omega, getD_lt _ _ (by omega)]
  exact ⟨by simp, rfl⟩

set_option maxHeartbeats 4000000 in
set_option maxRecDepth 100000 in
theorem adds17 (a : Option Addr) (c : Nat) (L : List Int) (z n : Int) (w : World) (hr : Go.RowsIn.IntS w a c L) (hz : InR z) (hn : InR n) :
    Calls Try.prog 4 #[.slice a L.length c, .int .i64 z, .int .i64 n] w fun e w' => e = .returned (.bool true) ∧ Below w.heap.size w w' := by
  have HL : Hid (Reads w a L) := reads_of hr
  have HC : Hid (a = none → c = 0) := hr.2.1
  clear hr
  by_cases h1 : 200 < L.length
  · have d1 : decide ((200 : Int) < (L.length : Int)) = true := decide_eq_true (by omega)
    have d2 : decide (200 < L.length) = true := decide_eq_true h1
    go_enter Try.func4, Try.ntmps4
    go_wp2_with fail
    refine (awake17 _).mono ?_; rintro e w2 ⟨rfl, hb2⟩
    go_wp2_with fail
    go_ret
    exact ⟨rfl, hb2⟩
  · have d1 : decide ((200 : Int) < (L.length : Int)) = false := decide_eq_false (by omega)
    have d2 : decide (200 < L.length) = false := decide_eq_false h1
    have hln : L.length ≤ 1000000 := by omega
    have hck := check_e a c L w HL.out hln
    by_cases h : Mon z ∧ L.length < 40
    · have hm := addL_in HL.out.1 hz
      have ha : addL L z = L ++ [z] := if_pos h
      have he : addE L z = 0 := by unfold addE; rw [if_pos h.1, if_pos h.2]
      rw [ha] at hm
      have HM := Lib.hid hm
      have hlen : (L ++ [z]).length = L.length + 1 := by simp
      obtain ⟨hl1, hl2⟩ := @cur_last L z
      have HLAST := Lib.hid (And.intro hl1 hl2)
      have HADD : Hid (n ≠ (L.length : Int) + 1 → curV (L ++ [z]) n = curV L n ∧ curE (L ++ [z]) n = curE L n) := fun q => cur_add q
      have hch := chk_add h.1 h.2
      have e1 : wrap64 ((L.length : Int) + 1) = (L.length : Int) + 1 := by unfold wrap64; omega
      have hl4 := h.2
      clear hl1 hl2 hm
      obtain ⟨K, hK⟩ : ∃ K, K = L ++ [z] := ⟨_, rfl⟩
      rw [← hK] at ha HM hlen HLAST HADD hch
      have HK := Lib.hid hK
      clear hK h
      have hK1 : ((K.length : Nat) : Int) = (L.length : Int) + 1 := by omega
      obtain ⟨cvL, hcvL⟩ : ∃ x, x = chkV L := ⟨_, rfl⟩
      obtain ⟨ceL, hceL⟩ : ∃ x, x = chkE L := ⟨_, rfl⟩
      obtain ⟨cvK, hcvK⟩ : ∃ x, x = chkV K := ⟨_, rfl⟩
      obtain ⟨ceK, hceK⟩ : ∃ x, x = chkE K := ⟨_, rfl⟩
      rw [← hcvL, ← hceL] at hck hch
      rw [← hcvK, ← hceK] at hch
      have HCK := Lib.hid (And.intro hcvK hceK)
      clear hcvL hceL hcvK hceK
      have hadd := fun W (hW : Reads W a L) => add_e a c L z hln W hW HC.out hz
      rw [ha, he] at hadd
      have HADDC := Lib.hid hadd
      clear hadd ha he
      go_enter Try.func4, Try.ntmps4
      go_wp2_with fail
      refine hck.mono ?_; rintro e w1 ⟨rfl, hb1⟩
      have HB1 := Lib.hid hb1; clear hb1 hck d1 d2
      go_wp2_with fail
      refine (HADDC.out _ (HL.out.below HB1.out)).mono ?_; rintro e w2 ⟨v2, rfl, ho2, hb2⟩
      have HB2 : Hid (Below w.heap.size w w2) := HB1.out.trans (hb2.mono HB1.out.size)
      obtain ⟨a2, c2, rfl, -, hR2⟩ := ho2.reads HM.out
      have HR2 := Lib.hid hR2
      clear ho2 hb2 hR2
      have hckK := check_e a2 c2 K w2 HR2.out (by omega)
      rw [← HCK.out.1, ← HCK.out.2] at hckK
      have hcl := fun W (hW : Reads W a2 K) => cur_e a2 c2 K ((L.length : Int) + 1) W hW (by omega) (by unfold InR; omega)
      rw [HLAST.out.1, HLAST.out.2] at hcl
      have hcn := fun W (hW : Reads W a2 K) => cur_e a2 c2 K n W hW (by omega) hn
      rw [hlen] at hckK hcl hcn ⊢
      clear hK1 hlen HK HLAST HCK
      have HCL := Lib.hid hcl; have HCN := Lib.hid hcn; have HCH := Lib.hid hch
      clear hcl hcn hch
      go_wp2_with fail
      refine hckK.mono ?_; rintro e w3 ⟨rfl, hb3⟩
      have HB3 : Hid (Below w.heap.size w w3) := HB2.out.trans (hb3.mono HB2.out.size)
      have HR3 : Hid (Reads w3 a2 K) := HR2.out.below hb3
      clear hb3 hckK
      rcases HCH.out with ⟨q1, q2, q3, q4⟩ | ⟨q1, q2⟩
      all_goals
        first | subst q1; subst q2; subst q3; subst q4 | subst q1; subst q2
        clear HCH
        go_wp2_with fail
        refine (HCL.out _ HR3.out).mono ?_; rintro e w4 ⟨rfl, hb4⟩
        have HB4 : Hid (Below w.heap.size w w4) := HB3.out.trans (hb4.mono HB3.out.size)
        have HR4 : Hid (Reads w4 a2 K) := HR3.out.below hb4
        clear hb4
        go_wp2_with fail
        refine (cur_e a c L n _ (HL.out.below HB4.out) hln hn).mono ?_; rintro e w5 ⟨rfl, hb5⟩
        have HB5 : Hid (Below w.heap.size w w5) := HB4.out.trans (hb5.mono HB4.out.size)
        have HR5 : Hid (Reads w5 a2 K) := HR4.out.below hb5
        clear hb5
        go_wp2_with fail
        refine (HCN.out _ HR5.out).mono ?_; rintro e w6 ⟨rfl, hb6⟩
        have HB6 : Hid (Below w.heap.size w w6) := HB5.out.trans (hb6.mono HB5.out.size)
        clear hb6
        by_cases hq : n = (L.length : Int) + 1
        · have hq1 : (n == (L.length : Int) + 1) = true := by simpa using hq
          clear hq
          go_wp2_with fail
          refine (awake17 _).mono ?_; rintro e w7 ⟨rfl, hb7⟩
          go_wp2_with fail
          go_ret
          exact ⟨rfl, HB6.out.trans (hb7.mono HB6.out.size)⟩
        · have hq1 : (n == (L.length : Int) + 1) = false := by simpa using hq
          rw [(HADD.out hq).1, (HADD.out hq).2]
          clear hq
          go_wp2_with fail
          refine (awake17 _).mono ?_; rintro e w7 ⟨rfl, hb7⟩
          go_wp2_with fail
          go_ret
          exact ⟨rfl, HB6.out.trans (hb7.mono HB6.out.size)⟩
    · have ha : addL L z = [] := if_neg h
      have he : addE L z ≠ 0 := by
        unfold addE
        by_cases q : Mon z
        · rw [if_pos q, if_neg (fun r => h ⟨q, r⟩)]; decide
        · rw [if_neg q]; decide
      have hadd := fun W (hW : Reads W a L) => add_e a c L z hln W hW HC.out hz
      rw [ha] at hadd
      have HADDC := Lib.hid hadd
      clear hadd ha h
      obtain ⟨ae, hae⟩ : ∃ x, x = addE L z := ⟨_, rfl⟩
      rw [← hae] at he HADDC
      have he1 : (ae != 0) = true := by simpa using he
      clear hae he
      go_enter Try.func4, Try.ntmps4
      go_wp2_with fail
      refine hck.mono ?_; rintro e w1 ⟨rfl, hb1⟩
      have HB1 := Lib.hid hb1; clear hb1 hck d1 d2
      go_wp2_with fail
      refine (HADDC.out _ (HL.out.below HB1.out)).mono ?_; rintro e w2 ⟨v2, rfl, ho2, hb2⟩
      have HB2 : Hid (Below w.heap.size w w2) := HB1.out.trans (hb2.mono HB1.out.size)
      obtain ⟨a2, c2, hv2, -, -⟩ := ho2.reads (by decide)
      have hv2 : v2 = .slice a2 0 c2 := hv2
      subst hv2
      clear ho2 hb2
      go_wp2_with fail
      refine (awake17 _).mono ?_; rintro e w7 ⟨rfl, hb7⟩
      go_wp2_with fail
      go_ret
      exact ⟨rfl, HB2.out.trans (hb7.mono HB2.out.size)⟩
end Go.Proofs.Ythomlkgghdggmaa
