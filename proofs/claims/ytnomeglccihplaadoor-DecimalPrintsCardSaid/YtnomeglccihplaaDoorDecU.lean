/-
  What decimal's own parted, taken and signed answer. The condition: a text of at most 1000000 bytes; for parted, the library's variables read as they were laid.
-/
import Derived.Test.YtnomeglccihplaaDoorDecY
import Derived.Test.YtnomeglccihplaaDoorDecW
import Derived.Test.YtnomeglccihplaaDoorRefLb0
import Derived.BigQuiet
namespace Go.Proofs.YtnomeglccihplaaDoor
open Go.RowKit
set_option linter.unusedSimpArgs false
set_option linter.unusedVariables false

set_option maxHeartbeats 1000000 in
theorem d_parted (l : List UInt8) (d : Nat) (hd : d ≤ 6) (hl : l.length ≤ 1000000) (w : World) (L : Laid w) :
    Calls Tryd.prog 28 #[.string (bs l), .int .i64 (d : Int)] w fun e w' => e = .returned (.tuple #[.string (bs (wh l d)), .string (bs (fr l d)), .bool (pok l d)]) ∧ Below w.heap.size w w' := by
  by_cases h : d = 0
  · subst h
    have e1 : wh l 0 = l := rfl
    have e2 : fr l 0 = [] := rfl
    have e3 : pok l 0 = true := rfl
    rw [e1, e2, e3]
    go_enter Tryd.func28, Tryd.ntmps28
    go_wp2_with fail
    go_ret3
    exact ⟨rfl, Below.refl _ _⟩
  · have g0 : ((d : Int) == 0) = false := by simpa using h
    have hC := y_cut l hl w L
    have e1 : wh l d = l.takeWhile (fun b => b != 46) := if_neg h
    have e2 : fr l d = (l.dropWhile (fun b => b != 46)).drop 1 := if_neg h
    have e3 : pok l d = (l.contains 46 && decide ((fr l d).length = d)) := if_neg h
    rw [e2] at e3
    rw [e1, e2, e3]
    have hsz := bs_size ((l.dropWhile (fun b => b != 46)).drop 1)
    generalize l.takeWhile (fun b => b != 46) = A at *
    generalize (l.dropWhile (fun b => b != 46)).drop 1 = B at *
    generalize l.contains 46 = c at *
    clear e1 e2 e3 h
    cases c
    · go_enter Tryd.func28, Tryd.ntmps28
      go_wp2_with fail
      refine hC.mono ?_; rintro e w1 ⟨rfl, hb1⟩
      go_wp2_with fail
      go_ret3
      exact ⟨rfl, hb1⟩
    · have g1 : ((B.length : Int) == (d : Int)) = decide (B.length = d) := by
        by_cases q : B.length = d
        · subst q; simp
        · rw [decide_eq_false q]; simp; omega
      go_enter Tryd.func28, Tryd.ntmps28
      go_wp2_with fail
      refine hC.mono ?_; rintro e w1 ⟨rfl, hb1⟩
      go_wp2_with fail
      go_ret3
      exact ⟨rfl, hb1⟩

/-- A size that stays what it is once it is beyond the range. -/
def satv (v : Int) : Int := if v ≤ 9223372036854775809 then v else 18446744073709551615
theorem sat_big {v c : Int} (h0 : 0 ≤ v) (hc : 0 ≤ c ∧ c ≤ 9) (h : 922337203685477580 < satv v) : satv (v * 10 + c) = 18446744073709551615 := by
  unfold satv at *; split at h <;> (rw [if_neg (by omega)])
theorem sat_low {v c : Int} (h0 : 0 ≤ v) (hc : 0 ≤ c ∧ c ≤ 9) (h : ¬ 922337203685477580 < satv v) : satv v = v ∧ v ≤ 922337203685477580 ∧ satv (v * 10 + c) = v * 10 + c := by
  unfold satv at *; split at h
  · rw [if_pos (by assumption), if_pos (by omega)]; exact ⟨rfl, by omega, rfl⟩
  · omega
theorem while_all (p : UInt8 → Bool) : ∀ l : List UInt8, (∀ b ∈ l, p b = true) → l.takeWhile p = l ∧ l.dropWhile p = []
  | [], _ => ⟨rfl, rfl⟩
  | a :: l, h => by
    have ih := while_all p l (fun b hb => h b (by simp [hb]))
    have ha := h a (by simp)
    simp [ha, ih.1, ih.2]
theorem taken_end (l : List UInt8) (k : Nat) (hk : k ≤ l.length) (h : ∀ b ∈ l.take k, isdig b = true) (hn : k < l.length → isdig (l.getD k 0) = false) : l.takeWhile isdig = l.take k ∧ l.dropWhile isdig = l.drop k := by
  rcases Nat.lt_or_ge k l.length with q | q
  · have e : l = l.take k ++ l.getD k 0 :: l.drop (k + 1) := by
      rw [show l.getD k 0 = l[k] by simp [List.getD, q], List.getElem_cons_drop, List.take_append_drop]
    have := take_while_all isdig (l.take k) (l.getD k 0) (l.drop (k + 1)) h (hn q)
    rw [← e] at this
    rw [this.1, this.2, show l.getD k 0 = l[k] by simp [List.getD, q], List.getElem_cons_drop]
    exact ⟨rfl, rfl⟩
  · have hk' : k = l.length := by omega
    subst hk'
    rw [List.take_length] at h
    rw [List.take_length, List.drop_length]
    exact while_all isdig l h
set_option maxHeartbeats 4000000 in
set_option maxRecDepth 100000 in
theorem d_taken (l : List UInt8) (hl : l.length ≤ 1000000) (w : World) :
    Calls Tryd.prog 29 #[.string (bs l)] w fun e w' => e = .returned (.tuple #[.int .u64 (satv (pval (l.takeWhile isdig))), .string (bs (l.dropWhile isdig))]) ∧ Below w.heap.size w w' := by
  have HE : Hid (∀ k, k ≤ l.length → (∀ b ∈ l.take k, isdig b = true) → (k < l.length → isdig (l.getD k 0) = false) → satv (pval (l.take k)) = satv (pval (l.takeWhile isdig)) ∧ bs (l.drop k) = bs (l.dropWhile isdig)) := by
    intro k h1 h2 h3
    have := taken_end l k h1 h2 h3
    rw [this.1, this.2]; exact ⟨rfl, rfl⟩
  generalize satv (pval (l.takeWhile isdig)) = R0 at *
  generalize bs (l.dropWhile isdig) = R1 at *
  have hsz := bs_size l
  go_enter Tryd.func29, Tryd.ntmps29
  go_wp2_with fail
  go_step3
  go_wp2_with fail
  go_step3
  go_wp2_with fail
  go_loop [2, 4] (fun n i => ∃ k : Nat, k ≤ l.length ∧ i = .int .i64 (k : Int) ∧ ∃ v : Int, n = .int .u64 v ∧ Hid (v = satv (pval (l.take k)) ∧ ∀ b ∈ l.take k, isdig b = true)) (fun _ i => l.length - (intOf i).toNat)
  case atStart => exact ⟨0, Nat.zero_le _, rfl, 0, rfl, ⟨by rw [List.take_zero]; decide, by simp⟩⟩
  case round =>
    obtain ⟨k, hk, rfl, v, rfl, HV⟩ := hrel
    have HK := Lib.hid (HE.out k hk HV.out.2)
    by_cases hlt : k < l.length
    · have i1 : (0 : Int) ≤ (k : Int) := by omega
      have i2 : (k : Int) < ((bs l).size : Int) := by omega
      have hby : ∀ q, ((bs l)[k]'q).toNat = (l.getD k 0).toNat := fun q => by simp [bs, List.getD, hlt, ByteArray.getElem_eq_getElem_data]
      have hcut := bs_cut l k l.length
      rw [List.take_of_length_le (by rw [List.length_drop]; omega)] at hcut
      have HP := Lib.hid (pval_take hlt)
      have hnn := pval_nn (l.take k)
      have hmem : ∀ b ∈ l.take (k + 1), b ∈ l.take k ∨ b = l.getD k 0 := by
        intro b hb
        rw [List.take_succ_eq_append_getElem hlt, List.mem_append, List.mem_singleton] at hb
        rcases hb with hb | hb
        · exact Or.inl hb
        · exact Or.inr (by rw [hb]; simp [List.getD, hlt])
      have HM := Lib.hid hmem
      clear hmem
      generalize l.getD k 0 = ch at *
      have hc8 := ch.toNat_lt
      by_cases hd : isdig ch = true
      · have HD := Lib.hid (pdig_is hd)
        have h12 := isdig_iff.1 hd
        have HDD := Lib.hid hd
        generalize ch.toNat = m at *
        have h1 : 48 ≤ m := h12.1
        have h2 : m ≤ 57 := h12.2
        have z1 : decide ((m : Int) < 48) = false := decide_eq_false (by omega)
        have z2 : decide (57 < (m : Int)) = false := decide_eq_false (by omega)
        have hs8 : IntKind.u8.wrap ((m : Int) - 48) = (m : Int) - 48 := by rw [IntKind.wrap_u8]; omega
        have hs64 : IntKind.u64.wrap ((m : Int) - 48) = (m : Int) - 48 := by rw [IntKind.wrap_u64]; omega
        have HV0 := HV.out.1
        have HALL := Lib.hid HV.out.2
        clear hd hc8 h12
        have HH := Lib.hid (And.intro h1 h2)
        by_cases hbig : 922337203685477580 < v
        · have z3 : decide (922337203685477580 < v) = true := decide_eq_true hbig
          have HS := Lib.hid (sat_big (v := pval (l.take k)) (c := (m : Int) - 48) hnn (by omega) (by rw [← HV0]; exact hbig))
          clear hnn HV0 hbig h1 h2
          go_wp2_with fail
          go_round
          case rel =>
            refine ⟨k + 1, by omega, by go_num, 18446744073709551615, rfl, ?_, ?_⟩
            · rw [HP.out, HD.out, HS.out]
            · intro b hb
              rcases HM.out b hb with q | q
              · exact HALL.out b q
              · rw [q]; exact HDD.out
          case measure => simp [intOf]; omega
        · have z3 : decide (922337203685477580 < v) = false := decide_eq_false hbig
          have hlow := sat_low (v := pval (l.take k)) (c := (m : Int) - 48) hnn (by omega) (by rw [← HV0]; exact hbig)
          rw [← HV0] at hlow
          have hv0 : v = pval (l.take k) := hlow.1
          rw [← hv0] at hlow hnn
          have hw1 : IntKind.u64.wrap (v * 10) = v * 10 := by rw [IntKind.wrap_u64]; omega
          have hw2 : IntKind.u64.wrap (v * 10 + ((m : Int) - 48)) = v * 10 + ((m : Int) - 48) := by rw [IntKind.wrap_u64]; omega
          have HS := Lib.hid hlow.2.2
          have HVV := Lib.hid hv0
          clear hnn HV0 hbig h1 h2 hlow hv0
          go_wp2_with fail
          go_round
          case rel =>
            refine ⟨k + 1, by omega, by go_num, v * 10 + ((m : Int) - 48), rfl, ?_, ?_⟩
            · rw [HP.out, HD.out, ← HVV.out, HS.out]
            · intro b hb
              rcases HM.out b hb with q | q
              · exact HALL.out b q
              · rw [q]; exact HDD.out
          case measure => simp [intOf]; omega
      · have hf : isdig ch = false := by simpa using hd
        have hkk := HK.out (fun _ => hf)
        rw [← HV.out.1] at hkk
        obtain ⟨hv0, hr1⟩ := hkk
        rw [hr1] at hcut
        subst hv0
        have HN := Lib.hid hd
        have hnd : ch.toNat < 48 ∨ (48 ≤ ch.toNat ∧ 57 < ch.toNat) := by
          have : ¬ (48 ≤ ch.toNat ∧ ch.toNat ≤ 57) := fun q => hd (isdig_iff.2 q)
          omega
        generalize ch.toNat = m at *
        clear hd hf hr1 hc8 hnn
        rcases hnd with h1 | ⟨h1, h2⟩
        · have z1 : decide ((m : Int) < 48) = true := decide_eq_true (by omega)
          go_wp2_with fail
          go_quiet (fail)
          go_wp2_with fail
          try rw [Exit.noGoto_ret]
          go_ret2
          exact ⟨rfl, ⟨rfl, rfl, rfl, Nat.le_refl _, fun _ _ => rfl⟩⟩
        · have z1 : decide ((m : Int) < 48) = false := decide_eq_false (by omega)
          have z2 : decide (57 < (m : Int)) = true := decide_eq_true (by omega)
          go_wp2_with fail
          go_quiet (fail)
          go_wp2_with fail
          try rw [Exit.noGoto_ret]
          go_ret2
          exact ⟨rfl, ⟨rfl, rfl, rfl, Nat.le_refl _, fun _ _ => rfl⟩⟩
    · obtain rfl : k = l.length := by omega
      have hkk := HK.out (fun q => absurd q hlt)
      rw [← HV.out.1] at hkk
      obtain ⟨hv0, hr1⟩ := hkk
      have hr : R1 = ByteArray.empty := by rw [← hr1, List.drop_length]; rfl
      subst hr
      subst hv0
      clear hr1 hlt
      go_wp2_with fail
      go_quiet (fail)
      go_wp2_with fail
      try rw [Exit.noGoto_ret]
      go_ret2
      exact ⟨rfl, ⟨rfl, rfl, rfl, Nat.le_refl _, fun _ _ => rfl⟩⟩

/-- A size on its side of 0. -/
def sgv (b : Bool) (v : Int) : Int := if b then - v else v
set_option maxHeartbeats 1000000 in
theorem d_signed (v : Int) (b : Bool) (h0 : 0 ≤ v) (w : World) :
    Calls Tryd.prog 30 #[.int .u64 (satv v), .bool b] w fun e w' => e = .returned (.tuple #[.int .i64 (tv (sgv b v)), .int .i64 (te (sgv b v))]) ∧ w = w' := by
  cases b
  · show Calls _ _ _ _ fun e w' => e = .returned (.tuple #[.int .i64 (tv v), .int .i64 (te v)]) ∧ w = w'
    by_cases h : v ≤ 9223372036854775807
    · have hi : InR v := by unfold InR; omega
      have e : satv v = v := by unfold satv; rw [if_pos (by omega)]
      rw [tv_in hi, te_in hi, e]
      have d1 : decide (v ≤ 9223372036854775807) = true := decide_eq_true h
      have hw : IntKind.i64.wrap v = v := by rw [IntKind.wrap_i64]; omega
      have hw' : wrap64 v = v := by unfold wrap64; omega
      clear h0 h hi e
      go_enter Tryd.func30, Tryd.ntmps30
      go_wp2_with fail
      go_ret2
      exact ⟨rfl, rfl⟩
    · have hi : ¬ InR v := by unfold InR; omega
      rw [tv_out hi, te_out hi]
      have d1 : decide (satv v ≤ 9223372036854775807) = false := decide_eq_false (by unfold satv; split <;> omega)
      generalize satv v = s at *
      clear h0 h hi
      go_enter Tryd.func30, Tryd.ntmps30
      go_wp2_with fail
      go_ret2
      exact ⟨rfl, rfl⟩
  · show Calls _ _ _ _ fun e w' => e = .returned (.tuple #[.int .i64 (tv (-v)), .int .i64 (te (-v))]) ∧ w = w'
    by_cases h : v ≤ 9223372036854775808
    · have hi : InR (-v) := by unfold InR; omega
      have e : satv v = v := by unfold satv; rw [if_pos (by omega)]
      rw [tv_in hi, te_in hi, e]
      have d1 : decide (v ≤ 9223372036854775808) = true := decide_eq_true h
      have hw : wrap64 (IntKind.u64.wrap (-v)) = -v := by rw [IntKind.wrap_u64]; unfold wrap64; omega
      have hw' : IntKind.i64.wrap (IntKind.u64.wrap (-v)) = -v := by rw [IntKind.wrap_u64, IntKind.wrap_i64]; omega
      clear h0 h hi e
      go_enter Tryd.func30, Tryd.ntmps30
      go_wp2_with fail
      go_ret2
      exact ⟨rfl, rfl⟩
    · have hi : ¬ InR (-v) := by unfold InR; omega
      rw [tv_out hi, te_out hi]
      have d1 : decide (satv v ≤ 9223372036854775808) = false := decide_eq_false (by unfold satv; split <;> omega)
      generalize satv v = s at *
      clear h0 h hi
      go_enter Tryd.func30, Tryd.ntmps30
      go_wp2_with fail
      go_ret2
      exact ⟨rfl, rfl⟩
end Go.Proofs.YtnomeglccihplaaDoor
