/-
  awake of layer 2 answers true. No conditions.
-/
import Derived.Test.YtclpigmomijliaaWideE
import Derived.Test.YtclpigmomijliaaWideF0
import Derived.Deep.DeepCutAuto
import Derived.Deep.RegionWith
namespace Go.Proofs.Ytclpigmomijliaa
open Go.RowKit
set_option linter.unusedSimpArgs false
set_option linter.unusedVariables false

set_option maxHeartbeats 8000000 in
set_option maxRecDepth 100000 in
theorem w_awake (w : World) : Calls Try.prog 15 #[] w fun e w' => e = .returned (.bool true) ∧ Below w.heap.size w w' := by
  go_enter Try.func15, Try.ntmps15
  go_wp2_with fail
  refine (a_5 _).mono ?_; rintro e w1 ⟨rfl, hb1⟩
  have K := ((Keeps.start w).new (.int .i64 9223372036854775807) (.int .u64 18446744073709551615) 28).below hb1
  clear hb1
  go_wp2_with fail
  refine (a_m7 _).mono ?_; rintro e w2 ⟨rfl, hb2⟩
  replace K := K.below hb2
  clear hb2
  go_wp2_with fail
  refine (a_add1 _).mono ?_; rintro e w3 ⟨rfl, hb3⟩
  replace K := K.below hb3
  clear hb3
  obtain ⟨x0, x1, x2⟩ := K.at0
  have K0 := K.new (.int .i64 (-1)) (.int .u64 18446744073709551614) 28
  have tT := Lib.hid K0.at1
  have hsz : (w3.alloc (.cells #[.int .i64 (-1), .int .u64 18446744073709551614] 28)).heap.size = w3.heap.size + 1 := by simp
  have hl3 := K0.lt
  rw [hsz] at hl3
  have HL := Lib.hid (And.intro (Nat.le_succ_of_le K.size) hl3)
  clear K hl3
  go_upto_region 3 with fail
  go_cut [4, 5] (fun s4 s5 wx => s5 = .int .i64 10 ∧ Keeps w wx [(w3.heap.size, .int .i64 (-1), .int .u64 18446744073709551614), (w.heap.size, .int .i64 9223372036854775807, .int .u64 18446744073709551615)])
  case first =>
    go_region_with
      (first
        | (go_at_call 14; refine (a_1 _).mono ?_; rintro e w4 ⟨rfl, hb4⟩; first
            | (have t4 := Lib.hid (tT.out.drew.below hb4); obtain ⟨y0, y1, y2⟩ := t4.out)
            | (have t4 := Lib.hid ((tT.out.alloc _).drew.below hb4); obtain ⟨y0, y1, y2⟩ := t4.out; have o4 := Lib.hid ((Ow2.new _ _ _ _).drew.below hb4); rw [hsz] at o4; obtain ⟨⟨n0, n1, n2⟩, f0, f1⟩ := o4.out))
        | (go_at_call 16; refine (a_add2 _).mono ?_; rintro e w5 ⟨rfl, hb5⟩; first
            | (have o5 := Lib.hid ((Ow2.new w4 _ _ _).below hb5); obtain ⟨⟨n0, n1, n2⟩, f0, f1⟩ := o5.out)
            | (have o5 := Lib.hid (o4.out.below hb5); obtain ⟨⟨m0, m1, m2⟩, g0, g1⟩ := o5.out)
            | skip))
    all_goals (go_wp2_with fail)
    all_goals go_meet
    all_goals refine ⟨rfl, ?_⟩
    all_goals first
      | exact ((K0.drew.below hb4).below hb5).alloc _
      | exact (((K0.drew.below hb4).alloc _).below hb5).set (K0.drew.below hb4).size (K0.drew.below hb4).lt
      | exact (((K0.alloc _).drew.below hb4).below hb5).set HL.out.1 HL.out.2
  case rest =>
    clear K0 tT HL hsz x0 x1 x2
    obtain ⟨rfl, K⟩ := hcut
    go_wp2_with fail
    refine (a_5 _).mono ?_; rintro e w4 ⟨rfl, hb4⟩
    replace K := K.below hb4; clear hb4
    go_wp2_with fail
    refine (a_7 _).mono ?_; rintro e w5 ⟨rfl, hb5⟩
    replace K := K.below hb5; clear hb5
    go_wp2_with fail
    refine (a_sub _).mono ?_; rintro e w6 ⟨rfl, hb6⟩
    replace K := (K.below hb6).new (.int .i64 (-1)) (.int .u64 18446744073709551614) 28; clear hb6
    go_wp2_with fail
    refine (a_m3 _).mono ?_; rintro e w7 ⟨rfl, hb7⟩
    replace K := K.below hb7; clear hb7
    go_wp2_with fail
    refine (a_neg _).mono ?_; rintro e w8 ⟨rfl, hb8⟩
    replace K := (K.below hb8).new (.int .i64 0) (.int .u64 3) 28; clear hb8
    go_wp2_with fail
    refine (a_m9 _).mono ?_; rintro e w9 ⟨rfl, hb9⟩
    replace K := K.below hb9; clear hb9
    go_wp2_with fail
    refine (a_int1 _).mono ?_; rintro e w10 ⟨rfl, hb10⟩
    replace K := K.below hb10; clear hb10
    go_wp2_with fail
    refine (a_int2 _).mono ?_; rintro e w11 ⟨rfl, hb11⟩
    replace K := K.below hb11; clear hb11
    obtain ⟨c0, c1, b0, b1, a0, a1, t0, t1⟩ := K.four
    go_wp2_with fail
    simp only [List.append_eq, List.cons_append, List.nil_append]
    go_region_held3 (fun w' => w'.cell? ⟨w8.heap.size, 0, none⟩ = some (.int .i64 0) ∧ w'.cell? ⟨w8.heap.size, 1, none⟩ = some (.int .u64 3) ∧
        w'.cell? ⟨w6.heap.size, 0, none⟩ = some (.int .i64 (-1)) ∧ w'.cell? ⟨w6.heap.size, 1, none⟩ = some (.int .u64 18446744073709551614) ∧
        w'.cell? ⟨w3.heap.size, 0, none⟩ = some (.int .i64 (-1)) ∧ w'.cell? ⟨w3.heap.size, 1, none⟩ = some (.int .u64 18446744073709551614) ∧
        w'.cell? ⟨w.heap.size, 0, none⟩ = some (.int .i64 9223372036854775807) ∧ w'.cell? ⟨w.heap.size, 1, none⟩ = some (.int .u64 18446744073709551615))
      (first | (exact K.four) | (exact K.drew.four))
      (first
        | (go_at_call 8; (with_reducible refine (a_mul _).mono ?_); rintro e wn ⟨rfl, hbn⟩; first | replace K := K.below hbn | replace K := K.drew.below hbn; obtain ⟨c0, c1, b0, b1, a0, a1, t0, t1⟩ := K.four)
        | (go_at_call 14; (first | with_reducible refine (a_m1 _).mono ?_ | with_reducible refine (a_m2 _).mono ?_ | with_reducible refine (a_3 _).mono ?_ | with_reducible refine (a_1 _).mono ?_); rintro e wn ⟨rfl, hbn⟩; first | replace K := K.below hbn | replace K := K.drew.below hbn; obtain ⟨c0, c1, b0, b1, a0, a1, t0, t1⟩ := K.four)
        | (go_at_call 23; (with_reducible refine (a_cmp _).mono ?_); rintro e wn ⟨rfl, hbn⟩; first | replace K := K.below hbn | replace K := K.drew.below hbn; obtain ⟨c0, c1, b0, b1, a0, a1, t0, t1⟩ := K.four)
        | (go_at_call 24; (first | with_reducible refine (a_sign1 _).mono ?_ | with_reducible refine (a_sign2 _).mono ?_); rintro e wn ⟨rfl, hbn⟩; first | replace K := K.below hbn | replace K := K.drew.below hbn; obtain ⟨c0, c1, b0, b1, a0, a1, t0, t1⟩ := K.four))
    go_wp2_with fail
    go_ret
    exact ⟨rfl, K.1⟩
end Go.Proofs.Ytclpigmomijliaa
