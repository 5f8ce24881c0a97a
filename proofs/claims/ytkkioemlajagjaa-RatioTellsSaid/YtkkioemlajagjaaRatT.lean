/-
  RatioTells of layer 4 answers true, for whatever two rates of numbers in range. No conditions besides.
-/
import Derived.Test.YtkkioemlajagjaaRatH
import Derived.Test.YtkkioemlajagjaaRefZ
namespace Go.Proofs.Ytkkioemlajagjaa
open Go.RowKit
set_option linter.unusedSimpArgs false
set_option linter.unusedVariables false

set_option maxHeartbeats 4000000 in
set_option maxRecDepth 100000 in
theorem tells4_any (n d m f : Int) (hn : InR n) (hd : InR d) (hm : InR m) (hf : InR f) (haw : ∀ w, Calls Try.prog 15 #[] w fun e w' => e = .returned (.bool true) ∧ Below w.heap.size w w') (w : World) :
    Calls Try.prog 3 #[.agg #[.int .i64 n, .int .i64 d], .agg #[.int .i64 m, .int .i64 f]] w fun e w' => e = .returned (.bool true) ∧ Below w.heap.size w w' := by
  have h1 := c_check n d; have h1' := rcheck_any n d
  have h2 := c_norm n d; have h2' := rnorm_any n d
  have h3 := c_same n d m f; have h3' : ∀ w, Calls Try.prog 12 #[.agg #[.int .i64 n, .int .i64 d], .agg #[.int .i64 m, .int .i64 f]] w fun e w' => e = .returned (.bool (sameB n d m f)) ∧ Below w.heap.size w w' := fun w => rsame_any n d m f hn hd hm hf w
  have h4 := c_less n d m f; have h4' : ∀ w, Calls Try.prog 14 #[.agg #[.int .i64 n, .int .i64 d], .agg #[.int .i64 m, .int .i64 f]] w fun e w' => e = .returned (.bool (lessB n d m f)) ∧ Below w.heap.size w w' := fun w => rless_any n d m f hn hd hm hf w
  generalize rc n d = r1 at *
  generalize normn n d = a at *; generalize normd n d = b at *
  generalize sameB n d m f = r3 at *; generalize lessB n d m f = r4 at *
  clear hn hd hm hf
  have K := (Keeps.start w).new2 (.int .i64 n) (.int .i64 d) (.int .i64 m) (.int .i64 f) 23 23
  go_enter Try.func3, Try.ntmps3
  go_wp2_with fail
  try simp only [List.append_eq, List.cons_append, List.nil_append]
  go_region_held3 (fun w' => w'.cell? ⟨w.heap.size + 1, 0, none⟩ = some (.int .i64 m) ∧ w'.cell? ⟨w.heap.size + 1, 1, none⟩ = some (.int .i64 f) ∧ w'.cell? ⟨w.heap.size, 0, none⟩ = some (.int .i64 n) ∧ w'.cell? ⟨w.heap.size, 1, none⟩ = some (.int .i64 d))
    (first | (exact K.two) | (exact K.drew.two))
    (first
      | (go_at_call 7; with_reducible refine (h1 _).mono ?_; rintro e wn ⟨rfl, hbn⟩; (first | replace K := K.below hbn | replace K := K.drew.below hbn); obtain ⟨z0, z1, z2, z3⟩ := K.two)
      | (go_at_call 8; with_reducible refine (h1' _).mono ?_; rintro e wn ⟨rfl, hbn⟩; (first | replace K := K.below hbn | replace K := K.drew.below hbn); obtain ⟨z0, z1, z2, z3⟩ := K.two)
      | (go_at_call 9; with_reducible refine (h2 _).mono ?_; rintro e wn ⟨rfl, hbn⟩; (first | replace K := K.below hbn | replace K := K.drew.below hbn); obtain ⟨z0, z1, z2, z3⟩ := K.two)
      | (go_at_call 10; with_reducible refine (h2' _).mono ?_; rintro e wn ⟨rfl, hbn⟩; (first | replace K := K.below hbn | replace K := K.drew.below hbn); obtain ⟨z0, z1, z2, z3⟩ := K.two)
      | (go_at_call 11; with_reducible refine (h3 _).mono ?_; rintro e wn ⟨rfl, hbn⟩; (first | replace K := K.below hbn | replace K := K.drew.below hbn); obtain ⟨z0, z1, z2, z3⟩ := K.two)
      | (go_at_call 12; with_reducible refine (h3' _).mono ?_; rintro e wn ⟨rfl, hbn⟩; (first | replace K := K.below hbn | replace K := K.drew.below hbn); obtain ⟨z0, z1, z2, z3⟩ := K.two)
      | (go_at_call 13; with_reducible refine (h4 _).mono ?_; rintro e wn ⟨rfl, hbn⟩; (first | replace K := K.below hbn | replace K := K.drew.below hbn); obtain ⟨z0, z1, z2, z3⟩ := K.two)
      | (go_at_call 14; with_reducible refine (h4' _).mono ?_; rintro e wn ⟨rfl, hbn⟩; (first | replace K := K.below hbn | replace K := K.drew.below hbn); obtain ⟨z0, z1, z2, z3⟩ := K.two)
      | (go_at_call 15; with_reducible refine (haw _).mono ?_; rintro e wn ⟨rfl, hbn⟩; (first | replace K := K.below hbn | replace K := K.drew.below hbn); obtain ⟨z0, z1, z2, z3⟩ := K.two))
  go_wp2_with fail
  go_ret
  exact ⟨rfl, K.1⟩

theorem tells4_all (n d m f : Int) (hn : InR n) (hd : InR d) (hm : InR m) (hf : InR f) (w : World) :
    Calls Try.prog 3 #[.agg #[.int .i64 n, .int .i64 d], .agg #[.int .i64 m, .int .i64 f]] w fun e w' => e = .returned (.bool true) ∧ Below w.heap.size w w' :=
  tells4_any n d m f hn hd hm hf r_awake w
end Go.Proofs.Ytkkioemlajagjaa
