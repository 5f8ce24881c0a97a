/-
  RatioBack of layer 4 answers true, for whatever two rates and whatever number in range. No conditions besides.
-/
import Derived.Test.YtkkioemlajagjaaRatH
namespace Go.Proofs.Ytkkioemlajagjaa
open Go.RowKit
set_option linter.unusedSimpArgs false
set_option linter.unusedVariables false

theorem Keeps.odd {w0 w : World} {a b c d e : Nat × Value × Value} {l : List (Nat × Value × Value)} (h : Keeps w0 w (a :: b :: c :: d :: e :: l)) :
    w.cell? ⟨a.1, 0, none⟩ = some a.2.1 ∧ w.cell? ⟨a.1, 1, none⟩ = some a.2.2 ∧ w.cell? ⟨c.1, 0, none⟩ = some c.2.1 ∧ w.cell? ⟨c.1, 1, none⟩ = some c.2.2 ∧
    w.cell? ⟨e.1, 0, none⟩ = some e.2.1 ∧ w.cell? ⟨e.1, 1, none⟩ = some e.2.2 := by
  have h1 := h.at0; have h2 := h.at2; have h3 := h.tail.at3
  exact ⟨h1.1, h1.2.1, h2.1, h2.2.1, h3.1, h3.2.1⟩
set_option maxHeartbeats 4000000 in
set_option maxRecDepth 100000 in
theorem back4_ok (n d m f x : Int) (ha : OkR n d) (hx : InR x) (haw : ∀ w, Calls Try.prog 15 #[] w fun e w' => e = .returned (.bool true) ∧ Below w.heap.size w w') (w : World) :
    Calls Try.prog 6 #[.agg #[.int .i64 n, .int .i64 d], .agg #[.int .i64 m, .int .i64 f], .int .i64 x] w fun e w' => e = .returned (.bool true) ∧ Below w.heap.size w w' := by
  have h1 := c_times n d m f; have h2 := c_times m f n d
  have ht := mul_turn m f n d
  rw [ht.1, ht.2.1, ht.2.2] at h2
  have h3 := c_check n d
  rw [rc_ok ha] at h3
  have h4 := c_norm n d
  have h5 := c_inverse n d
  rw [rc_ok ha] at h5
  have h6 := c_times n d (normn d n) (normd d n)
  have hf := mul_flip ha
  rw [hf.1, hf.2.1, hf.2.2] at h6
  have h7 := c_apply x n d hx; have h8 := c_apply x (normn n d) (normd n d) hx
  rw [(apply_norm x ha).1, (apply_norm x ha).2] at h8
  have h9 := c_same n d (normn n d) (normd n d)
  rw [same_norm_t ha] at h9
  have h10 := c_norm (normn n d) (normd n d)
  rw [(norm_norm ha).1, (norm_norm ha).2] at h10
  generalize mulN n d m f = p at *; generalize mulD n d m f = q at *; generalize mulE n d m f = r at *
  generalize av x n d = y at *; generalize ae x n d = z at *
  generalize normn d n = i at *; generalize normd d n = j at *
  generalize normn n d = a at *; generalize normd n d = b at *
  clear ha hx ht hf
  have K := (Keeps.start w).new2 (.int .i64 n) (.int .i64 d) (.int .i64 m) (.int .i64 f) 23 23
  go_enter Try.func6, Try.ntmps6
  obtain ⟨x0, x1, x2, x3⟩ := K.two
  go_wp2_with fail
  refine (h1 _).mono ?_; rintro e w1 ⟨rfl, hb1⟩
  replace K := (K.below hb1).new (.int .i64 p) (.int .i64 q) 23; clear hb1 x0 x1 x2 x3
  obtain ⟨x0, x1, x2, x3⟩ := K.tail.two
  go_wp2_with fail
  refine (h2 _).mono ?_; rintro e w2 ⟨rfl, hb2⟩
  replace K := (K.below hb2).new (.int .i64 p) (.int .i64 q) 23; clear hb2 x0 x1 x2 x3
  obtain ⟨x0, x1, x2, x3⟩ := K.two
  obtain ⟨y0, y1, y2, y3⟩ := K.tail.tail.two
  go_wp2_with fail
  refine (h3 _).mono ?_; rintro e w3 ⟨rfl, hb3⟩
  replace K := K.tail.tail.below hb3; clear hb3 x0 x1 x2 x3 y0 y1 y2 y3
  obtain ⟨x0, x1, x2, x3⟩ := K.two
  go_wp2_with fail
  refine (h4 _).mono ?_; rintro e w4 ⟨rfl, hb4⟩
  replace K := (K.below hb4).new (.int .i64 a) (.int .i64 b) 23; clear hb4 x0 x1 x2 x3
  obtain ⟨x0, x1, x2, x3⟩ := K.tail.two
  go_wp2_with fail
  refine (h5 _).mono ?_; rintro e w5 ⟨rfl, hb5⟩
  replace K := (K.below hb5).new (.int .i64 i) (.int .i64 j) 23; clear hb5 x0 x1 x2 x3
  obtain ⟨x0, x1, x2⟩ := K.at0
  obtain ⟨y0, y1, y2, y3⟩ := K.tail.tail.two
  go_wp2_with fail
  refine (h6 _).mono ?_; rintro e w6 ⟨rfl, hb6⟩
  replace K := (K.below hb6).new (.int .i64 1) (.int .i64 1) 23; clear hb6 x0 x1 x2 y0 y1 y2 y3
  obtain ⟨y0, y1, y2, y3⟩ := K.tail.tail.tail.two
  go_wp2_with fail
  refine (h7 _).mono ?_; rintro e w7 ⟨rfl, hb7⟩
  replace K := K.below hb7; clear hb7 y0 y1 y2 y3
  obtain ⟨y0, y1, y2, y3⟩ := K.tail.two
  go_wp2_with fail
  refine (h8 _).mono ?_; rintro e w8 ⟨rfl, hb8⟩
  replace K := K.below hb8; clear hb8 y0 y1 y2 y3
  go_wp2_with fail
  try simp only [List.append_eq, List.cons_append, List.nil_append]
  clear h1 h2 h3 h4 h5 h6 h7 h8
  go_region_held3 (fun w' => w'.cell? ⟨w6.heap.size, 0, none⟩ = some (.int .i64 1) ∧ w'.cell? ⟨w6.heap.size, 1, none⟩ = some (.int .i64 1) ∧ w'.cell? ⟨w4.heap.size, 0, none⟩ = some (.int .i64 a) ∧ w'.cell? ⟨w4.heap.size, 1, none⟩ = some (.int .i64 b) ∧
      w'.cell? ⟨w.heap.size, 0, none⟩ = some (.int .i64 n) ∧ w'.cell? ⟨w.heap.size, 1, none⟩ = some (.int .i64 d))
    (first | (exact K.odd) | (exact K.drew.odd))
    (first
      | (go_at_call 11; with_reducible refine (h9 _).mono ?_; rintro e wn ⟨rfl, hbn⟩; (first | replace K := K.below hbn | replace K := K.drew.below hbn); obtain ⟨z0, z1, z2, z3, z4, z5⟩ := K.odd)
      | (go_at_call 9; with_reducible refine (h10 _).mono ?_; rintro e wn ⟨rfl, hbn⟩; (first | replace K := K.below hbn | replace K := K.drew.below hbn); obtain ⟨z0, z1, z2, z3, z4, z5⟩ := K.odd)
      | (go_at_call 15; with_reducible refine (haw _).mono ?_; rintro e wn ⟨rfl, hbn⟩; (first | replace K := K.below hbn | replace K := K.drew.below hbn); obtain ⟨z0, z1, z2, z3, z4, z5⟩ := K.odd))
  go_wp2_with fail
  go_ret
  exact ⟨rfl, K.1⟩

set_option maxHeartbeats 4000000 in
set_option maxRecDepth 100000 in
theorem back4_no (n d m f x : Int) (ha : ¬ OkR n d) (haw : ∀ w, Calls Try.prog 15 #[] w fun e w' => e = .returned (.bool true) ∧ Below w.heap.size w w') (w : World) :
    Calls Try.prog 6 #[.agg #[.int .i64 n, .int .i64 d], .agg #[.int .i64 m, .int .i64 f], .int .i64 x] w fun e w' => e = .returned (.bool true) ∧ Below w.heap.size w w' := by
  have h1 := c_times_no n d m f (fun h => ha h.1); have h2 := c_times_no m f n d (fun h => ha h.2)
  have h3 := c_check n d
  rw [rc_no ha] at h3
  have h4 := c_norm n d
  rw [(norm_no ha).1, (norm_no ha).2] at h4
  clear ha
  have K := (Keeps.start w).new2 (.int .i64 n) (.int .i64 d) (.int .i64 m) (.int .i64 f) 23 23
  go_enter Try.func6, Try.ntmps6
  obtain ⟨x0, x1, x2, x3⟩ := K.two
  go_wp2_with fail
  refine (h1 _).mono ?_; rintro e w1 ⟨rfl, hb1⟩
  replace K := (K.below hb1).new (.int .i64 0) (.int .i64 0) 23; clear hb1 x0 x1 x2 x3
  obtain ⟨x0, x1, x2, x3⟩ := K.tail.two
  go_wp2_with fail
  refine (h2 _).mono ?_; rintro e w2 ⟨rfl, hb2⟩
  replace K := (K.below hb2).new (.int .i64 0) (.int .i64 0) 23; clear hb2 x0 x1 x2 x3
  obtain ⟨x0, x1, x2, x3⟩ := K.two
  obtain ⟨y0, y1, y2, y3⟩ := K.tail.tail.two
  go_wp2_with fail
  refine (h3 _).mono ?_; rintro e w3 ⟨rfl, hb3⟩
  replace K := K.tail.tail.below hb3; clear hb3 x0 x1 x2 x3 y0 y1 y2 y3
  obtain ⟨x0, x1, x2, x3⟩ := K.two
  go_wp2_with fail
  refine (h4 _).mono ?_; rintro e w4 ⟨rfl, hb4⟩
  replace K := K.below hb4; clear hb4 x0 x1 x2 x3
  go_wp2_with fail
  refine (haw _).mono ?_; rintro e w5 ⟨rfl, hb5⟩
  replace K := K.below hb5
  go_wp2_with fail
  go_ret
  exact ⟨rfl, K.1⟩

theorem back4_all (n d m f x : Int) (hx : InR x) (w : World) :
    Calls Try.prog 6 #[.agg #[.int .i64 n, .int .i64 d], .agg #[.int .i64 m, .int .i64 f], .int .i64 x] w fun e w' => e = .returned (.bool true) ∧ Below w.heap.size w w' := by
  by_cases h : OkR n d
  · exact back4_ok n d m f x h hx r_awake w
  · exact back4_no n d m f x h r_awake w
end Go.Proofs.Ytkkioemlajagjaa
