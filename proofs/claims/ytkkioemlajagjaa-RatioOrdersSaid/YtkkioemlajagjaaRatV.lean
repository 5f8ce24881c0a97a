/-
  RatioOrders of layer 4 answers true, for whatever three rates. No conditions besides.
-/
import Derived.Test.YtkkioemlajagjaaRatH
namespace Go.Proofs.Ytkkioemlajagjaa
open Go.RowKit
set_option linter.unusedSimpArgs false
set_option linter.unusedVariables false

theorem Keeps.new3 {w0 w : World} {l : List (Nat × Value × Value)} (h : Keeps w0 w l) (p q r s u v : Value) (t t' t'' : TypeId) :
    Keeps w0 (((w.alloc (.cells #[p, q] t)).alloc (.cells #[r, s] t')).alloc (.cells #[u, v] t'')) ((w.heap.size + 1 + 1, u, v) :: (w.heap.size + 1, r, s) :: (w.heap.size, p, q) :: l) := by
  have := (h.new2 p q r s t t').new u v t''
  rwa [show ((w.alloc (.cells #[p, q] t)).alloc (.cells #[r, s] t')).heap.size = w.heap.size + 1 + 1 by simp] at this
theorem Keeps.far {w0 w : World} {a b c d e : Nat × Value × Value} {l : List (Nat × Value × Value)} (h : Keeps w0 w (a :: b :: c :: d :: e :: l)) :
    w.cell? ⟨a.1, 0, none⟩ = some a.2.1 ∧ w.cell? ⟨a.1, 1, none⟩ = some a.2.2 ∧ w.cell? ⟨b.1, 0, none⟩ = some b.2.1 ∧ w.cell? ⟨b.1, 1, none⟩ = some b.2.2 ∧
    w.cell? ⟨d.1, 0, none⟩ = some d.2.1 ∧ w.cell? ⟨d.1, 1, none⟩ = some d.2.2 ∧ w.cell? ⟨e.1, 0, none⟩ = some e.2.1 ∧ w.cell? ⟨e.1, 1, none⟩ = some e.2.2 := by
  have h1 := h.two; have h2 := h.tail.tail.tail.two
  exact ⟨h1.1, h1.2.1, h1.2.2.1, h1.2.2.2, h2.1, h2.2.1, h2.2.2.1, h2.2.2.2⟩
set_option maxHeartbeats 4000000 in
set_option maxRecDepth 100000 in
theorem orders4_ok (n d m f r s : Int) (ha : OkR n d) (hb : OkR m f) (haw : ∀ w, Calls Try.prog 15 #[] w fun e w' => e = .returned (.bool true) ∧ Below w.heap.size w w') (w : World) :
    Calls Try.prog 5 #[.agg #[.int .i64 n, .int .i64 d], .agg #[.int .i64 m, .int .i64 f], .agg #[.int .i64 r, .int .i64 s]] w fun e w' => e = .returned (.bool true) ∧ Below w.heap.size w w' := by
  have h1 := c_less n d m f; have h2 := c_less m f n d; have h3 := c_same n d m f
  have h4 := c_check n d; have h5 := c_check m f
  rw [rc_ok ha] at h4; rw [rc_ok hb] at h5
  have h6 := c_inverse n d; have h7 := c_inverse m f
  rw [rc_ok ha] at h6; rw [rc_ok hb] at h7
  have h8 := c_less (normn f m) (normd f m) (normn d n) (normd d n)
  rw [less_flip ha hb] at h8
  have h9 := c_same (normn d n) (normd d n) (normn f m) (normd f m)
  rw [same_flip ha hb] at h9
  have h10 := c_less m f r s; have h11 := c_less n d r s
  have hT : Hid (lessB n d m f = true → lessB m f r s = true → lessB n d r s = true) := fun k1 k2 => less_on k1 k2
  have K := (Keeps.start w).new3 (.int .i64 n) (.int .i64 d) (.int .i64 m) (.int .i64 f) (.int .i64 r) (.int .i64 s) 23 23 23
  have hq := order_three ha hb
  generalize lessB n d m f = l1 at *; generalize lessB m f n d = l2 at *; generalize sameB n d m f = t1 at *
  generalize lessB m f r s = l3 at *; generalize lessB n d r s = l4 at *
  generalize normn d n = xn at *; generalize normd d n = xd at *; generalize normn f m = yn at *; generalize normd f m = yd at *
  clear ha hb
  rcases hq with ⟨rfl, rfl, rfl⟩ | ⟨rfl, rfl, rfl⟩ | ⟨rfl, rfl, rfl⟩
  · go_enter Try.func5, Try.ntmps5
    obtain ⟨x0, x1, x2, x3⟩ := K.tail.two
    go_wp2_with fail
    refine (h1 _).mono ?_; rintro e w1 ⟨rfl, hb1⟩
    replace K := K.below hb1; clear hb1 x0 x1 x2 x3
    obtain ⟨x0, x1, x2, x3⟩ := K.tail.two
    go_wp2_with fail
    refine (h2 _).mono ?_; rintro e w2 ⟨rfl, hb2⟩
    replace K := K.below hb2; clear hb2 x0 x1 x2 x3
    obtain ⟨x0, x1, x2, x3⟩ := K.tail.two
    go_wp2_with fail
    refine (h3 _).mono ?_; rintro e w3 ⟨rfl, hb3⟩
    replace K := K.below hb3; clear hb3 x0 x1 x2 x3
    obtain ⟨x0, x1, x2, x3⟩ := K.tail.two
    go_wp2_with fail
    refine (h4 _).mono ?_; rintro e w4 ⟨rfl, hb4⟩
    replace K := K.below hb4; clear hb4 x0 x1 x2 x3
    obtain ⟨x0, x1, x2, x3⟩ := K.tail.two
    go_wp2_with fail
    refine (h5 _).mono ?_; rintro e w5 ⟨rfl, hb5⟩
    replace K := K.below hb5; clear hb5 x0 x1 x2 x3
    obtain ⟨x0, x1, x2, x3⟩ := K.tail.two
    go_wp2_with fail
    refine (h6 _).mono ?_; rintro e w6 ⟨rfl, hb6⟩
    replace K := (K.below hb6).new (.int .i64 xn) (.int .i64 xd) 23; clear hb6 x0 x1 x2 x3
    obtain ⟨x0, x1, x2, x3⟩ := K.tail.tail.two
    go_wp2_with fail
    refine (h7 _).mono ?_; rintro e w7 ⟨rfl, hb7⟩
    replace K := (K.below hb7).new (.int .i64 yn) (.int .i64 yd) 23; clear hb7 x0 x1 x2 x3
    clear h2 h4 h5 h6 h7
    go_wp2_with fail
    go_region_held3 (fun w' => w'.cell? ⟨w7.heap.size, 0, none⟩ = some (.int .i64 yn) ∧ w'.cell? ⟨w7.heap.size, 1, none⟩ = some (.int .i64 yd) ∧ w'.cell? ⟨w6.heap.size, 0, none⟩ = some (.int .i64 xn) ∧ w'.cell? ⟨w6.heap.size, 1, none⟩ = some (.int .i64 xd) ∧
        w'.cell? ⟨w.heap.size + 1, 0, none⟩ = some (.int .i64 m) ∧ w'.cell? ⟨w.heap.size + 1, 1, none⟩ = some (.int .i64 f) ∧ w'.cell? ⟨w.heap.size, 0, none⟩ = some (.int .i64 n) ∧ w'.cell? ⟨w.heap.size, 1, none⟩ = some (.int .i64 d))
      (first | (exact K.far) | (exact K.drew.far))
      (first
        | (go_at_call 13; (first | with_reducible refine (h1 _).mono ?_ | with_reducible refine (h8 _).mono ?_); rintro e wn ⟨rfl, hbn⟩; (first | replace K := K.below hbn | replace K := K.drew.below hbn); obtain ⟨z0, z1, z2, z3, z4, z5, z6, z7⟩ := K.far)
        | (go_at_call 11; (first | with_reducible refine (h3 _).mono ?_ | with_reducible refine (h9 _).mono ?_); rintro e wn ⟨rfl, hbn⟩; (first | replace K := K.below hbn | replace K := K.drew.below hbn); obtain ⟨z0, z1, z2, z3, z4, z5, z6, z7⟩ := K.far))
    clear h3 h8 h9
    go_wp2_with fail
    refine (h1 _).mono ?_; rintro e v1 ⟨rfl, hb1⟩
    replace K := K.tail.tail.below hb1; clear hb1 z0 z1 z2 z3 z4 z5 z6 z7
    obtain ⟨y0, y1, y2, y3, y4, y5⟩ := K.three'
    cases l3
    · clear hT
      go_wp2_with fail
      refine (h10 _).mono ?_; rintro e v2 ⟨rfl, hb2⟩
      replace K := K.below hb2; clear hb2 y0 y1 y2 y3 y4 y5
      go_wp2_with fail
      refine (haw _).mono ?_; rintro e v4 ⟨rfl, hb4⟩
      replace K := K.below hb4
      go_wp2_with fail
      go_ret
      exact ⟨rfl, K.1⟩
    · obtain rfl : l4 = true := by simpa using hT.out
      clear hT
      go_wp2_with fail
      refine (h10 _).mono ?_; rintro e v2 ⟨rfl, hb2⟩
      replace K := K.below hb2; clear hb2 y0 y1 y2 y3 y4 y5
      obtain ⟨y0, y1, y2, y3, y4, y5⟩ := K.three'
      go_wp2_with fail
      refine (h11 _).mono ?_; rintro e v3 ⟨rfl, hb3⟩
      replace K := K.below hb3; clear hb3 y0 y1 y2 y3 y4 y5
      go_wp2_with fail
      refine (haw _).mono ?_; rintro e v4 ⟨rfl, hb4⟩
      replace K := K.below hb4
      go_wp2_with fail
      go_ret
      exact ⟨rfl, K.1⟩
  · go_enter Try.func5, Try.ntmps5
    obtain ⟨x0, x1, x2, x3⟩ := K.tail.two
    go_wp2_with fail
    refine (h1 _).mono ?_; rintro e w1 ⟨rfl, hb1⟩
    replace K := K.below hb1; clear hb1 x0 x1 x2 x3
    obtain ⟨x0, x1, x2, x3⟩ := K.tail.two
    go_wp2_with fail
    refine (h2 _).mono ?_; rintro e w2 ⟨rfl, hb2⟩
    replace K := K.below hb2; clear hb2 x0 x1 x2 x3
    obtain ⟨x0, x1, x2, x3⟩ := K.tail.two
    go_wp2_with fail
    refine (h3 _).mono ?_; rintro e w3 ⟨rfl, hb3⟩
    replace K := K.below hb3; clear hb3 x0 x1 x2 x3
    obtain ⟨x0, x1, x2, x3⟩ := K.tail.two
    go_wp2_with fail
    refine (h4 _).mono ?_; rintro e w4 ⟨rfl, hb4⟩
    replace K := K.below hb4; clear hb4 x0 x1 x2 x3
    obtain ⟨x0, x1, x2, x3⟩ := K.tail.two
    go_wp2_with fail
    refine (h5 _).mono ?_; rintro e w5 ⟨rfl, hb5⟩
    replace K := K.below hb5; clear hb5 x0 x1 x2 x3
    obtain ⟨x0, x1, x2, x3⟩ := K.tail.two
    go_wp2_with fail
    refine (h6 _).mono ?_; rintro e w6 ⟨rfl, hb6⟩
    replace K := (K.below hb6).new (.int .i64 xn) (.int .i64 xd) 23; clear hb6 x0 x1 x2 x3
    obtain ⟨x0, x1, x2, x3⟩ := K.tail.tail.two
    go_wp2_with fail
    refine (h7 _).mono ?_; rintro e w7 ⟨rfl, hb7⟩
    replace K := (K.below hb7).new (.int .i64 yn) (.int .i64 yd) 23; clear hb7 x0 x1 x2 x3
    clear h2 h4 h5 h6 h7
    go_wp2_with fail
    go_region_held3 (fun w' => w'.cell? ⟨w7.heap.size, 0, none⟩ = some (.int .i64 yn) ∧ w'.cell? ⟨w7.heap.size, 1, none⟩ = some (.int .i64 yd) ∧ w'.cell? ⟨w6.heap.size, 0, none⟩ = some (.int .i64 xn) ∧ w'.cell? ⟨w6.heap.size, 1, none⟩ = some (.int .i64 xd) ∧
        w'.cell? ⟨w.heap.size + 1, 0, none⟩ = some (.int .i64 m) ∧ w'.cell? ⟨w.heap.size + 1, 1, none⟩ = some (.int .i64 f) ∧ w'.cell? ⟨w.heap.size, 0, none⟩ = some (.int .i64 n) ∧ w'.cell? ⟨w.heap.size, 1, none⟩ = some (.int .i64 d))
      (first | (exact K.far) | (exact K.drew.far))
      (first
        | (go_at_call 13; (first | with_reducible refine (h1 _).mono ?_ | with_reducible refine (h8 _).mono ?_); rintro e wn ⟨rfl, hbn⟩; (first | replace K := K.below hbn | replace K := K.drew.below hbn); obtain ⟨z0, z1, z2, z3, z4, z5, z6, z7⟩ := K.far)
        | (go_at_call 11; (first | with_reducible refine (h3 _).mono ?_ | with_reducible refine (h9 _).mono ?_); rintro e wn ⟨rfl, hbn⟩; (first | replace K := K.below hbn | replace K := K.drew.below hbn); obtain ⟨z0, z1, z2, z3, z4, z5, z6, z7⟩ := K.far))
    clear h3 h8 h9
    go_wp2_with fail
    refine (h1 _).mono ?_; rintro e v1 ⟨rfl, hb1⟩
    replace K := K.tail.tail.below hb1; clear hb1 z0 z1 z2 z3 z4 z5 z6 z7
    clear hT
    go_wp2_with fail
    refine (haw _).mono ?_; rintro e v4 ⟨rfl, hb4⟩
    replace K := K.below hb4
    go_wp2_with fail
    go_ret
    exact ⟨rfl, K.1⟩
  · go_enter Try.func5, Try.ntmps5
    obtain ⟨x0, x1, x2, x3⟩ := K.tail.two
    go_wp2_with fail
    refine (h1 _).mono ?_; rintro e w1 ⟨rfl, hb1⟩
    replace K := K.below hb1; clear hb1 x0 x1 x2 x3
    obtain ⟨x0, x1, x2, x3⟩ := K.tail.two
    go_wp2_with fail
    refine (h2 _).mono ?_; rintro e w2 ⟨rfl, hb2⟩
    replace K := K.below hb2; clear hb2 x0 x1 x2 x3
    obtain ⟨x0, x1, x2, x3⟩ := K.tail.two
    go_wp2_with fail
    refine (h3 _).mono ?_; rintro e w3 ⟨rfl, hb3⟩
    replace K := K.below hb3; clear hb3 x0 x1 x2 x3
    obtain ⟨x0, x1, x2, x3⟩ := K.tail.two
    go_wp2_with fail
    refine (h4 _).mono ?_; rintro e w4 ⟨rfl, hb4⟩
    replace K := K.below hb4; clear hb4 x0 x1 x2 x3
    obtain ⟨x0, x1, x2, x3⟩ := K.tail.two
    go_wp2_with fail
    refine (h5 _).mono ?_; rintro e w5 ⟨rfl, hb5⟩
    replace K := K.below hb5; clear hb5 x0 x1 x2 x3
    obtain ⟨x0, x1, x2, x3⟩ := K.tail.two
    go_wp2_with fail
    refine (h6 _).mono ?_; rintro e w6 ⟨rfl, hb6⟩
    replace K := (K.below hb6).new (.int .i64 xn) (.int .i64 xd) 23; clear hb6 x0 x1 x2 x3
    obtain ⟨x0, x1, x2, x3⟩ := K.tail.tail.two
    go_wp2_with fail
    refine (h7 _).mono ?_; rintro e w7 ⟨rfl, hb7⟩
    replace K := (K.below hb7).new (.int .i64 yn) (.int .i64 yd) 23; clear hb7 x0 x1 x2 x3
    clear h2 h4 h5 h6 h7
    go_wp2_with fail
    go_region_held3 (fun w' => w'.cell? ⟨w7.heap.size, 0, none⟩ = some (.int .i64 yn) ∧ w'.cell? ⟨w7.heap.size, 1, none⟩ = some (.int .i64 yd) ∧ w'.cell? ⟨w6.heap.size, 0, none⟩ = some (.int .i64 xn) ∧ w'.cell? ⟨w6.heap.size, 1, none⟩ = some (.int .i64 xd) ∧
        w'.cell? ⟨w.heap.size + 1, 0, none⟩ = some (.int .i64 m) ∧ w'.cell? ⟨w.heap.size + 1, 1, none⟩ = some (.int .i64 f) ∧ w'.cell? ⟨w.heap.size, 0, none⟩ = some (.int .i64 n) ∧ w'.cell? ⟨w.heap.size, 1, none⟩ = some (.int .i64 d))
      (first | (exact K.far) | (exact K.drew.far))
      (first
        | (go_at_call 13; (first | with_reducible refine (h1 _).mono ?_ | with_reducible refine (h8 _).mono ?_); rintro e wn ⟨rfl, hbn⟩; (first | replace K := K.below hbn | replace K := K.drew.below hbn); obtain ⟨z0, z1, z2, z3, z4, z5, z6, z7⟩ := K.far)
        | (go_at_call 11; (first | with_reducible refine (h3 _).mono ?_ | with_reducible refine (h9 _).mono ?_); rintro e wn ⟨rfl, hbn⟩; (first | replace K := K.below hbn | replace K := K.drew.below hbn); obtain ⟨z0, z1, z2, z3, z4, z5, z6, z7⟩ := K.far))
    clear h3 h8 h9
    go_wp2_with fail
    refine (h1 _).mono ?_; rintro e v1 ⟨rfl, hb1⟩
    replace K := K.tail.tail.below hb1; clear hb1 z0 z1 z2 z3 z4 z5 z6 z7
    clear hT
    go_wp2_with fail
    refine (haw _).mono ?_; rintro e v4 ⟨rfl, hb4⟩
    replace K := K.below hb4
    go_wp2_with fail
    go_ret
    exact ⟨rfl, K.1⟩
set_option maxHeartbeats 4000000 in
set_option maxRecDepth 100000 in
theorem orders4_no (n d m f r s : Int) (hab : ¬ (OkR n d ∧ OkR m f)) (haw : ∀ w, Calls Try.prog 15 #[] w fun e w' => e = .returned (.bool true) ∧ Below w.heap.size w w') (w : World) :
    Calls Try.prog 5 #[.agg #[.int .i64 n, .int .i64 d], .agg #[.int .i64 m, .int .i64 f], .agg #[.int .i64 r, .int .i64 s]] w fun e w' => e = .returned (.bool true) ∧ Below w.heap.size w w' := by
  have h1 := c_less n d m f; have h2 := c_less m f n d; have h3 := c_same n d m f
  rw [less_no hab] at h1; rw [less_no (fun h => hab ⟨h.2, h.1⟩)] at h2; rw [same_no hab] at h3
  have h4 := c_check n d; have h5 := c_check m f
  have K := (Keeps.start w).new3 (.int .i64 n) (.int .i64 d) (.int .i64 m) (.int .i64 f) (.int .i64 r) (.int .i64 s) 23 23 23
  have hq : rc n d = 11 ∨ (rc n d = 0 ∧ rc m f = 11) := by
    by_cases ha : OkR n d
    · exact Or.inr ⟨rc_ok ha, rc_no fun hb => hab ⟨ha, hb⟩⟩
    · exact Or.inl (rc_no ha)
  generalize rc n d = e1 at *; generalize rc m f = e2 at *
  clear hab
  rcases hq with rfl | ⟨rfl, rfl⟩
  · go_enter Try.func5, Try.ntmps5
    obtain ⟨x0, x1, x2, x3⟩ := K.tail.two
    go_wp2_with fail
    refine (h1 _).mono ?_; rintro e w1 ⟨rfl, hb1⟩
    replace K := K.below hb1; clear hb1 x0 x1 x2 x3
    obtain ⟨x0, x1, x2, x3⟩ := K.tail.two
    go_wp2_with fail
    refine (h2 _).mono ?_; rintro e w2 ⟨rfl, hb2⟩
    replace K := K.below hb2; clear hb2 x0 x1 x2 x3
    obtain ⟨x0, x1, x2, x3⟩ := K.tail.two
    go_wp2_with fail
    refine (h3 _).mono ?_; rintro e w3 ⟨rfl, hb3⟩
    replace K := K.below hb3; clear hb3 x0 x1 x2 x3
    obtain ⟨x0, x1, x2, x3⟩ := K.tail.two
    go_wp2_with fail
    refine (h4 _).mono ?_; rintro e w4 ⟨rfl, hb4⟩
    replace K := K.below hb4; clear hb4 x0 x1 x2 x3
    go_wp2_with fail
    refine (haw _).mono ?_; rintro e w5 ⟨rfl, hb5⟩
    replace K := K.below hb5
    go_wp2_with fail
    go_ret
    exact ⟨rfl, K.1⟩
  · go_enter Try.func5, Try.ntmps5
    obtain ⟨x0, x1, x2, x3⟩ := K.tail.two
    go_wp2_with fail
    refine (h1 _).mono ?_; rintro e w1 ⟨rfl, hb1⟩
    replace K := K.below hb1; clear hb1 x0 x1 x2 x3
    obtain ⟨x0, x1, x2, x3⟩ := K.tail.two
    go_wp2_with fail
    refine (h2 _).mono ?_; rintro e w2 ⟨rfl, hb2⟩
    replace K := K.below hb2; clear hb2 x0 x1 x2 x3
    obtain ⟨x0, x1, x2, x3⟩ := K.tail.two
    go_wp2_with fail
    refine (h3 _).mono ?_; rintro e w3 ⟨rfl, hb3⟩
    replace K := K.below hb3; clear hb3 x0 x1 x2 x3
    obtain ⟨x0, x1, x2, x3⟩ := K.tail.two
    go_wp2_with fail
    refine (h4 _).mono ?_; rintro e w4 ⟨rfl, hb4⟩
    replace K := K.below hb4; clear hb4 x0 x1 x2 x3
    obtain ⟨x0, x1, x2, x3⟩ := K.tail.two
    go_wp2_with fail
    refine (h5 _).mono ?_; rintro e w5 ⟨rfl, hb5⟩
    replace K := K.below hb5; clear hb5 x0 x1 x2 x3
    go_wp2_with fail
    refine (haw _).mono ?_; rintro e w6 ⟨rfl, hb6⟩
    replace K := K.below hb6
    go_wp2_with fail
    go_ret
    exact ⟨rfl, K.1⟩

theorem orders4_all (n d m f r s : Int) (w : World) :
    Calls Try.prog 5 #[.agg #[.int .i64 n, .int .i64 d], .agg #[.int .i64 m, .int .i64 f], .agg #[.int .i64 r, .int .i64 s]] w fun e w' => e = .returned (.bool true) ∧ Below w.heap.size w w' := by
  by_cases h : OkR n d ∧ OkR m f
  · exact orders4_ok n d m f r s h.1 h.2 r_awake w
  · exact orders4_no n d m f r s h r_awake w
end Go.Proofs.Ytkkioemlajagjaa
