/-
  What ratio's own product and Same answer, for whatever rates (the product: of numbers in range). No conditions besides.
-/
import Derived.Test.YtkkioemlajagjaaRatB
import Derived.Test.YtkkioemlajagjaaWideD1
import Derived.Deep.DeepCutAuto
import Derived.Deep.RegionWith
namespace Go.Proofs.Ytkkioemlajagjaa
open Go.RowKit
set_option linter.unusedSimpArgs false
set_option linter.unusedVariables false

theorem ret_bool {a b : Bool} (h : a = b) : Ending.returned (.bool a) = .returned (.bool b) := by rw [h]
theorem eq_ratio (a b c d : Int) (w : World) : (Op.equalIn 10000 23 (.agg #[.int .i64 a, .int .i64 b]) (.agg #[.int .i64 c, .int .i64 d])).run Try.prog w = .ok (a == c && b == d) w := by
  simp [go_sem]
  by_cases h1 : a = c <;> by_cases h2 : b = d <;> simp [h1, h2]

set_option maxHeartbeats 2000000 in
theorem c_product (n d : Int) (hn : InR n) (hd : InR d) (w : World) :
    Calls Try.prog 28 #[.agg #[.int .i64 n, .int .i64 d]] w fun e w' => e = .returned (.agg #[.int .i64 (vhi (n * d)), .int .u64 (vlo (n * d))]) ∧ Below w.heap.size w w' := by
  have hM := w_mul n d hn hd
  have K := ((Keeps.start w).new (.int .i64 n) (.int .i64 d) 54).alloc (.cells #[.int .i64 0, .int .u64 0] 68)
  have HO := Lib.hid (Ow2.new2 w (.cells #[.int .i64 n, .int .i64 d] 54) (.int .i64 0) (.int .u64 0) 68)
  generalize vhi (n * d) = a at *; generalize vlo (n * d) = b at *
  clear hn hd
  go_enter Try.func28, Try.ntmps28
  go_wp2_with fail
  refine (hM _).mono ?_; rintro e w0 ⟨rfl, hb0⟩
  replace K := K.below hb0
  obtain ⟨⟨o0, o1, o2⟩, f1, f2⟩ := HO.out.below hb0
  go_wp2_with fail
  refine bodyPost_ret (v := .agg #[.int .i64 a, .int .u64 b]) (by simp [results, Try.results28, go_sem, o0, o1]) rfl ⟨rfl, ?_⟩
  exact below_set2 K.1 (by omega)

set_option maxHeartbeats 2000000 in
theorem c_same (n d m f : Int) (w : World) :
    Calls Try.prog 11 #[.agg #[.int .i64 n, .int .i64 d], .agg #[.int .i64 m, .int .i64 f]] w fun e w' => e = .returned (.bool (sameB n d m f)) ∧ Below w.heap.size w w' := by
  rw [← same_code]
  have h1 := c_norm n d; have h2 := c_norm m f
  have K := (Keeps.start w).new2 (.int .i64 n) (.int .i64 d) (.int .i64 m) (.int .i64 f) 23 23
  generalize normn n d = a at *; generalize normd n d = b at *
  generalize normn m f = a' at *; generalize normd m f = b' at *
  have hE : (a' = a ∧ b' = b ∧ ((a = 0 ∧ b = 0) ∨ (a = 0 ∧ (b == 0) = false) ∨ (a == 0) = false)) ∨ (a == a') = false ∨ (a' = a ∧ (b == b') = false) := by
    by_cases h : a' = a
    · by_cases h' : b' = b
      · refine Or.inl ⟨h, h', ?_⟩
        by_cases h0 : a = 0
        · by_cases h1 : b = 0
          · exact Or.inl ⟨h0, h1⟩
          · exact Or.inr (Or.inl ⟨h0, by simpa using h1⟩)
        · exact Or.inr (Or.inr (by simpa using h0))
      · exact Or.inr (Or.inr ⟨h, by simpa using fun k => h' k.symm⟩)
    · exact Or.inr (Or.inl (by simpa using fun k => h k.symm))
  rcases hE with ⟨rfl, rfl, ⟨rfl, rfl⟩ | ⟨rfl, hz⟩ | hz⟩ | hz | ⟨rfl, hz⟩
  all_goals go_enter Try.func11, Try.ntmps11
  all_goals go_wp2_with fail
  all_goals (refine (h1 _).mono ?_; rintro e w1 ⟨rfl, hb1⟩)
  all_goals replace K := K.below hb1
  all_goals clear hb1
  · replace K := K.new (.int .i64 0) (.int .i64 0) 23
    go_wp2_with fail
    go_region_held3 (fun w' => w'.cell? ⟨w1.heap.size, 0, none⟩ = some (.int .i64 0) ∧ w'.cell? ⟨w1.heap.size, 1, none⟩ = some (.int .i64 0) ∧ w'.cell? ⟨w.heap.size + 1, 0, none⟩ = some (.int .i64 m) ∧ w'.cell? ⟨w.heap.size + 1, 1, none⟩ = some (.int .i64 f))
      (first | (exact K.two) | (exact K.drew.two))
      (first
        | (go_at_call 9; refine (h2 _).mono ?_; rintro e wn ⟨rfl, hbn⟩; (first | replace K := K.below hbn | replace K := K.drew.below hbn); obtain ⟨z0, z1, z2, z3⟩ := K.two))
    go_wp2_with fail
    go_ret
    exact ⟨ret_bool (by simp), K.1⟩
  · replace K := K.new (.int .i64 0) (.int .i64 b') 23
    go_wp2_with fail
    go_region_held3 (fun w' => w'.cell? ⟨w1.heap.size, 0, none⟩ = some (.int .i64 0) ∧ w'.cell? ⟨w1.heap.size, 1, none⟩ = some (.int .i64 b') ∧ w'.cell? ⟨w.heap.size + 1, 0, none⟩ = some (.int .i64 m) ∧ w'.cell? ⟨w.heap.size + 1, 1, none⟩ = some (.int .i64 f))
      (first | (exact K.two) | (exact K.drew.two))
      (first
        | (go_at_call 9; refine (h2 _).mono ?_; rintro e wn ⟨rfl, hbn⟩; (first | replace K := K.below hbn | replace K := K.drew.below hbn); obtain ⟨z0, z1, z2, z3⟩ := K.two))
    go_wp2_with fail
    go_ret
    exact ⟨ret_bool (by simp [hz]), K.1⟩
  · replace K := K.new (.int .i64 a') (.int .i64 b') 23
    go_wp2_with fail
    go_region_held3 (fun w' => w'.cell? ⟨w1.heap.size, 0, none⟩ = some (.int .i64 a') ∧ w'.cell? ⟨w1.heap.size, 1, none⟩ = some (.int .i64 b') ∧ w'.cell? ⟨w.heap.size + 1, 0, none⟩ = some (.int .i64 m) ∧ w'.cell? ⟨w.heap.size + 1, 1, none⟩ = some (.int .i64 f))
      (first | (exact K.two) | (exact K.drew.two))
      (first
        | (go_at_call 9; refine (h2 _).mono ?_; rintro e wn ⟨rfl, hbn⟩; (first | replace K := K.below hbn | replace K := K.drew.below hbn); obtain ⟨z0, z1, z2, z3⟩ := K.two))
    go_wp2_with fail
    go_ret
    exact ⟨ret_bool (by simp [hz]), K.1⟩
  · replace K := K.new (.int .i64 a) (.int .i64 b) 23
    go_wp2_with fail
    obtain ⟨z0, z1, z2, z3⟩ := K.two
    first
      | go_region_with
          (first
            | (go_at_call 9; refine (h2 _).mono ?_; rintro e wn ⟨rfl, hbn⟩; (first | replace K := K.below hbn | replace K := K.drew.below hbn); obtain ⟨z0, z1, z2, z3⟩ := K.two))
      | fail
    all_goals go_wp2_with fail
    all_goals go_ret
    all_goals exact ⟨ret_bool (by simp [hz]), K.1⟩
  · replace K := K.new (.int .i64 a') (.int .i64 b) 23
    go_wp2_with fail
    obtain ⟨z0, z1, z2, z3⟩ := K.two
    first
      | go_region_with
          (first
            | (go_at_call 9; refine (h2 _).mono ?_; rintro e wn ⟨rfl, hbn⟩; (first | replace K := K.below hbn | replace K := K.drew.below hbn); obtain ⟨z0, z1, z2, z3⟩ := K.two))
      | fail
    all_goals go_wp2_with fail
    all_goals go_ret
    all_goals exact ⟨ret_bool (by simp [hz]), K.1⟩
end Go.Proofs.Ytkkioemlajagjaa
