/-
  Words for InternBack of layer 8: structs of four numbers. No Go function is walked here.
-/
import Derived.Test.YtjanbaecgldjkaaIntB0
namespace Go.Proofs.Ytjanbaecgldjkaa
open Go.RowKit
set_option linter.unusedSimpArgs false
set_option linter.unusedVariables false

abbrev K4 := Int × Int × Int × Int
def cells4 (s : K4) : List Value := [.int .i64 s.1, .int .i64 s.2.1, .int .i64 s.2.2.1, .int .i64 s.2.2.2]
def enc4 (s : K4) : Value := .agg #[.int .i64 s.1, .int .i64 s.2.1, .int .i64 s.2.2.1, .int .i64 s.2.2.2]
def ok4 (s : K4) : Prop := InR s.1 ∧ InR s.2.1 ∧ InR s.2.2.1 ∧ InR s.2.2.2
def row4 (P : List K4) : List Value := P.flatMap cells4
theorem row4_len (P : List K4) : (row4 P).length = P.length * 4 := by
  induction P with
  | nil => rfl
  | cons a P ih => simp only [row4, List.flatMap_cons, List.length_append, List.length_cons] at ih ⊢; rw [ih]; simp [cells4]; omega
theorem row4_app (P : List K4) (s : K4) : row4 P ++ cells4 s = row4 (P ++ [s]) := by simp [row4]
theorem row4_one (P : List K4) : ∀ u ∈ row4 P, u.oneCell' = true := by
  intro u hu
  obtain ⟨s, _, h⟩ := List.mem_flatMap.1 hu
  simp [cells4] at h
  rcases h with rfl | rfl | rfl | rfl <;> rfl
theorem cells4_one (s : K4) : ∀ u ∈ cells4 s, u.oneCell' = true := by
  intro u h
  simp [cells4] at h
  rcases h with rfl | rfl | rfl | rfl <;> rfl
theorem row4_at : ∀ (P : List K4) (i j : Nat), i < P.length → j < 4 → (row4 P)[i * 4 + j]? = (cells4 (P.getD i (0, 0, 0, 0)))[j]?
  | [], i, j, h, _ => by cases h
  | a :: P, 0, j, _, hj => by
    show (cells4 a ++ row4 P)[0 * 4 + j]? = _
    rw [List.getElem?_append_left (by simp [cells4]; omega)]; simp
  | a :: P, i + 1, j, h, hj => by
    show (cells4 a ++ row4 P)[(i + 1) * 4 + j]? = _
    rw [List.getElem?_append_right (by simp [cells4]; omega)]
    have := row4_at P i j (by simpa using h) hj
    simp only [List.getD_cons_succ]
    rw [← this]
    congr 1
    simp [cells4]; omega
theorem eq_stake (a b c d a' b' c' d' : Int) (w : World) : (Op.equalIn 10000 24 (.agg #[.int .i64 a, .int .i64 b, .int .i64 c, .int .i64 d]) (.agg #[.int .i64 a', .int .i64 b', .int .i64 c', .int .i64 d'])).run Try.prog w = .ok (a == a' && (b == b' && (c == c' && d == d'))) w := by
  simp [go_sem]
  by_cases h1 : a = a' <;> by_cases h2 : b = b' <;> by_cases h3 : c = c' <;> by_cases h4 : d = d' <;> simp [h1, h2, h3, h4]

/-- A new block of four cells, and what is laid behind it. -/
theorem new4 {w w' : World} {s : K4} (h : Below (w.alloc (.cells #[.int .i64 s.1, .int .i64 s.2.1, .int .i64 s.2.2.1, .int .i64 s.2.2.2] 24)).heap.size (w.alloc (.cells #[.int .i64 s.1, .int .i64 s.2.1, .int .i64 s.2.2.1, .int .i64 s.2.2.2] 24)) w') :
    w'.cell? ⟨w.heap.size, 0, none⟩ = some (.int .i64 s.1) ∧ w'.cell? ⟨w.heap.size, 1, none⟩ = some (.int .i64 s.2.1) ∧ w'.cell? ⟨w.heap.size, 2, none⟩ = some (.int .i64 s.2.2.1) ∧ w'.cell? ⟨w.heap.size, 3, none⟩ = some (.int .i64 s.2.2.2) := by
  have hs : w.heap.size < (w.alloc (.cells #[.int .i64 s.1, .int .i64 s.2.1, .int .i64 s.2.2.1, .int .i64 s.2.2.2] 24)).heap.size := by simp
  have hn := heap_alloc_new w (.cells #[.int .i64 s.1, .int .i64 s.2.1, .int .i64 s.2.2.1, .int .i64 s.2.2.2] 24)
  refine ⟨(h.cell (p := ⟨w.heap.size, 0, none⟩) hs).trans ?_, (h.cell (p := ⟨w.heap.size, 1, none⟩) hs).trans ?_, (h.cell (p := ⟨w.heap.size, 2, none⟩) hs).trans ?_, (h.cell (p := ⟨w.heap.size, 3, none⟩) hs).trans ?_⟩ <;> · unfold World.cell?; rw [hn]; rfl
theorem stake_info : (Try.prog.info? 24).map (fun i => (i.zero, i.size, i.bytes)) = some (some (.agg #[.int .i64 0, .int .i64 0, .int .i64 0, .int .i64 0]), 4, 32) := by kernel_rfl
theorem one4 (w : World) (s : K4) : SlC (w.alloc (.cells #[.int .i64 s.1, .int .i64 s.2.1, .int .i64 s.2.2.1, .int .i64 s.2.2.2] 24)) (.slice (some ⟨w.heap.size, 0, none⟩) 1 1) 4 1 (cells4 s) :=
  ownsRow_slc (World.ownsRow_lit (base := w.heap.size) (e := 24) (size := 4) w #[.int .i64 s.1, .int .i64 s.2.1, .int .i64 s.2.2.1, .int .i64 s.2.2.2] 1 (Nat.le_refl _) (by unfold maxLen; omega) rfl)
end Go.Proofs.Ytjanbaecgldjkaa
