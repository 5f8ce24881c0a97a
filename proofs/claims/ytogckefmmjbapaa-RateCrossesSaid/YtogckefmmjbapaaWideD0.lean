/-
  What wide's Int answers, for whatever wide numbers. No conditions besides.
-/
import Derived.Test.YtogckefmmjbapaaWideB
namespace Go.Proofs.Ytogckefmmjbapaa
open Go.RowKit
set_option linter.unusedSimpArgs false
set_option linter.unusedVariables false

theorem onebox' {w w1 : World} {p q : Value} {t : TypeId} (hb : Below (w.alloc (.cells #[p, q] t)).drew.heap.size (w.alloc (.cells #[p, q] t)).drew w1) :
    w1.cell? ⟨w.heap.size, 0, none⟩ = some p ∧ w1.cell? ⟨w.heap.size, 1, none⟩ = some q := by
  obtain ⟨bc, bf⟩ := bcell hb
  have hz : w.heap.size < (w.alloc (.cells #[p, q] t)).drew.heap.size := by show w.heap.size < (w.alloc (.cells #[p, q] t)).heap.size; simp
  refine ⟨(bc _ _ hz).trans ?_, (bc _ _ hz).trans ?_⟩ <;> simp [go_sem]

theorem wrap_vlo (x : Int) : wrap64 (vlo x) = wrap64 x := by unfold vlo wrap64; omega
theorem w64_inR (x : Int) : InR (wrap64 x) := by unfold wrap64 InR; omega
theorem vlo_w64 (x : Int) : vlo (wrap64 x) = vlo x := by unfold vlo wrap64; omega
theorem vhi_w64 {x : Int} (h : InV x) (h' : ¬ InR x) : ¬ vhi (wrap64 x) = vhi x := by rw [vhi_n (w64_inR x), vhi_v h]; unfold wrap64; unfold InV at h; unfold InR at h'; omega
theorem w64_in {x : Int} (h : InR x) : wrap64 x = x := by unfold wrap64; unfold InR at h; omega
theorem eq_wide (a b c d : Int) (w : World) : (Op.equalIn 10000 85 (.agg #[.int .i64 a, .int .u64 b]) (.agg #[.int .i64 c, .int .u64 d])).run Try.prog w = .ok (a == c && b == d) w := by
  simp [go_sem]
  by_cases h1 : a = c <;> by_cases h2 : b = d <;> simp [h1, h2]

set_option maxHeartbeats 400000 in
theorem w_int (x : Int) (hx : InV x) (w : World) :
    Calls Try.prog 61 #[.agg #[.int .i64 (vhi x), .int .u64 (vlo x)]] w fun e w' =>
      e = .returned (.tuple #[.int .i64 (tv x), .int .i64 (te x)]) ∧ Below w.heap.size w w' := by
  have hc := wrap_vlo x
  have hO := w_of (wrap64 x) (w64_inR x)
  rw [vlo_w64] at hO
  by_cases h : InR x
  · rw [tv_in h, te_in h]
    rw [w64_in h] at hc hO
    generalize vlo x = al at *; generalize vhi x = ah at *
    clear h hx
    go_enter Try.func61, Try.ntmps61
    go_wp2
    go_region_held3 (fun w' => w'.cell? ⟨w.heap.size, 0, none⟩ = some (.int .i64 ah) ∧ w'.cell? ⟨w.heap.size, 1, none⟩ = some (.int .u64 al)) (first | (exact onebox' hb1) | (simp [go_sem, World.cell?_alloc_past]))
      (first
        | (go_at_call 71; refine (hO _).mono ?_; rintro e w1 ⟨rfl, hb1⟩; obtain ⟨y0, y1⟩ := onebox' hb1))
    go_wp2
    go_ret2
    exact ⟨rfl, (below1 _ _).drew.trans (hb1.mono (by simp))⟩
  · rw [tv_out h, te_out h]
    have hne := vhi_w64 hx h
    generalize vlo x = al at *; generalize vhi x = ah at *; generalize vhi (wrap64 x) = bh at *; generalize wrap64 x = n at *
    clear h hx
    have he : (bh == ah) = false := by simpa using hne
    go_enter Try.func61, Try.ntmps61
    go_wp2
    go_region_held3 (fun w' => w'.cell? ⟨w.heap.size, 0, none⟩ = some (.int .i64 ah) ∧ w'.cell? ⟨w.heap.size, 1, none⟩ = some (.int .u64 al)) (first | (exact onebox' hb1) | (simp [go_sem, World.cell?_alloc_past]))
      (first
        | (go_at_call 71; refine (hO _).mono ?_; rintro e w1 ⟨rfl, hb1⟩; obtain ⟨y0, y1⟩ := onebox' hb1))
    go_wp2
    go_ret2
    exact ⟨rfl, (below1 _ _).drew.trans (hb1.mono (by simp))⟩
end Go.Proofs.Ytogckefmmjbapaa
