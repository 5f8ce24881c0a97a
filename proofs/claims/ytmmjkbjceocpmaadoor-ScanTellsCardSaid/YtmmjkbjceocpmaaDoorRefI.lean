/-
  What the document's own Int and Told (of gavelkindref01) do: the number, if it is in range. The condition: at most 900 digits.
-/
import Derived.Test.YtmmjkbjceocpmaaDoorRefH
namespace Go.Proofs.YtmmjkbjceocpmaaDoor
open Go.RowKit
set_option linter.unusedVariables false

theorem lt_pow10 (m : Nat) : m < 10 ^ (digs m).length := by
  have := dval_lt (digs m) (digs_ok m)
  rw [dval_digs] at this
  have e : ((10 : Int) ^ (digs m).length) = ((10 ^ (digs m).length : Nat) : Int) := by simp
  rw [e] at this
  omega
theorem digs_len_add {m n k : Nat} (hm : (digs m).length ≤ k) (hn : (digs n).length ≤ k) : (digs (m + n)).length ≤ k + 1 := by
  refine digs_len _ _ ?_
  have h1 := lt_pow10 m
  have h2 := lt_pow10 n
  have h3 : 10 ^ (digs m).length ≤ 10 ^ k := Nat.pow_le_pow_right (by omega) hm
  have h4 : 10 ^ (digs n).length ≤ 10 ^ k := Nat.pow_le_pow_right (by omega) hn
  rw [Nat.pow_succ]
  omega
theorem digs_len_plus {x y : Int} {k : Nat} (hx : (digs x.natAbs).length ≤ k) (hy : (digs y.natAbs).length ≤ k) : (digs (x + y).natAbs).length ≤ k + 1 :=
  Nat.le_trans (digs_len_mono (by omega)) (digs_len_add hx hy)
theorem digs_len_minus {x y : Int} {k : Nat} (hx : (digs x.natAbs).length ≤ k) (hy : (digs y.natAbs).length ≤ k) : (digs (x - y).natAbs).length ≤ k + 1 :=
  Nat.le_trans (digs_len_mono (by omega)) (digs_len_add hx hy)

/-- The least and the greatest number. -/
def lst : Int := -9223372036854775808
def mst : Int := 9223372036854775807
theorem lst_in : InR lst := by unfold InR lst; omega
theorem mst_in : InR mst := by unfold InR mst; omega

theorem len_sub (x y : Int) (hx : (digs x.natAbs).length ≤ 900) (hy : InR y) : (digs (x - y).natAbs).length ≤ 2000 :=
  Nat.le_trans (digs_len_minus hx (k := 900) (by have := digs_19 hy; omega)) (by omega)

theorem box1 {w w1 : World} {p q : Value} {t : TypeId} (hb : Below (w.alloc (.cells #[p, q] t)).drew.heap.size (w.alloc (.cells #[p, q] t)).drew w1) :
    w1.cell? ⟨w.heap.size, 0, none⟩ = some p ∧ w1.cell? ⟨w.heap.size, 1, none⟩ = some q := by
  obtain ⟨bc, bf⟩ := bcell hb
  have hz : w.heap.size < (w.alloc (.cells #[p, q] t)).drew.heap.size := by show w.heap.size < (w.alloc (.cells #[p, q] t)).heap.size; simp
  refine ⟨(bc _ _ hz).trans ?_, (bc _ _ hz).trans ?_⟩ <;> simp [go_sem]

set_option maxHeartbeats 2000000 in
theorem int_lo (v : Value) (x : Int) (w : World) (hv : Big w v x) (hl : (digs x.natAbs).length ≤ 900) (h : x < lst) :
    Calls Tryd.prog 50 #[v] w fun e w' => e = .returned (.tuple #[.int .i64 0, .bool false]) ∧ Below w.heap.size w w' := by
  obtain ⟨a, c, rfl⟩ := hv.form
  generalize hsx : decide (x < 0) = sx at *
  have HS := Lib.hid hsx; clear hsx
  have hb0 : Below w.heap.size w (w.alloc (.cells #[.bool sx, .slice a (digs x.natAbs).length c] 56)).drew := ((Below.refl _ _).alloc (Nat.le_refl _) _).drew
  have hOf := of_any lst lst_in (w.alloc (.cells #[.bool sx, .slice a (digs x.natAbs).length c] 56)).drew
  have hC := fun w1 r1 (hb : Below (w.alloc (.cells #[.bool sx, .slice a (digs x.natAbs).length c] 56)).drew.heap.size _ w1) (hr : Big w1 r1 lst) =>
    bcmp _ r1 x lst w1 ((hv.below hb0).below hb) hr (by omega) (by have := digs_19 lst_in; omega) (len_sub x lst hl lst_in)
  rw [show cmpv x lst = -1 by unfold cmpv; rw [if_pos h]] at hC
  unfold lst at hOf
  clear hv h
  go_enter Tryd.func50, Tryd.ntmps50
  go_wp2
  go_region_with (first
      | (go_at_call 25; refine hOf.mono ?_; rintro e w1 ⟨r1, rfl, hr1, hb1⟩; obtain ⟨d0, d1⟩ := box1 hb1)
      | (go_at_call 55; refine (hC _ _ hb1 hr1).mono ?_; rintro e w2 ⟨rfl, hb2⟩; obtain ⟨e0, e1⟩ := box1 (hb1.trans (hb2.mono hb1.size))))
  all_goals go_wp2
  all_goals go_ret2
  all_goals exact ⟨rfl, hb0.trans ((hb1.trans (hb2.mono hb1.size)).mono (Nat.le_trans hb0.size (Nat.le_refl _)))⟩

theorem dval_drop_le (D : List Int) (h : Digs D) (k : Nat) : 0 ≤ dval (D.drop k) ∧ dval (D.drop k) ≤ dval D := by
  have hd : Digs (D.drop k) := fun d hx => h d (List.mem_of_mem_drop hx)
  have h0 := dval_nonneg _ hd
  refine ⟨h0, ?_⟩
  by_cases hk : k ≤ D.length
  · have e : dval D = dval (D.take k) + 10 ^ k * dval (D.drop k) := by
      have := dval_append (D.take k) (D.drop k)
      rwa [List.take_append_drop, List.length_take, Nat.min_eq_left hk] at this
    have h1 := dval_nonneg _ (h.take k)
    have h2 : 1 * dval (D.drop k) ≤ 10 ^ k * dval (D.drop k) := Int.mul_le_mul_of_nonneg_right (by have := pow_pos10 k; omega) h0
    omega
  · rw [List.drop_eq_nil_of_le (by omega)]; exact dval_nonneg _ h
theorem dval_drop (D : List Int) (j : Nat) (h : j < D.length) : dval (D.drop j) = D.getD j 0 + 10 * dval (D.drop (j + 1)) := by
  rw [List.drop_eq_getElem_cons h, dval]; simp [List.getD, h]

theorem cell_drew {w : World} {a : Addr} {v : Value} (h : w.cell? a = some v) : w.drew.cell? a = some v := h

set_option maxHeartbeats 4000000 in
theorem int_hi (v : Value) (x : Int) (w : World) (hv : Big w v x) (hl : (digs x.natAbs).length ≤ 900) (h : ¬ x < lst) (h' : mst < x) :
    Calls Tryd.prog 50 #[v] w fun e w' => e = .returned (.tuple #[.int .i64 0, .bool false]) ∧ Below w.heap.size w w' := by
  obtain ⟨a, c, rfl⟩ := hv.form
  generalize hsx : decide (x < 0) = sx at *
  have HS := Lib.hid hsx; clear hsx
  have hb0 : Below w.heap.size w (w.alloc (.cells #[.bool sx, .slice a (digs x.natAbs).length c] 56)).drew := ((Below.refl _ _).alloc (Nat.le_refl _) _).drew
  have hOf := of_any lst lst_in (w.alloc (.cells #[.bool sx, .slice a (digs x.natAbs).length c] 56)).drew
  have hOm := fun w2 => of_any mst mst_in w2
  obtain ⟨cm, hcm, hcm0⟩ : ∃ cm, cm = cmpv x lst ∧ ¬ cm < 0 := ⟨_, rfl, by unfold cmpv; rw [if_neg h]; split <;> omega⟩
  have hC := fun w1 r1 (hb : Below (w.alloc (.cells #[.bool sx, .slice a (digs x.natAbs).length c] 56)).drew.heap.size _ w1) (hr : Big w1 r1 lst) =>
    bcmp _ r1 x lst w1 ((hv.below hb0).below hb) hr (by omega) (by have := digs_19 lst_in; omega) (len_sub x lst hl lst_in)
  rw [← hcm] at hC
  have hC' := fun w1 r1 (hb : Below (w.alloc (.cells #[.bool sx, .slice a (digs x.natAbs).length c] 56)).drew.heap.size _ w1) (hr : Big w1 r1 mst) =>
    bcmp _ r1 x mst w1 ((hv.below hb0).below hb) hr (by omega) (by have := digs_19 mst_in; omega) (len_sub x mst hl mst_in)
  rw [show cmpv x mst = 1 by unfold cmpv; rw [if_neg (by omega), if_pos h']] at hC'
  have hcd : decide (cm < 0) = false := by simpa using hcm0
  unfold lst at hOf
  unfold mst at hOm
  clear hv h h' hcm hcm0
  go_enter Tryd.func50, Tryd.ntmps50
  go_wp2
  go_region_held3 (fun w' => w'.cell? ⟨w.heap.size, 0, none⟩ = some (.bool sx) ∧ w'.cell? ⟨w.heap.size, 1, none⟩ = some (.slice a (digs x.natAbs).length c)) (first | (exact ⟨d0, d1⟩) | (exact ⟨e0, e1⟩) | (exact ⟨i0, i1⟩) | (exact ⟨j0, j1⟩) | (simp [go_sem]))
    (first
      | (go_at_call 25; (with_reducible refine hOf.mono ?_); rintro e w1 ⟨r1, rfl, hr1, hb1⟩; obtain ⟨d0, d1⟩ := box1 hb1)
      | (go_at_call 55; (with_reducible refine (hC _ _ hb1 hr1).mono ?_); rintro e w2 ⟨rfl, hb2⟩; have hb12 := hb1.trans (hb2.mono hb1.size); obtain ⟨e0, e1⟩ := box1 hb12)
      | (go_at_call 25; (with_reducible refine (hOm _).mono ?_); rintro e w3 ⟨r3, rfl, hr3, hb3⟩; have hb13 := hb12.trans (hb3.mono hb12.size); obtain ⟨i0, i1⟩ := box1 hb13)
      | (go_at_call 55; (with_reducible refine (hC' _ _ hb13 hr3).mono ?_); rintro e w4 ⟨rfl, hb4⟩; have hb14 := hb13.trans (hb4.mono hb13.size); obtain ⟨j0, j1⟩ := box1 hb14))
  go_wp2
  go_ret2
  exact ⟨rfl, hb0.trans (hb14.mono hb0.size)⟩
end Go.Proofs.YtmmjkbjceocpmaaDoor
