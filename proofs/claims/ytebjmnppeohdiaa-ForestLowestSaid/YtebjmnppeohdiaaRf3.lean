/-
  What the document's own Int and Told (of gavelkindref01) do: the number, if it is in range. The condition: at most 900 digits. What the document's own Int (of gavelkindref01) does: the number, if it is in range. The condition: at most 900 digits. What the document's own Times (of gavelkindref01) does: the product of two whole numbers. The condition: at most 600 digits and 400 digits. What the document's own Times (of gavelkindref01) does: the product of two whole numbers. The condition: at most 600 digits and 400 digits. What the document's own Div (of gavelkindref01) does: the quotient, rounded down, and what is left, of a whole number and one above 0. The condition: at most 400 digits each.
-/
import Derived.Test.YtebjmnppeohdiaaRf2
namespace Go.Proofs.Ytebjmnppeohdiaa
open Go.RowKit
set_option linter.unusedVariables false

/- What the document's own Int and Told (of gavelkindref01) do: the number, if it is in range. The condition: at most 900 digits. -/
theorem lt_pow10 (m : Nat) : m < 10 ^ (digs m).length := by
  have := dval_lt (digs m) (digs_ok m)
  rw [dval_digs] at this
  have e : ((10 : Int) ^ (digs m).length) = ((10 ^ (digs m).length : Nat) : Int) := by simp
  rw [e] at this
  omega
theorem digs_len_add {m n k : Nat} (hm : (digs m).length ≤ k) (hn : (digs n).length ≤ k) : (digs (m + n)).length ≤ k + 1 := by
  refine digs_len _ _ ?_
  have h1 := lt_pow10 m
  have h2 := lt_pow10 n
  have h3 : 10 ^ (digs m).length ≤ 10 ^ k := Nat.pow_le_pow_right (by omega) hm
  have h4 : 10 ^ (digs n).length ≤ 10 ^ k := Nat.pow_le_pow_right (by omega) hn
  rw [Nat.pow_succ]
  omega
theorem digs_len_plus {x y : Int} {k : Nat} (hx : (digs x.natAbs).length ≤ k) (hy : (digs y.natAbs).length ≤ k) : (digs (x + y).natAbs).length ≤ k + 1 :=
  Nat.le_trans (digs_len_mono (by omega)) (digs_len_add hx hy)
theorem digs_len_minus {x y : Int} {k : Nat} (hx : (digs x.natAbs).length ≤ k) (hy : (digs y.natAbs).length ≤ k) : (digs (x - y).natAbs).length ≤ k + 1 :=
  Nat.le_trans (digs_len_mono (by omega)) (digs_len_add hx hy)

/-- The least and the greatest number. -/
def lst : Int := -9223372036854775808
def mst : Int := 9223372036854775807
theorem lst_in : InR lst := by unfold InR lst; omega
theorem mst_in : InR mst := by unfold InR mst; omega

theorem len_sub (x y : Int) (hx : (digs x.natAbs).length ≤ 900) (hy : InR y) : (digs (x - y).natAbs).length ≤ 2000 :=
  Nat.le_trans (digs_len_minus hx (k := 900) (by have := digs_19 hy; omega)) (by omega)

theorem box1 {w w1 : World} {p q : Value} {t : TypeId} (hb : Below (w.alloc (.cells #[p, q] t)).drew.heap.size (w.alloc (.cells #[p, q] t)).drew w1) :
    w1.cell? ⟨w.heap.size, 0, none⟩ = some p ∧ w1.cell? ⟨w.heap.size, 1, none⟩ = some q := by
  obtain ⟨bc, bf⟩ := bcell hb
  have hz : w.heap.size < (w.alloc (.cells #[p, q] t)).drew.heap.size := by show w.heap.size < (w.alloc (.cells #[p, q] t)).heap.size; simp
  refine ⟨(bc _ _ hz).trans ?_, (bc _ _ hz).trans ?_⟩ <;> simp [go_sem]

set_option maxHeartbeats 2000000 in
theorem int_lo (v : Value) (x : Int) (w : World) (hv : Big w v x) (hl : (digs x.natAbs).length ≤ 900) (h : x < lst) :
    Calls Try.prog 68 #[v] w fun e w' => e = .returned (.tuple #[.int .i64 0, .bool false]) ∧ Below w.heap.size w w' := by
  obtain ⟨a, c, rfl⟩ := hv.form
  generalize hsx : decide (x < 0) = sx at *
  have HS := Lib.hid hsx; clear hsx
  have hb0 : Below w.heap.size w (w.alloc (.cells #[.bool sx, .slice a (digs x.natAbs).length c] 88)).drew := ((Below.refl _ _).alloc (Nat.le_refl _) _).drew
  have hOf := of_any lst lst_in (w.alloc (.cells #[.bool sx, .slice a (digs x.natAbs).length c] 88)).drew
  have hC := fun w1 r1 (hb : Below (w.alloc (.cells #[.bool sx, .slice a (digs x.natAbs).length c] 88)).drew.heap.size _ w1) (hr : Big w1 r1 lst) =>
    bcmp _ r1 x lst w1 ((hv.below hb0).below hb) hr (by omega) (by have := digs_19 lst_in; omega) (len_sub x lst hl lst_in)
  rw [show cmpv x lst = -1 by unfold cmpv; rw [if_pos h]] at hC
  unfold lst at hOf
  clear hv h
  go_enter Try.func68, Try.ntmps68
  go_wp2
  go_region_with (first
      | (go_at_call 59; refine hOf.mono ?_; rintro e w1 ⟨r1, rfl, hr1, hb1⟩; obtain ⟨d0, d1⟩ := box1 hb1)
      | (go_at_call 67; refine (hC _ _ hb1 hr1).mono ?_; rintro e w2 ⟨rfl, hb2⟩; obtain ⟨e0, e1⟩ := box1 (hb1.trans (hb2.mono hb1.size))))
  all_goals go_wp2
  all_goals go_ret2
  all_goals exact ⟨rfl, hb0.trans ((hb1.trans (hb2.mono hb1.size)).mono (Nat.le_trans hb0.size (Nat.le_refl _)))⟩

theorem dval_drop_le (D : List Int) (h : Digs D) (k : Nat) : 0 ≤ dval (D.drop k) ∧ dval (D.drop k) ≤ dval D := by
  have hd : Digs (D.drop k) := fun d hx => h d (List.mem_of_mem_drop hx)
  have h0 := dval_nonneg _ hd
  refine ⟨h0, ?_⟩
  by_cases hk : k ≤ D.length
  · have e : dval D = dval (D.take k) + 10 ^ k * dval (D.drop k) := by
      have := dval_append (D.take k) (D.drop k)
      rwa [List.take_append_drop, List.length_take, Nat.min_eq_left hk] at this
    have h1 := dval_nonneg _ (h.take k)
    have h2 : 1 * dval (D.drop k) ≤ 10 ^ k * dval (D.drop k) := Int.mul_le_mul_of_nonneg_right (by have := pow_pos10 k; omega) h0
    omega
  · rw [List.drop_eq_nil_of_le (by omega)]; exact dval_nonneg _ h
theorem dval_drop (D : List Int) (j : Nat) (h : j < D.length) : dval (D.drop j) = D.getD j 0 + 10 * dval (D.drop (j + 1)) := by
  rw [List.drop_eq_getElem_cons h, dval]; simp [List.getD, h]

theorem cell_drew {w : World} {a : Addr} {v : Value} (h : w.cell? a = some v) : w.drew.cell? a = some v := h

set_option maxHeartbeats 4000000 in
theorem int_hi (v : Value) (x : Int) (w : World) (hv : Big w v x) (hl : (digs x.natAbs).length ≤ 900) (h : ¬ x < lst) (h' : mst < x) :
    Calls Try.prog 68 #[v] w fun e w' => e = .returned (.tuple #[.int .i64 0, .bool false]) ∧ Below w.heap.size w w' := by
  obtain ⟨a, c, rfl⟩ := hv.form
  generalize hsx : decide (x < 0) = sx at *
  have HS := Lib.hid hsx; clear hsx
  have hb0 : Below w.heap.size w (w.alloc (.cells #[.bool sx, .slice a (digs x.natAbs).length c] 88)).drew := ((Below.refl _ _).alloc (Nat.le_refl _) _).drew
  have hOf := of_any lst lst_in (w.alloc (.cells #[.bool sx, .slice a (digs x.natAbs).length c] 88)).drew
  have hOm := fun w2 => of_any mst mst_in w2
  obtain ⟨cm, hcm, hcm0⟩ : ∃ cm, cm = cmpv x lst ∧ ¬ cm < 0 := ⟨_, rfl, by unfold cmpv; rw [if_neg h]; split <;> omega⟩
  have hC := fun w1 r1 (hb : Below (w.alloc (.cells #[.bool sx, .slice a (digs x.natAbs).length c] 88)).drew.heap.size _ w1) (hr : Big w1 r1 lst) =>
    bcmp _ r1 x lst w1 ((hv.below hb0).below hb) hr (by omega) (by have := digs_19 lst_in; omega) (len_sub x lst hl lst_in)
  rw [← hcm] at hC
  have hC' := fun w1 r1 (hb : Below (w.alloc (.cells #[.bool sx, .slice a (digs x.natAbs).length c] 88)).drew.heap.size _ w1) (hr : Big w1 r1 mst) =>
    bcmp _ r1 x mst w1 ((hv.below hb0).below hb) hr (by omega) (by have := digs_19 mst_in; omega) (len_sub x mst hl mst_in)
  rw [show cmpv x mst = 1 by unfold cmpv; rw [if_neg (by omega), if_pos h']] at hC'
  have hcd : decide (cm < 0) = false := by simpa using hcm0
  unfold lst at hOf
  unfold mst at hOm
  clear hv h h' hcm hcm0
  go_enter Try.func68, Try.ntmps68
  go_wp2
  go_region_held3 (fun w' => w'.cell? ⟨w.heap.size, 0, none⟩ = some (.bool sx) ∧ w'.cell? ⟨w.heap.size, 1, none⟩ = some (.slice a (digs x.natAbs).length c)) (first | (exact ⟨d0, d1⟩) | (exact ⟨e0, e1⟩) | (exact ⟨i0, i1⟩) | (exact ⟨j0, j1⟩) | (simp [go_sem]))
    (first
      | (go_at_call 59; (with_reducible refine hOf.mono ?_); rintro e w1 ⟨r1, rfl, hr1, hb1⟩; obtain ⟨d0, d1⟩ := box1 hb1)
      | (go_at_call 67; (with_reducible refine (hC _ _ hb1 hr1).mono ?_); rintro e w2 ⟨rfl, hb2⟩; have hb12 := hb1.trans (hb2.mono hb1.size); obtain ⟨e0, e1⟩ := box1 hb12)
      | (go_at_call 59; (with_reducible refine (hOm _).mono ?_); rintro e w3 ⟨r3, rfl, hr3, hb3⟩; have hb13 := hb12.trans (hb3.mono hb12.size); obtain ⟨i0, i1⟩ := box1 hb13)
      | (go_at_call 67; (with_reducible refine (hC' _ _ hb13 hr3).mono ?_); rintro e w4 ⟨rfl, hb4⟩; have hb14 := hb13.trans (hb4.mono hb13.size); obtain ⟨j0, j1⟩ := box1 hb14))
  go_wp2
  go_ret2
  exact ⟨rfl, hb0.trans (hb14.mono hb0.size)⟩
/- What the document's own Int (of gavelkindref01) does: the number, if it is in range. The condition: at most 900 digits. -/
set_option maxHeartbeats 4000000 in
theorem int_in (v : Value) (x : Int) (w : World) (hv : Big w v x) (hl : (digs x.natAbs).length ≤ 900) (h : ¬ x < lst) (h' : ¬ mst < x) :
    Calls Try.prog 68 #[v] w fun e w' => e = .returned (.tuple #[.int .i64 x, .bool true]) ∧ Below w.heap.size w w' := by
  obtain ⟨a, c, rfl⟩ := hv.form
  generalize hsx : decide (x < 0) = sx at *
  have HS := Lib.hid hsx; clear hsx
  have hb0 : Below w.heap.size w (w.alloc (.cells #[.bool sx, .slice a (digs x.natAbs).length c] 88)).drew := ((Below.refl _ _).alloc (Nat.le_refl _) _).drew
  have hOf := of_any lst lst_in (w.alloc (.cells #[.bool sx, .slice a (digs x.natAbs).length c] 88)).drew
  have hOm := fun w2 => of_any mst mst_in w2
  obtain ⟨cm, hcm, hcm0⟩ : ∃ cm, cm = cmpv x lst ∧ ¬ cm < 0 := ⟨_, rfl, by unfold cmpv; rw [if_neg h]; split <;> omega⟩
  have hC := fun w1 r1 (hb : Below (w.alloc (.cells #[.bool sx, .slice a (digs x.natAbs).length c] 88)).drew.heap.size _ w1) (hr : Big w1 r1 lst) =>
    bcmp _ r1 x lst w1 ((hv.below hb0).below hb) hr (by omega) (by have := digs_19 lst_in; omega) (len_sub x lst hl lst_in)
  rw [← hcm] at hC
  have hC' := fun w1 r1 (hb : Below (w.alloc (.cells #[.bool sx, .slice a (digs x.natAbs).length c] 88)).drew.heap.size _ w1) (hr : Big w1 r1 mst) =>
    bcmp _ r1 x mst w1 ((hv.below hb0).below hb) hr (by omega) (by have := digs_19 mst_in; omega) (len_sub x mst hl mst_in)
  obtain ⟨cn, hcn, hcn0⟩ : ∃ cn, cn = cmpv x mst ∧ ¬ 0 < cn := ⟨_, rfl, by unfold cmpv; split <;> (try split) <;> omega⟩
  rw [← hcn] at hC'
  have hce : decide (0 < cn) = false := by simpa using hcn0
  have hcd : decide (cm < 0) = false := by simpa using hcm0
  unfold lst at hOf
  unfold mst at hOm
  have HX : Hid (x = if sx = true then -dval (digs x.natAbs) else dval (digs x.natAbs)) := by
    have hs := HS.out
    have hd := dval_digs x.natAbs
    show x = _
    rw [hd, ← hs]
    by_cases h0 : x < 0
    · rw [if_pos (by simpa using h0)]; omega
    · rw [if_neg (by simpa using h0)]; omega
  have hIn : InR x := by unfold lst at h; unfold mst at h'; unfold InR; omega
  have hdig : Hid (Digs (digs x.natAbs)) := digs_ok _
  have hSl : ∀ w1, Below (w.alloc (.cells #[.bool sx, .slice a (digs x.natAbs).length c] 88)).drew.heap.size (w.alloc (.cells #[.bool sx, .slice a (digs x.natAbs).length c] 88)).drew w1 → Reads w1 a (digs x.natAbs) := by
    intro w1 hb1
    obtain ⟨u, hu, hs⟩ := (hv.below hb0).below hb1
    simp at hu
    obtain ⟨_, rfl⟩ := hu
    obtain ⟨a1, c1, h1, _, _, h4⟩ := hs
    injection h1 with h1 h2 h3
    subst h1
    exact h4
  have hDv : Hid (dval (digs x.natAbs) = x.natAbs) := dval_digs _
  have hIN := Lib.hid hIn
  clear hv h h' hcm hcm0 hIn hcn hcn0
  generalize hD : digs x.natAbs = D at *
  have HDD := Lib.hid hD; clear hD
  go_enter Try.func68, Try.ntmps68
  go_wp2
  go_region_held3 (fun w' => w'.cell? ⟨w.heap.size, 0, none⟩ = some (.bool sx) ∧ w'.cell? ⟨w.heap.size, 1, none⟩ = some (.slice a D.length c)) (first | (exact ⟨d0, d1⟩) | (exact ⟨e0, e1⟩) | (exact ⟨i0, i1⟩) | (exact ⟨j0, j1⟩) | (simp [go_sem]))
    (first
      | (go_at_call 59; (with_reducible refine hOf.mono ?_); rintro e w1 ⟨r1, rfl, hr1, hb1⟩; obtain ⟨d0, d1⟩ := box1 hb1)
      | (go_at_call 67; (with_reducible refine (hC _ _ hb1 hr1).mono ?_); rintro e w2 ⟨rfl, hb2⟩; have hb12 := hb1.trans (hb2.mono hb1.size); obtain ⟨e0, e1⟩ := box1 hb12)
      | (go_at_call 59; (with_reducible refine (hOm _).mono ?_); rintro e w3 ⟨r3, rfl, hr3, hb3⟩; have hb13 := hb12.trans (hb3.mono hb12.size); obtain ⟨i0, i1⟩ := box1 hb13)
      | (go_at_call 67; (with_reducible refine (hC' _ _ hb13 hr3).mono ?_); rintro e w4 ⟨rfl, hb4⟩; have hb14 := hb13.trans (hb4.mono hb13.size); obtain ⟨j0, j1⟩ := box1 hb14))
  go_wp2
  have hRd := hSl _ hb14
  clear hSl hC hC' hOf hOm
  rcases sx with _ | _
  · have HXX : Hid (x = dval D) := by have h := HX.out; simp at h; exact h
    have hbd : Hid (dval D ≤ 9223372036854775807) := by
      have h1 := HXX.out; have h2 := hIN.out; unfold InR at h2
      show dval D ≤ _
      omega
    go_loop [4, 5] (fun n i => ∃ k : Nat, k ≤ D.length ∧ i = .int .i64 ((k : Int) - 1) ∧ n = .int .i64 (dval (D.drop k))) (fun _ i => (intOf i + 1).toNat)
    case atStart => exact ⟨D.length, Nat.le_refl _, rfl, by rw [List.drop_length]; simp [dval]⟩
    case round =>
      obtain ⟨k, hk, hi, rfl⟩ := hrel
      by_cases h0 : k = 0
      · subst h0
        simp at hi
        subst hi
        go_wp2
        go_ret2
        refine ⟨?_, hb0.trans (hb14.mono hb0.size)⟩
        rw [show x = dval (D.drop 0) from HXX.out.trans (by rw [List.drop_zero])]
        first | rfl | simp
      · obtain ⟨j, rfl⟩ : ∃ j, k = j + 1 := ⟨k - 1, by omega⟩
        have hi' : u5 = .int .i64 (j : Int) := by rw [hi]; congr 1; omega
        clear hi
        subst hi'
        obtain ⟨b, off, rfl, hc⟩ := hRd.2 j (by omega)
        have hlt : j < D.length := by omega
        have hg := getD_in D hdig.out j
        have hs := dval_drop D j hlt
        have hle := dval_drop_le D hdig.out j
        have hle' := dval_drop_le D hdig.out (j + 1)
        have hbb := hbd.out
        obtain ⟨z, hz⟩ : ∃ z, z = D.getD j 0 := ⟨_, rfl⟩
        obtain ⟨t, ht⟩ : ∃ t, t = dval (D.drop (j + 1)) := ⟨_, rfl⟩
        obtain ⟨t', ht'⟩ : ∃ t', t' = dval (D.drop j) := ⟨_, rfl⟩
        rw [← hz] at hc hg hs
        rw [← ht] at hs hle' ⊢
        rw [← ht'] at hs hle
        have b1 : t * 10 ≤ 9223372036854775808 := by omega
        have b2 : t' ≤ 9223372036854775807 := by omega
        have b3 : t * 10 + z ≤ 9223372036854775807 := by omega
        have b4 : 0 ≤ t := by omega
        have b5 : 0 ≤ z := by omega
        have HT := Lib.hid (And.intro ht' (And.intro hs ht)); clear hz ht' hs ht hle hle' hbb hg
        go_wp2
        go_round
        case rel => exact ⟨j, by omega, rfl, by have := HT.out; rw [← this.1, this.2.1]; first | rfl | (congr 1; omega)⟩
        case measure => simp [intOf]
  · have HXX : Hid (x = -dval D) := by have h := HX.out; simp at h; exact h
    have hbd : Hid (dval D ≤ 9223372036854775808) := by
      have h1 := HXX.out; have h2 := hIN.out; unfold InR at h2
      show dval D ≤ _
      omega
    go_loop [4, 5] (fun n i => ∃ k : Nat, k ≤ D.length ∧ i = .int .i64 ((k : Int) - 1) ∧ n = .int .i64 (-dval (D.drop k))) (fun _ i => (intOf i + 1).toNat)
    case atStart => exact ⟨D.length, Nat.le_refl _, rfl, by rw [List.drop_length]; simp [dval]⟩
    case round =>
      obtain ⟨k, hk, hi, rfl⟩ := hrel
      by_cases h0 : k = 0
      · subst h0
        simp at hi
        subst hi
        go_wp2
        go_ret2
        refine ⟨?_, hb0.trans (hb14.mono hb0.size)⟩
        rw [show x = -dval (D.drop 0) from HXX.out.trans (by rw [List.drop_zero])]
        first | rfl | simp
      · obtain ⟨j, rfl⟩ : ∃ j, k = j + 1 := ⟨k - 1, by omega⟩
        have hi' : u5 = .int .i64 (j : Int) := by rw [hi]; congr 1; omega
        clear hi
        subst hi'
        obtain ⟨b, off, rfl, hc⟩ := hRd.2 j (by omega)
        have hlt : j < D.length := by omega
        have hg := getD_in D hdig.out j
        have hs := dval_drop D j hlt
        have hle := dval_drop_le D hdig.out j
        have hle' := dval_drop_le D hdig.out (j + 1)
        have hbb := hbd.out
        obtain ⟨z, hz⟩ : ∃ z, z = D.getD j 0 := ⟨_, rfl⟩
        obtain ⟨t, ht⟩ : ∃ t, t = dval (D.drop (j + 1)) := ⟨_, rfl⟩
        obtain ⟨t', ht'⟩ : ∃ t', t' = dval (D.drop j) := ⟨_, rfl⟩
        rw [← hz] at hc hg hs
        rw [← ht] at hs hle' ⊢
        rw [← ht'] at hs hle
        have b1 : t * 10 ≤ 9223372036854775808 := by omega
        have b2 : t' ≤ 9223372036854775808 := by omega
        have b3 : t * 10 + z ≤ 9223372036854775808 := by omega
        have b4 : 0 ≤ t := by omega
        have b5 : 0 ≤ z := by omega
        have HT := Lib.hid (And.intro ht' (And.intro hs ht)); clear hz ht' hs ht hle hle' hbb hg
        go_wp2
        go_round
        case rel => exact ⟨j, by omega, rfl, by have := HT.out; rw [← this.1, this.2.1]; first | rfl | (congr 1; omega)⟩
        case measure => simp [intOf]


/-- Int. -/
theorem bint (v : Value) (x : Int) (w : World) (hv : Big w v x) (hl : (digs x.natAbs).length ≤ 900) :
    Calls Try.prog 68 #[v] w fun e w' => e = .returned (.tuple #[.int .i64 (tv x), .bool (decide (InR x))]) ∧ Below w.heap.size w w' := by
  by_cases h : x < lst
  · have hn : ¬ InR x := by unfold lst at h; unfold InR; omega
    rw [tv_out hn, decide_eq_false hn]; exact int_lo v x w hv hl h
  · by_cases h' : mst < x
    · have hn : ¬ InR x := by unfold mst at h'; unfold InR; omega
      rw [tv_out hn, decide_eq_false hn]; exact int_hi v x w hv hl h h'
    · have hn : InR x := by unfold lst at h; unfold mst at h'; unfold InR; omega
      rw [tv_in hn, decide_eq_true hn]; exact int_in v x w hv hl h h'

/- What the document's own Times (of gavelkindref01) does: the product of two whole numbers. The condition: at most 600 digits and 400 digits. -/
theorem times_step (A P : List Int) (k : Nat) (c d b : Int) (hP : P.length = k) (h : dval P + 10 ^ k * c = dval (A.take k) * b) (hd : d = c + A.getD k 0 * b) :
    dval (P ++ [d % 10]) + 10 ^ (k + 1) * (d / 10) = dval (A.take (k + 1)) * b := by
  rw [snoc_val P k hP, dval_take, Int.pow_succ, Int.add_mul]
  have e1 : (10 : Int) ^ k * 10 * (d / 10) = 10 ^ k * (10 * (d / 10)) := by rw [Int.mul_assoc]
  have e2 : (10 : Int) ^ k * (d % 10) + 10 ^ k * (10 * (d / 10)) = 10 ^ k * d := by rw [← Int.mul_add]; congr 1; omega
  have e3 : (10 : Int) ^ k * d = 10 ^ k * c + 10 ^ k * A.getD k 0 * b := by rw [hd, Int.mul_add, Int.mul_assoc]
  omega

theorem dval_zeros (i : Nat) (P : List Int) : dval (List.replicate i 0 ++ P) = 10 ^ i * dval P := by
  have h0 : ∀ j, dval (List.replicate j 0) = 0 := by
    intro j
    induction j with
    | zero => rfl
    | succ j ih => rw [List.replicate_succ, dval, ih]; rfl
  rw [dval_append, h0, List.length_replicate]; omega

theorem digs_zeros {i : Nat} {P : List Int} (h : Digs P) : Digs (List.replicate i 0 ++ P) := by
  intro d hd
  rcases List.mem_append.1 hd with hd | hd
  · rw [List.eq_of_mem_replicate hd]; omega
  · exact h d hd

theorem digs_len_mul {m n a b : Nat} (hm : (digs m).length ≤ a) (hn : (digs n).length ≤ b) : (digs (m * n)).length ≤ a + b := by
  refine digs_len _ _ ?_
  rw [Nat.pow_add]
  have h1 := lt_pow10 m
  have h2 := lt_pow10 n
  have h3 : 10 ^ (digs m).length ≤ 10 ^ a := Nat.pow_le_pow_right (by omega) hm
  have h4 : 10 ^ (digs n).length ≤ 10 ^ b := Nat.pow_le_pow_right (by omega) hn
  have h5 : m * n ≤ m * 10 ^ b := Nat.mul_le_mul_left _ (by omega)
  have h6 : m * 10 ^ b < 10 ^ a * 10 ^ b := Nat.mul_lt_mul_of_pos_right (by omega) (Nat.pow_pos (by omega))
  omega

theorem Own.drewN {w : World} {base : Nat} {v : Value} {L : List Int} (h : Own w base v L) (k : Nat) : Own (w.drewN k) base v L := h

/-- What holds while one row is made: its noughts, its digits so far, and the carry. -/
def RowRel (A : List Int) (b : Int) (i : Nat) (w0 : World) (v c k : Value) (wr : World) : Prop :=
  ∃ (j : Nat) (cc : Int) (P : List Int), j ≤ A.length + 1 ∧ (j = A.length + 1 → cc = 0) ∧ 0 ≤ cc ∧ cc ≤ 8 ∧ P.length = j ∧ Digs P ∧ dval P + 10 ^ j * cc = dval (A.take j) * b ∧
    k = .int .i64 j ∧ c = .int .i64 cc ∧ Own wr w0.heap.size v (List.replicate i 0 ++ P) ∧ Below w0.heap.size w0 wr

theorem row_next {A P : List Int} {b cc d : Int} {i k : Nat} {w0 w1 : World} {v1 : Value}
    (HV : (k = A.length + 1 → cc = 0) ∧ P.length = k ∧ Digs P ∧ dval P + 10 ^ k * cc = dval (A.take k) * b) (hd : d = cc + A.getD k 0 * b) (h0 : 0 ≤ cc) (h8 : cc ≤ 8) (hp0 : 0 ≤ A.getD k 0 * b) (hp : A.getD k 0 * b ≤ 81)
    (hk : k ≤ A.length + 1) (hlt : k < A.length ∨ 0 < cc) (hown : Own w1 w0.heap.size v1 ((List.replicate i 0 ++ P) ++ [d % 10])) (hb : Below w0.heap.size w0 w1) :
    RowRel A b i w0 v1 (.int .i64 (d / 10)) (.int .i64 ((k : Int) + 1)) w1 := by
  obtain ⟨e1, e2, e3, e4⟩ := HV
  refine ⟨k + 1, d / 10, P ++ [d % 10], ?_, ?_, by omega, by omega, by simp [e2], e3.snoc (by omega) (by omega), times_step A P k cc d b e2 e4 hd, by go_num, rfl, by rw [← List.append_assoc]; exact hown, hb⟩
  · rcases hlt with h | h
    · omega
    · by_cases hh : k = A.length + 1
      · have := e1 hh; omega
      · omega
  · intro hh
    rw [getD_past A k (by omega), Int.zero_mul] at hd
    omega

theorem row_last {A P : List Int} {b : Int} {i k m : Nat} (h : dval P + 10 ^ k * 0 = dval (A.take k) * b) (hA : A.length ≤ k) (hm : dval A = m) (hb : 0 ≤ b) :
    (dval (List.replicate i 0 ++ P)).toNat = 10 ^ i * (m * b.toNat) := by
  rw [List.take_of_length_le hA, hm] at h
  rw [dval_zeros]
  have : dval P = ((m * b.toNat : Nat) : Int) := by
    rw [Int.natCast_mul, Int.toNat_of_nonneg hb]; omega
  rw [this]
  have e : (10 : Int) ^ i * ((m * b.toNat : Nat) : Int) = ((10 ^ i * (m * b.toNat) : Nat) : Int) := by simp
  rw [e, Int.toNat_natCast]

/-- What holds while the rows are added up. -/
def TimesRel (m : Nat) (B : List Int) (s s' : Bool) (u u' : Value) (w : World) (v i : Value) (wr : World) : Prop :=
  ∃ (k N : Nat), k ≤ B.length ∧ i = .int .i64 k ∧ Sl wr v (digs N) ∧ (N : Int) = m * dval (B.take k) ∧ Box3 w.heap.size (.bool s) u (.bool s') u' (.bool false) (.slice none 0 0) wr ∧ Below w.heap.size w wr

theorem times_next {m k N : Nat} {B : List Int} {b : Int} (hN : (N : Int) = m * dval (B.take k)) (hb : b = B.getD k 0) (hb0 : 0 ≤ b) : ((N + 10 ^ k * (m * b.toNat) : Nat) : Int) = m * dval (B.take (k + 1)) := by
  rw [dval_take, Int.mul_add, ← hN, ← hb]
  have e : ((N + 10 ^ k * (m * b.toNat) : Nat) : Int) = N + 10 ^ k * (m * (b.toNat : Int)) := by simp
  rw [e, Int.toNat_of_nonneg hb0, ← Int.mul_assoc, ← Int.mul_assoc, Int.mul_comm (10 ^ k) (m : Int)]

theorem times_len {m n k N : Nat} (hN : (N : Int) = m * dval ((digs n).take k)) (hm : (digs m).length ≤ 600) (hn : (digs n).length ≤ 400) : (digs N).length ≤ 1000 := by
  have h1 : dval ((digs n).take k) ≤ n := by
    have e := dval_append ((digs n).take k) ((digs n).drop k)
    rw [List.take_append_drop, dval_digs] at e
    have h2 := (dval_drop_le (digs n) (digs_ok n) k).1
    have h3 : 0 ≤ (10 : Int) ^ ((digs n).take k).length * dval ((digs n).drop k) := Int.mul_nonneg (Int.le_of_lt (pow_pos10 _)) h2
    omega
  have h4 : (N : Int) ≤ ((m * n : Nat) : Int) := by rw [hN, Int.natCast_mul]; exact Int.mul_le_mul_of_nonneg_left h1 (by omega)
  exact Nat.le_trans (digs_len_mono (by omega)) (digs_len_mul hm hn)
/- What the document's own Times (of gavelkindref01) does: the product of two whole numbers. The condition: at most 600 digits and 400 digits. -/
set_option maxHeartbeats 2000000 in
set_option maxRecDepth 100000 in
theorem times_walk (s s' t : Bool) (m n : Nat) (v v' : Value) (w : World) (hv : Sl w v (digs m)) (hv' : Sl w v' (digs n)) (hm : (digs m).length ≤ 600) (hn : (digs n).length ≤ 400)
    (ht : t = ((s != s') && decide (0 < (digs (m * n)).length))) :
    Calls Try.prog 58 #[.agg #[.bool s, v], .agg #[.bool s', v']] w fun e w' => ∃ u, e = .returned (.agg #[.bool t, u]) ∧ Sl w' u (digs (m * n)) ∧ Below w.heap.size w w' := by
  obtain ⟨a, cap, rfl, hcap, hc0, hA⟩ := hv
  obtain ⟨b, cap', rfl, hcap', hc0', hB⟩ := hv'
  clear hcap hcap' hc0 hc0'
  have HT := Lib.hid ht; clear ht
  obtain ⟨A, hAe⟩ : ∃ A, A = digs m := ⟨_, rfl⟩
  obtain ⟨B, hBe⟩ : ∃ B, B = digs n := ⟨_, rfl⟩
  have dA : Digs A := by rw [hAe]; exact digs_ok m
  have dB : Digs B := by rw [hBe]; exact digs_ok n
  have vA : dval A = m := by rw [hAe]; exact dval_digs m
  have vB : dval B = n := by rw [hBe]; exact dval_digs n
  have hLen : Hid (∀ k N : Nat, (N : Int) = m * dval (B.take k) → (digs N).length ≤ 1000) := fun k N hN => by rw [hBe] at hN; exact times_len hN hm hn
  rw [← hAe] at hA hm ⊢
  rw [← hBe] at hB hn ⊢
  have H : Hid (Digs A ∧ Digs B ∧ dval A = m ∧ dval B = n) := ⟨dA, dB, vA, vB⟩
  clear dA dB vA vB hAe hBe
  go_enter Try.func58, Try.ntmps58
  go_wp2
  go_loopw [5, 6] (fun o i wr => TimesRel m B s s' (.slice a A.length cap) (.slice b B.length cap') w o i wr) (fun _ i _ => B.length - (intOf i).toNat)
  case atStart => exact ⟨0, 0, Nat.zero_le _, rfl, by rw [digs_zero]; exact (Own.nil _ 0).sl (by simp), by simp [dval], Box3.init _ _ _ _ _ _ _ _, below3 _ _ _ _⟩
  case round =>
    obtain ⟨i, N, hi, rfl, hSl, hN, hbox, hb⟩ := hrel
    obtain ⟨w0, hw0⟩ : ∃ w0, w0 = wr := ⟨_, rfl⟩
    subst hw0
    have HN := Lib.hid hN; clear hN
    have HBX := Lib.hid hbox
    obtain ⟨k0, k1, k2, k3, k4, k5, k6, k7, k8⟩ := hbox
    by_cases hlt : i < B.length
    · obtain ⟨c', off', rfl, hc'⟩ := (hB.below hb).2 i hlt
      obtain ⟨y, hy⟩ : ∃ y, y = B.getD i 0 := ⟨_, rfl⟩
      have hy09 := getD_in B H.out.2.1 i
      rw [← hy] at hc' hy09
      have HY := Lib.hid hy; clear hy
      go_wp2
      go_loopw [7, 8] (fun r k wk => ∃ j : Nat, j ≤ i ∧ k = .int .i64 j ∧ Own wk w0.heap.size r (List.replicate j 0) ∧ Below w0.heap.size w0 wk) (fun _ k _ => i - (intOf k).toNat)
      case atStart => exact ⟨0, Nat.zero_le _, rfl, Own.nil _ _, Below.refl _ _⟩
      case round =>
        obtain ⟨j, hj, rfl, hown, hbk⟩ := hrel
        by_cases hjl : j < i
        · go_wp2_with (at_builtin; refine wp_push wr rfl (.tmp 24) (.tmp 25) rfl w0.heap.size _ (List.replicate j 0) _ rfl hown rfl (by simp; omega) hbk.size ?_; intro v1 w1 hown1 hb1)
          go_roundw
          case rel => exact ⟨j + 1, by omega, by go_num, by rw [List.replicate_succ']; exact hown1, hbk.trans hb1⟩
          case measure => simp [intOf]; omega
        · obtain rfl : i = j := by omega
          go_wp2
          go_loopw [7, 9, 10] (fun r c k wk => RowRel A y i w0 r c k wk) (fun _ _ k _ => A.length + 1 - (intOf k).toNat)
          case atStart => exact ⟨0, 0, [], by omega, fun _ => rfl, by omega, by omega, rfl, fun d hd => by (cases hd), by simp [dval], rfl, rfl, by simpa using hown, hbk⟩
          case round =>
            clear hown hbk
            obtain ⟨k, cc, P, hk, hke, hc1, hc2, hPl, hPd, hval, rfl, rfl, hown, hbk⟩ := hrel
            have HV := Lib.hid (And.intro hke (And.intro hPl (And.intro hPd hval)))
            have hPk : P.length ≤ 602 := by omega
            clear hke hPl hPd hval
            have hx09 := getD_in A H.out.1 k
            obtain ⟨k0', k1', k2', k3', k4', k5', k6', k7', k8'⟩ := HBX.out.below hbk
            by_cases h1 : k < A.length
            · obtain ⟨c, off, rfl, hc⟩ := ((hA.below hb).below hbk).2 k h1
              have hc'' : wr.cell? ⟨c', off' + i, none⟩ = some (.int .i64 y) := cell_later hbk hc'
              obtain ⟨x, hx⟩ : ∃ x, x = A.getD k 0 := ⟨_, rfl⟩
              rw [← hx] at hc hx09
              have hp0 : 0 ≤ x * y := Int.mul_nonneg hx09.1 hy09.1
              have hp1 : x * y ≤ 9 * y := Int.mul_le_mul_of_nonneg_right hx09.2 hy09.1
              have hp : x * y ≤ 81 := by omega
              have HX := Lib.hid hx; clear hx hp1
              have hk1 : (k : Int) < (A.length : Int) := by omega
              have hi1 : (i : Int) < (B.length : Int) := by omega
              go_wp2
              go_quiet (fail)
              go_wp2_with (at_builtin; refine wp_push (wr.drewN _) rfl (.tmp 57) (.tmp 60) rfl w0.heap.size _ (List.replicate i 0 ++ P) _ rfl (hown.drewN _) rfl (by simp; omega) hbk.size ?_; intro v1 w1 hown1 hb1)
              go_roundw
              case rel => exact row_next HV.out (by rw [← HX.out]) hc1 hc2 (by rw [← HX.out]; exact hp0) (by rw [← HX.out]; exact hp) hk (.inl h1) hown1 ((below_drewN hbk _).trans hb1)
              case measure => simp [intOf]; omega
            · have hd1 : decide (k < A.length) = false := by simpa using h1
              by_cases h3 : cc = 0
              · subst h3
                have HS : Hid (Sl wr u7 (List.replicate i 0 ++ P)) := hown.sl (digs_inR (digs_zeros HV.out.2.2.1))
                have HE : Hid ((dval (List.replicate i 0 ++ P)).toNat = 10 ^ i * (m * y.toNat)) := row_last HV.out.2.2.2 (by omega) H.out.2.2.1 hy09.1
                have HNX : Hid (((N + 10 ^ i * (m * y.toNat) : Nat) : Int) = m * dval (B.take (i + 1))) := times_next HN.out HY.out hy09.1
                go_wp2_with fail
                refine (trim_any u7 _ wr HS.out (digs_zeros HV.out.2.2.1) (by simp; omega)).mono ?_; rintro e w2 ⟨v2, rfl, hs2, rfl⟩
                rw [HE.out] at hs2
                go_wp2_with fail
                refine (more_any u5 v2 N _ wr (hSl.below hbk) hs2 (by have := hLen.out i N HN.out; omega) ?_).mono ?_
                · have h1 := hLen.out (i + 1) _ HNX.out
                  have h2 := digs_len_mono (show 10 ^ i * (m * y.toNat) ≤ N + 10 ^ i * (m * y.toNat) by omega)
                  omega
                rintro e w3 ⟨v3, rfl, hs3, hb3⟩
                have hbk3 := hbk.trans (hb3.mono hbk.size)
                go_wp2
                go_roundw
                case rel => exact ⟨i + 1, _, by omega, by go_num, hs3, HNX.out, HBX.out.below hbk3, hb.trans (hbk3.mono hb.size)⟩
                case measure => simp [intOf]; omega
              · have hpos : 0 < cc := by omega
                have hkm : k ≤ A.length := by
                  by_cases hh : k = A.length + 1
                  · exact absurd (HV.out.1 hh) h3
                  · omega
                have HX : Hid (0 = A.getD k 0) := (getD_past A k (by omega)).symm
                go_wp2_with (at_builtin; refine wp_push wr rfl (.tmp 57) (.tmp 60) rfl w0.heap.size _ (List.replicate i 0 ++ P) _ rfl hown rfl (by simp; omega) hbk.size ?_; intro v1 w1 hown1 hb1)
                go_roundw
                case rel => exact row_next (d := cc) HV.out (by rw [← HX.out]; simp) hc1 hc2 (by rw [← HX.out]; simp) (by rw [← HX.out]; simp) hk (.inr hpos) hown1 (hbk.trans hb1)
                case measure => simp [intOf]; omega
    · obtain rfl : B.length = i := by omega
      have HM : Hid (N = m * n) := by
        have h := HN.out
        rw [List.take_length, H.out.2.2.2] at h
        show N = m * n
        have e : ((m * n : Nat) : Int) = (m : Int) * n := by simp
        omega
      have hlN := hLen.out _ N HN.out
      obtain ⟨ra, rc, rfl⟩ := hSl.form
      obtain ⟨lr, hlr⟩ : ∃ lr, lr = (digs N).length := ⟨_, rfl⟩
      have hT : s = s' ∧ t = false ∨ (s == s') = false ∧ t = decide (0 < lr) := by
        have h := HT.out
        rw [← HM.out, ← hlr] at h
        cases s <;> cases s' <;> simp_all
      have hR : Hid (Sl w0 (.slice ra lr rc) (digs (m * n))) := by rw [hlr, ← HM.out]; exact hSl
      rw [← hlr] at *
      clear hlr hSl
      have hfin : ∀ tt : Bool, Hid (∃ u, (Ending.returned (.agg #[.bool tt, .slice ra lr rc]) : Ending) = .returned (.agg #[.bool tt, u]) ∧ Sl ((w0.setCell ⟨w.heap.size + 1 + 1, 0, none⟩ (.bool tt)).setCell ⟨w.heap.size + 1 + 1, 1, none⟩ (.slice ra lr rc)) u (digs (m * n)) ∧
          Below w.heap.size w ((w0.setCell ⟨w.heap.size + 1 + 1, 0, none⟩ (.bool tt)).setCell ⟨w.heap.size + 1 + 1, 1, none⟩ (.slice ra lr rc))) := fun tt =>
        ⟨_, rfl, hR.out.set2 k4 k5, (hb.setCell (by show w.heap.size ≤ w.heap.size + 1 + 1; omega) _).setCell (by show w.heap.size ≤ w.heap.size + 1 + 1; omega) _⟩
      rcases hT with ⟨rfl, rfl⟩ | ⟨hss, ht⟩
      · go_wp2
        exact bodyPost_ret (v := .agg #[.bool false, .slice ra lr rc]) (by simp [results, Try.results58, go_sem, k4, k5]) rfl (hfin false).out
      · have hne : (s != s') = true := by simpa [bne] using hss
        by_cases hl0 : 0 < lr
        · rw [show decide (0 < lr) = true by simpa using hl0] at ht
          subst ht
          go_wp2
          exact bodyPost_ret (v := .agg #[.bool true, .slice ra lr rc]) (by simp [results, Try.results58, go_sem, k4, k5]) rfl (hfin true).out
        · rw [show decide (0 < lr) = false by simpa using hl0] at ht
          subst ht
          obtain rfl : lr = 0 := by omega
          go_wp2
          exact bodyPost_ret (v := .agg #[.bool false, .slice ra 0 rc]) (by simp [results, Try.results58, go_sem, k4, k5]) rfl (hfin false).out

/-- Times. -/
theorem btimes (v v' : Value) (x y : Int) (w : World) (hv : Big w v x) (hv' : Big w v' y) (hl : (digs x.natAbs).length ≤ 600) (hl' : (digs y.natAbs).length ≤ 400) :
    Calls Try.prog 58 #[v, v'] w fun e w' => ∃ u, e = .returned u ∧ Big w' u (x * y) ∧ Below w.heap.size w w' := by
  obtain ⟨u, rfl, hu⟩ := hv
  obtain ⟨u', rfl, hu'⟩ := hv'
  refine (times_walk _ _ _ x.natAbs y.natAbs u u' w hu hu' hl hl' rfl).mono ?_
  rintro e w' ⟨r, rfl, hr, hb⟩
  refine ⟨_, rfl, ⟨r, ?_, by rw [Int.natAbs_mul]; exact hr⟩, hb⟩
  have e : ((decide (x < 0) != decide (y < 0)) && decide (0 < (digs (x.natAbs * y.natAbs)).length)) = decide (x * y < 0) := by
    by_cases hx : x = 0
    · subst hx; simp [digs_zero]
    · by_cases hy : y = 0
      · subst hy; simp [digs_zero]
      · have hp : 0 < (digs (x.natAbs * y.natAbs)).length := digs_pos_len (Nat.mul_ne_zero (by omega) (by omega))
        have h1 : decide (0 < (digs (x.natAbs * y.natAbs)).length) = true := by simpa using hp
        rw [h1, Bool.and_true]
        rcases Int.lt_or_gt_of_ne hx with h | h <;> rcases Int.lt_or_gt_of_ne hy with h' | h'
        · have := Int.mul_pos_of_neg_of_neg h h'
          rw [decide_eq_true h, decide_eq_true h', decide_eq_false (by omega)]; rfl
        · have := Int.mul_neg_of_neg_of_pos h h'
          rw [decide_eq_true h, decide_eq_false (by omega), decide_eq_true this]; rfl
        · have := Int.mul_neg_of_pos_of_neg h h'
          rw [decide_eq_false (by omega), decide_eq_true h', decide_eq_true this]; rfl
        · have := Int.mul_pos h h'
          rw [decide_eq_false (by omega), decide_eq_false (by omega), decide_eq_false (by omega)]; rfl
  rw [e]
theorem digs_len_times {x y : Int} {a b : Nat} (hx : (digs x.natAbs).length ≤ a) (hy : (digs y.natAbs).length ≤ b) : (digs (x * y).natAbs).length ≤ a + b := by
  rw [Int.natAbs_mul]; exact digs_len_mul hx hy
/- What the document's own Div (of gavelkindref01) does: the quotient, rounded down, and what is left, of a whole number and one above 0. The condition: at most 400 digits each. -/
theorem Own.one (w : World) (d : Int) : Own (w.alloc (.cells #[.int .i64 d] 3)) w.heap.size (.slice (some ⟨w.heap.size, 0, none⟩) 1 1) [d] :=
  World.ownsRow_lit (base := w.heap.size) (e := 3) (size := 1) w #[.int .i64 d] 1 (Nat.le_refl _) (by unfold maxLen; omega) rfl

/-- append of a list to one number that was just laid. -/
theorem wp_cons {ops : Array Oper} {rest : List Oper} {o : Oper} {a : Act} {Q : Exit → Act → World → Prop} (w : World) (hgd : o.guard = none) (s x : Operand)
    (ho : o.op = .call { callee := .builtin .append, args := #[s, x], argTypes := #[35, 35] })
    (d : Int) (M : List Int) (v : Value) (hs : a.eval s = .slice (some ⟨w.heap.size, 0, none⟩) 1 1) (hx : a.eval x = v) (hr : Sl w v M) (hlen : M.length ≤ 100000000) (hd : InR d)
    (h : ∀ v' w', Sl w' v' (d :: M) → Below w.heap.size w w' → wpList Try.prog ops Q rest (a.put o.dst v') w') :
    wpList Try.prog ops Q (o :: rest) a (w.alloc (.cells #[.int .i64 d] 3)) := by
  obtain ⟨A, c, rfl, _, hc, hrd⟩ := hr
  refine wp_cat (w.alloc (.cells #[.int .i64 d] 3)) hgd s x ho w.heap.size _ [d] M A c hs (Own.one w d) hx (hrd.alloc _) hc (by simp; omega) (by simp) ?_
  intro v' w' hown hb
  refine h v' w' (hown.sl ?_) (((Below.refl _ _).alloc (Nat.le_refl _) _).trans hb)
  intro z hz
  rcases List.mem_cons.1 hz with rfl | hz
  · exact hd
  · exact hrd.1 z hz

/-- What holds of the four blocks of Div. -/
def Box4 (B : Nat) (s s' : Bool) (u u' : Value) (w : World) : Prop :=
  Box3 B (.bool s) u (.bool s') u' (.bool false) (.slice none 0 0) w ∧ w.cell? ⟨B + 3, 0, none⟩ = some (.bool false) ∧ w.cell? ⟨B + 3, 1, none⟩ = some (.slice none 0 0) ∧ w.frozen? ⟨B + 3, 0, none⟩ = false ∧ w.frozen? ⟨B + 3, 1, none⟩ = false ∧ B + 3 < w.heap.size
theorem Box4.init (w : World) (s s' : Bool) (u u' : Value) (t : TypeId) : Box4 w.heap.size s s' u u' ((((w.alloc (.cells #[.bool s, u] t)).alloc (.cells #[.bool s', u'] t)).alloc (.cells #[.bool false, .slice none 0 0] t)).alloc (.cells #[.bool false, .slice none 0 0] t)) := by
  refine ⟨(Box3.init w _ _ _ _ _ _ t).below ((Below.refl _ _).alloc (Nat.le_refl _) _), ?_, ?_, ?_, ?_, ?_⟩ <;> simp [go_sem]
theorem Box4.below {B : Nat} {s s' : Bool} {u u' : Value} {w w1 : World} (h : Box4 B s s' u u' w) (hb : Below w.heap.size w w1) : Box4 B s s' u u' w1 := by
  obtain ⟨h0, h1, h2, h3, h4, h5⟩ := h
  obtain ⟨bc, bf⟩ := bcell hb
  exact ⟨h0.below hb, (bc _ _ h5).trans h1, (bc _ _ h5).trans h2, (bf _ _ h5).trans h3, (bf _ _ h5).trans h4, Nat.lt_of_lt_of_le h5 hb.size⟩

/-- What holds while the digits are gone through from above: the quotient's digits, and what is left. -/
def DivRel (m n : Nat) (A : List Int) (s s' : Bool) (u u' : Value) (w : World) (q r i : Value) (wr : World) : Prop :=
  ∃ (k V : Nat) (Q : List Int), k ≤ A.length ∧ i = .int .i64 ((k : Int) - 1) ∧ (V : Int) = dval (A.drop k) ∧ Sl wr q Q ∧ Digs Q ∧ Q.length = A.length - k ∧ dval Q = ((V / n : Nat) : Int) ∧ Sl wr r (digs (V % n)) ∧
    Box4 w.heap.size s s' u u' wr ∧ Below w.heap.size w wr

theorem div_dig {V n d j : Nat} (hn : 0 < n) (hd : d ≤ 9) (h1 : j * n ≤ 10 * (V % n) + d) (h2 : 10 * (V % n) + d - j * n < n) :
    j ≤ 9 ∧ (d + 10 * V) / n = 10 * (V / n) + j ∧ (d + 10 * V) % n = 10 * (V % n) + d - j * n := by
  have hv := Nat.div_add_mod V n
  have hlt := Nat.mod_lt V hn
  have e1 : d + 10 * V = n * (10 * (V / n) + j) + (10 * (V % n) + d - j * n) := by
    rw [Nat.mul_add, Nat.mul_left_comm, Nat.mul_comm n j]; omega
  refine ⟨?_, ?_, ?_⟩
  · rcases Nat.lt_or_ge 9 j with h | h
    · have : 10 * n ≤ j * n := Nat.mul_le_mul_right n h
      omega
    · exact h
  · rw [e1, Nat.mul_add_div hn, Nat.div_eq_of_lt h2]; omega
  · rw [e1, Nat.mul_add_mod, Nat.mod_eq_of_lt h2]

theorem drop_val {A : List Int} {V k : Nat} {z : Int} (hk : k < A.length) (hz : z = A.getD k 0) (hz0 : 0 ≤ z) (hV : (V : Int) = dval (A.drop (k + 1))) : ((z.toNat + 10 * V : Nat) : Int) = dval (A.drop k) := by
  rw [dval_drop A k hk, ← hV, ← hz]; omega

theorem digs_len_mod {V n : Nat} (hn : 0 < n) : (digs (V % n)).length ≤ (digs n).length := digs_len_mono (Nat.le_of_lt (Nat.mod_lt V hn))
end Go.Proofs.Ytebjmnppeohdiaa
