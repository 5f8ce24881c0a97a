/-
  What the document's own Int and Told (of gavelkindref01) do: the number, if it is in range. The condition: at most 900 digits.
-/
import Derived.Test.YtmmjkbjceocpmaaDoorRefI
namespace Go.Proofs.YtmmjkbjceocpmaaDoor
open Go.RowKit
set_option linter.unusedVariables false

set_option maxHeartbeats 4000000 in
theorem int_in (v : Value) (x : Int) (w : World) (hv : Big w v x) (hl : (digs x.natAbs).length ≤ 900) (h : ¬ x < lst) (h' : ¬ mst < x) :
    Calls Tryd.prog 50 #[v] w fun e w' => e = .returned (.tuple #[.int .i64 x, .bool true]) ∧ Below w.heap.size w w' := by
  obtain ⟨a, c, rfl⟩ := hv.form
  generalize hsx : decide (x < 0) = sx at *
  have HS := Lib.hid hsx; clear hsx
  have hb0 : Below w.heap.size w (w.alloc (.cells #[.bool sx, .slice a (digs x.natAbs).length c] 56)).drew := ((Below.refl _ _).alloc (Nat.le_refl _) _).drew
  have hOf := of_any lst lst_in (w.alloc (.cells #[.bool sx, .slice a (digs x.natAbs).length c] 56)).drew
  have hOm := fun w2 => of_any mst mst_in w2
  obtain ⟨cm, hcm, hcm0⟩ : ∃ cm, cm = cmpv x lst ∧ ¬ cm < 0 := ⟨_, rfl, by unfold cmpv; rw [if_neg h]; split <;> omega⟩
  have hC := fun w1 r1 (hb : Below (w.alloc (.cells #[.bool sx, .slice a (digs x.natAbs).length c] 56)).drew.heap.size _ w1) (hr : Big w1 r1 lst) =>
    bcmp _ r1 x lst w1 ((hv.below hb0).below hb) hr (by omega) (by have := digs_19 lst_in; omega) (len_sub x lst hl lst_in)
  rw [← hcm] at hC
  have hC' := fun w1 r1 (hb : Below (w.alloc (.cells #[.bool sx, .slice a (digs x.natAbs).length c] 56)).drew.heap.size _ w1) (hr : Big w1 r1 mst) =>
    bcmp _ r1 x mst w1 ((hv.below hb0).below hb) hr (by omega) (by have := digs_19 mst_in; omega) (len_sub x mst hl mst_in)
  obtain ⟨cn, hcn, hcn0⟩ : ∃ cn, cn = cmpv x mst ∧ ¬ 0 < cn := ⟨_, rfl, by unfold cmpv; split <;> (try split) <;> omega⟩
  rw [← hcn] at hC'
  have hce : decide (0 < cn) = false := by simpa using hcn0
  have hcd : decide (cm < 0) = false := by simpa using hcm0
  unfold lst at hOf
  unfold mst at hOm
  have HX : Hid (x = if sx = true then -dval (digs x.natAbs) else dval (digs x.natAbs)) := by
    have hs := HS.out
    have hd := dval_digs x.natAbs
    show x = _
    rw [hd, ← hs]
    by_cases h0 : x < 0
    · rw [if_pos (by simpa using h0)]; omega
    · rw [if_neg (by simpa using h0)]; omega
  have hIn : InR x := by unfold lst at h; unfold mst at h'; unfold InR; omega
  have hdig : Hid (Digs (digs x.natAbs)) := digs_ok _
  have hSl : ∀ w1, Below (w.alloc (.cells #[.bool sx, .slice a (digs x.natAbs).length c] 56)).drew.heap.size (w.alloc (.cells #[.bool sx, .slice a (digs x.natAbs).length c] 56)).drew w1 → Reads w1 a (digs x.natAbs) := by
    intro w1 hb1
    obtain ⟨u, hu, hs⟩ := (hv.below hb0).below hb1
    simp at hu
    obtain ⟨_, rfl⟩ := hu
    obtain ⟨a1, c1, h1, _, _, h4⟩ := hs
    injection h1 with h1 h2 h3
    subst h1
    exact h4
  have hDv : Hid (dval (digs x.natAbs) = x.natAbs) := dval_digs _
  have hIN := Lib.hid hIn
  clear hv h h' hcm hcm0 hIn hcn hcn0
  generalize hD : digs x.natAbs = D at *
  have HDD := Lib.hid hD; clear hD
  go_enter Tryd.func50, Tryd.ntmps50
  go_wp2
  go_region_held3 (fun w' => w'.cell? ⟨w.heap.size, 0, none⟩ = some (.bool sx) ∧ w'.cell? ⟨w.heap.size, 1, none⟩ = some (.slice a D.length c)) (first | (exact ⟨d0, d1⟩) | (exact ⟨e0, e1⟩) | (exact ⟨i0, i1⟩) | (exact ⟨j0, j1⟩) | (simp [go_sem]))
    (first
      | (go_at_call 25; (with_reducible refine hOf.mono ?_); rintro e w1 ⟨r1, rfl, hr1, hb1⟩; obtain ⟨d0, d1⟩ := box1 hb1)
      | (go_at_call 55; (with_reducible refine (hC _ _ hb1 hr1).mono ?_); rintro e w2 ⟨rfl, hb2⟩; have hb12 := hb1.trans (hb2.mono hb1.size); obtain ⟨e0, e1⟩ := box1 hb12)
      | (go_at_call 25; (with_reducible refine (hOm _).mono ?_); rintro e w3 ⟨r3, rfl, hr3, hb3⟩; have hb13 := hb12.trans (hb3.mono hb12.size); obtain ⟨i0, i1⟩ := box1 hb13)
      | (go_at_call 55; (with_reducible refine (hC' _ _ hb13 hr3).mono ?_); rintro e w4 ⟨rfl, hb4⟩; have hb14 := hb13.trans (hb4.mono hb13.size); obtain ⟨j0, j1⟩ := box1 hb14))
  go_wp2
  have hRd := hSl _ hb14
  clear hSl hC hC' hOf hOm
  rcases sx with _ | _
  · have HXX : Hid (x = dval D) := by have h := HX.out; simp at h; exact h
    have hbd : Hid (dval D ≤ 9223372036854775807) := by
      have h1 := HXX.out; have h2 := hIN.out; unfold InR at h2
      show dval D ≤ _
      omega
    go_loop [4, 5] (fun n i => ∃ k : Nat, k ≤ D.length ∧ i = .int .i64 ((k : Int) - 1) ∧ n = .int .i64 (dval (D.drop k))) (fun _ i => (intOf i + 1).toNat)
    case atStart => exact ⟨D.length, Nat.le_refl _, rfl, by rw [List.drop_length]; simp [dval]⟩
    case round =>
      obtain ⟨k, hk, hi, rfl⟩ := hrel
      by_cases h0 : k = 0
      · subst h0
        simp at hi
        subst hi
        go_wp2
        go_ret2
        refine ⟨?_, hb0.trans (hb14.mono hb0.size)⟩
        rw [show x = dval (D.drop 0) from HXX.out.trans (by rw [List.drop_zero])]
        first | rfl | simp
      · obtain ⟨j, rfl⟩ : ∃ j, k = j + 1 := ⟨k - 1, by omega⟩
        have hi' : u5 = .int .i64 (j : Int) := by rw [hi]; congr 1; omega
        clear hi
        subst hi'
        obtain ⟨b, off, rfl, hc⟩ := hRd.2 j (by omega)
        have hlt : j < D.length := by omega
        have hg := getD_in D hdig.out j
        have hs := dval_drop D j hlt
        have hle := dval_drop_le D hdig.out j
        have hle' := dval_drop_le D hdig.out (j + 1)
        have hbb := hbd.out
        obtain ⟨z, hz⟩ : ∃ z, z = D.getD j 0 := ⟨_, rfl⟩
        obtain ⟨t, ht⟩ : ∃ t, t = dval (D.drop (j + 1)) := ⟨_, rfl⟩
        obtain ⟨t', ht'⟩ : ∃ t', t' = dval (D.drop j) := ⟨_, rfl⟩
        rw [← hz] at hc hg hs
        rw [← ht] at hs hle' ⊢
        rw [← ht'] at hs hle
        have b1 : t * 10 ≤ 9223372036854775808 := by omega
        have b2 : t' ≤ 9223372036854775807 := by omega
        have b3 : t * 10 + z ≤ 9223372036854775807 := by omega
        have b4 : 0 ≤ t := by omega
        have b5 : 0 ≤ z := by omega
        have HT := Lib.hid (And.intro ht' (And.intro hs ht)); clear hz ht' hs ht hle hle' hbb hg
        go_wp2
        go_round
        case rel => exact ⟨j, by omega, rfl, by have := HT.out; rw [← this.1, this.2.1]; first | rfl | (congr 1; omega)⟩
        case measure => simp [intOf]
  · have HXX : Hid (x = -dval D) := by have h := HX.out; simp at h; exact h
    have hbd : Hid (dval D ≤ 9223372036854775808) := by
      have h1 := HXX.out; have h2 := hIN.out; unfold InR at h2
      show dval D ≤ _
      omega
    go_loop [4, 5] (fun n i => ∃ k : Nat, k ≤ D.length ∧ i = .int .i64 ((k : Int) - 1) ∧ n = .int .i64 (-dval (D.drop k))) (fun _ i => (intOf i + 1).toNat)
    case atStart => exact ⟨D.length, Nat.le_refl _, rfl, by rw [List.drop_length]; simp [dval]⟩
    case round =>
      obtain ⟨k, hk, hi, rfl⟩ := hrel
      by_cases h0 : k = 0
      · subst h0
        simp at hi
        subst hi
        go_wp2
        go_ret2
        refine ⟨?_, hb0.trans (hb14.mono hb0.size)⟩
        rw [show x = -dval (D.drop 0) from HXX.out.trans (by rw [List.drop_zero])]
        first | rfl | simp
      · obtain ⟨j, rfl⟩ : ∃ j, k = j + 1 := ⟨k - 1, by omega⟩
        have hi' : u5 = .int .i64 (j : Int) := by rw [hi]; congr 1; omega
        clear hi
        subst hi'
        obtain ⟨b, off, rfl, hc⟩ := hRd.2 j (by omega)
        have hlt : j < D.length := by omega
        have hg := getD_in D hdig.out j
        have hs := dval_drop D j hlt
        have hle := dval_drop_le D hdig.out j
        have hle' := dval_drop_le D hdig.out (j + 1)
        have hbb := hbd.out
        obtain ⟨z, hz⟩ : ∃ z, z = D.getD j 0 := ⟨_, rfl⟩
        obtain ⟨t, ht⟩ : ∃ t, t = dval (D.drop (j + 1)) := ⟨_, rfl⟩
        obtain ⟨t', ht'⟩ : ∃ t', t' = dval (D.drop j) := ⟨_, rfl⟩
        rw [← hz] at hc hg hs
        rw [← ht] at hs hle' ⊢
        rw [← ht'] at hs hle
        have b1 : t * 10 ≤ 9223372036854775808 := by omega
        have b2 : t' ≤ 9223372036854775808 := by omega
        have b3 : t * 10 + z ≤ 9223372036854775808 := by omega
        have b4 : 0 ≤ t := by omega
        have b5 : 0 ≤ z := by omega
        have HT := Lib.hid (And.intro ht' (And.intro hs ht)); clear hz ht' hs ht hle hle' hbb hg
        go_wp2
        go_round
        case rel => exact ⟨j, by omega, rfl, by have := HT.out; rw [← this.1, this.2.1]; first | rfl | (congr 1; omega)⟩
        case measure => simp [intOf]


/-- Int. -/
theorem bint (v : Value) (x : Int) (w : World) (hv : Big w v x) (hl : (digs x.natAbs).length ≤ 900) :
    Calls Tryd.prog 50 #[v] w fun e w' => e = .returned (.tuple #[.int .i64 (tv x), .bool (decide (InR x))]) ∧ Below w.heap.size w w' := by
  by_cases h : x < lst
  · have hn : ¬ InR x := by unfold lst at h; unfold InR; omega
    rw [tv_out hn, decide_eq_false hn]; exact int_lo v x w hv hl h
  · by_cases h' : mst < x
    · have hn : ¬ InR x := by unfold mst at h'; unfold InR; omega
      rw [tv_out hn, decide_eq_false hn]; exact int_hi v x w hv hl h h'
    · have hn : InR x := by unfold lst at h; unfold mst at h'; unfold InR; omega
      rw [tv_in hn, decide_eq_true hn]; exact int_in v x w hv hl h h'

set_option maxHeartbeats 400000 in
/-- Told. -/
theorem told_any (v : Value) (x : Int) (w : World) (hv : Big w v x) (hl : (digs x.natAbs).length ≤ 900) :
    Calls Tryd.prog 35 #[v] w fun e w' => e = .returned (.tuple #[.int .i64 (tv x), .int .i64 (te x)]) ∧ Below w.heap.size w w' := by
  obtain ⟨a, c, rfl⟩ := hv.form
  generalize hsx : decide (x < 0) = sx at *
  have hb0 : Below w.heap.size w (w.alloc (.cells #[.bool sx, .slice a (digs x.natAbs).length c] 56)) := (Below.refl _ _).alloc (Nat.le_refl _) _
  have hI := bint _ x _ (hv.below hb0) hl
  clear hv hsx
  by_cases h : InR x
  · rw [tv_in h, decide_eq_true h] at hI
    rw [tv_in h, te_in h]
    clear h
    go_enter Tryd.func35, Tryd.ntmps35
    go_wp2_with (go_at_call 50; refine hI.mono ?_; rintro e w1 ⟨rfl, hb1⟩)
    go_ret2
    exact ⟨rfl, hb0.trans (hb1.mono hb0.size)⟩
  · rw [tv_out h, decide_eq_false h] at hI
    rw [tv_out h, te_out h]
    clear h
    go_enter Tryd.func35, Tryd.ntmps35
    go_wp2_with (go_at_call 50; refine hI.mono ?_; rintro e w1 ⟨rfl, hb1⟩)
    go_ret2
    exact ⟨rfl, hb0.trans (hb1.mono hb0.size)⟩

end Go.Proofs.YtmmjkbjceocpmaaDoor
