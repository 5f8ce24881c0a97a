/-
  What the document's own digits do (fewer of gavelkindref01): the digits of the difference, of a greater number and a lesser one. The condition: at most 1000 digits.
-/
import Derived.Test.YtmmjkbjceocpmaaDoorRefB
namespace Go.Proofs.YtmmjkbjceocpmaaDoor
open Go.RowKit
set_option linter.unusedVariables false

/-- What holds of the digits so far. -/
def FewerRel (A B : List Int) (base : Nat) (w : World) (v c i : Value) (wr : World) : Prop :=
  ∃ (k : Nat) (br : Int) (O : List Int), k ≤ A.length ∧ (br = 0 ∨ br = 1) ∧ O.length = k ∧ Digs O ∧
    dval O - 10 ^ k * br = dval (A.take k) - dval (B.take k) ∧ i = .int .i64 k ∧ c = .int .i64 br ∧ Own wr base v O ∧ Below base w wr

theorem fewer_next {A B O : List Int} {base k : Nat} {w w1 : World} {v1 : Value} {br d d' b' : Int}
    (HV : O.length = k ∧ Digs O ∧ dval O - 10 ^ k * br = dval (A.take k) - dval (B.take k)) (hk : k < A.length)
    (hd : d = A.getD k 0 - br - B.getD k 0) (hb' : b' = 0 ∨ b' = 1) (hd' : d' = d + 10 * b') (h0 : 0 ≤ d') (h9 : d' ≤ 9)
    (hown : Own w1 base v1 (O ++ [d'])) (hb : Below base w w1) : FewerRel A B base w v1 (.int .i64 b') (.int .i64 ((k : Int) + 1)) w1 := by
  obtain ⟨e2, e3, e4⟩ := HV
  subst hd'
  exact ⟨k + 1, b', O ++ [d + 10 * b'], by omega, hb', by simp [e2], e3.snoc h0 h9, fewer_step A B O k br d e2 e4 hd b', by go_num, rfl, hown, hb⟩

set_option maxHeartbeats 1000000 in
theorem fewer_any (v v' : Value) (m n : Nat) (w : World) (hle : n ≤ m) (hv : Sl w v (digs m)) (hv' : Sl w v' (digs n)) (hm : (digs m).length ≤ 1000) :
    Calls Tryd.prog 48 #[v, v'] w fun e w' => ∃ u, e = .returned u ∧ Sl w' u (digs (m - n)) ∧ Below w.heap.size w w' := by
  obtain ⟨a, cap, rfl, hcap, hc0, hA⟩ := hv
  obtain ⟨b, cap', rfl, hcap', hc0', hB⟩ := hv'
  clear hcap hcap' hc0 hc0'
  have hl := digs_len_mono hle
  obtain ⟨A, hAe⟩ : ∃ A, A = digs m := ⟨_, rfl⟩
  obtain ⟨B, hBe⟩ : ∃ B, B = digs n := ⟨_, rfl⟩
  have dA : Digs A := by rw [hAe]; exact digs_ok m
  have dB : Digs B := by rw [hBe]; exact digs_ok n
  rw [← hAe] at hA hm hl ⊢
  rw [← hBe] at hB hl ⊢
  have H : Hid (Digs A ∧ Digs B ∧ A = digs m ∧ B = digs n ∧ n ≤ m) := ⟨dA, dB, hAe, hBe, hle⟩
  clear dA dB hAe hBe hle
  go_enter Tryd.func48, Tryd.ntmps48
  go_wp2
  go_loopw [5, 6, 7] (fun v c i wr => FewerRel A B w.heap.size w v c i wr) (fun _ _ i _ => A.length - (intOf i).toNat)
  case atStart => exact ⟨0, 0, [], by omega, .inl rfl, rfl, fun d hd => by (cases hd), by simp [dval], rfl, rfl, Own.nil _ _, Below.refl _ _⟩
  case round =>
    obtain ⟨k, br, O, hk, hbr, hOl, hOd, hval, rfl, rfl, hown, hb⟩ := hrel
    have HV := Lib.hid (And.intro hOl (And.intro hOd hval))
    have hOk : O.length ≤ 1001 := by omega
    have hbr0 : 0 ≤ br := by omega
    have hbr1 : br ≤ 1 := by omega
    have HBR := Lib.hid hbr
    clear hOl hOd hval hbr
    have hg1 := getD_in A H.out.1 k
    have hg2 := getD_in B H.out.2.1 k
    by_cases h1 : k < A.length
    · obtain ⟨c, off, rfl, hc⟩ := (hA.below hb).2 k h1
      obtain ⟨x, hx⟩ : ∃ x, x = A.getD k 0 := ⟨_, rfl⟩
      rw [← hx] at hc hg1
      have HX := Lib.hid hx; clear hx
      by_cases h2 : k < B.length
      · obtain ⟨c', off', rfl, hc'⟩ := (hB.below hb).2 k h2
        obtain ⟨y, hy⟩ : ∃ y, y = B.getD k 0 := ⟨_, rfl⟩
        rw [← hy] at hc' hg2
        have HY := Lib.hid hy; clear hy
        by_cases hn : x - br - y < 0
        · go_wp2_with (at_builtin; refine wp_push wr rfl (.tmp 35) (.tmp 37) rfl w.heap.size _ O _ rfl hown rfl (by omega) hb.size ?_; intro v1 w1 hown1 hb1)
          go_roundw
          case rel => exact fewer_next (b' := 1) (d := x - br - y) HV.out h1 (by rw [← HX.out, ← HY.out]) (.inr rfl) (by omega) (by omega) (by omega) hown1 (hb.trans hb1)
          case measure => simp [intOf]; omega
        · go_wp2_with (at_builtin; refine wp_push wr rfl (.tmp 35) (.tmp 37) rfl w.heap.size _ O _ rfl hown rfl (by omega) hb.size ?_; intro v1 w1 hown1 hb1)
          go_roundw
          case rel => exact fewer_next (b' := 0) (d := x - br - y) HV.out h1 (by rw [← HX.out, ← HY.out]) (.inl rfl) (by omega) (by omega) (by omega) hown1 (hb.trans hb1)
          case measure => simp [intOf]; omega
      · have HY : Hid (0 = B.getD k 0) := (getD_past B k (by omega)).symm
        clear hg2
        by_cases hn : x - br < 0
        · go_wp2_with (at_builtin; refine wp_push wr rfl (.tmp 35) (.tmp 37) rfl w.heap.size _ O _ rfl hown rfl (by omega) hb.size ?_; intro v1 w1 hown1 hb1)
          go_roundw
          case rel => exact fewer_next (b' := 1) (d := x - br - 0) HV.out h1 (by rw [← HX.out, ← HY.out]) (.inr rfl) (by omega) (by omega) (by omega) hown1 (hb.trans hb1)
          case measure => simp [intOf]; omega
        · go_wp2_with (at_builtin; refine wp_push wr rfl (.tmp 35) (.tmp 37) rfl w.heap.size _ O _ rfl hown rfl (by omega) hb.size ?_; intro v1 w1 hown1 hb1)
          go_roundw
          case rel => exact fewer_next (b' := 0) (d := x - br - 0) HV.out h1 (by rw [← HX.out, ← HY.out]) (.inl rfl) (by omega) (by omega) (by omega) hown1 (hb.trans hb1)
          case measure => simp [intOf]; omega
    · have HS : Hid (Sl wr u5 O) := hown.sl (digs_inR HV.out.2.1)
      have HE : Hid ((dval O).toNat = m - n) := by
        have h := H.out
        have hv := HV.out.2.2
        rw [h.2.2.1, h.2.2.2.1] at hv
        have := fewer_end m n h.2.2.2.2 O k br HBR.out (by rw [← h.2.2.1]; omega) HV.out.1 HV.out.2.1 hv
        show (dval O).toNat = m - n
        omega
      clear hg1 hg2
      go_wp2_with (go_at_call 49; refine (trim_any u5 O wr HS.out HV.out.2.1 (by omega)).mono ?_; rintro e w2 ⟨v2, rfl, hs2, rfl⟩)
      go_ret
      exact ⟨_, rfl, by rw [← HE.out]; exact hs2, hb⟩
end Go.Proofs.YtmmjkbjceocpmaaDoor
