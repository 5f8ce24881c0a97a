/-
  What the document's own digits do (more and fewer of gavelkindref01): the digits of the sum, and of the difference. The condition: at most 1000 digits.
-/
import Derived.Test.YtmmjkbjceocpmaaDoorRefA
namespace Go.Proofs.YtmmjkbjceocpmaaDoor
open Go.RowKit
set_option linter.unusedVariables false

/-- What holds of the digits so far. -/
def MoreRel (A B : List Int) (base : Nat) (w : World) (v c i : Value) (wr : World) : Prop :=
  ∃ (k : Nat) (cc : Int) (O : List Int), k ≤ max A.length B.length + 1 ∧ (k = max A.length B.length + 1 → cc = 0) ∧ 0 ≤ cc ∧ cc ≤ 1 ∧ O.length = k ∧ Digs O ∧
    dval O + 10 ^ k * cc = dval (A.take k) + dval (B.take k) ∧ i = .int .i64 k ∧ c = .int .i64 cc ∧ Own wr base v O ∧ Below base w wr

theorem getD_past (A : List Int) (k : Nat) (h : A.length ≤ k) : A.getD k 0 = 0 := by simp [List.getD, List.getElem?_eq_none h]

theorem more_next {A B O : List Int} {base k : Nat} {w w1 : World} {v1 : Value} {cc d : Int}
    (HV : (k = max A.length B.length + 1 → cc = 0) ∧ O.length = k ∧ Digs O ∧ dval O + 10 ^ k * cc = dval (A.take k) + dval (B.take k)) (dA : Digs A) (dB : Digs B)
    (hd : d = cc + A.getD k 0 + B.getD k 0) (h0 : 0 ≤ cc) (h1 : cc ≤ 1) (hk : k ≤ max A.length B.length + 1) (hlt : k < A.length ∨ k < B.length ∨ 0 < cc)
    (hown : Own w1 base v1 (O ++ [d % 10])) (hb : Below base w w1) : MoreRel A B base w v1 (.int .i64 (d / 10)) (.int .i64 ((k : Int) + 1)) w1 := by
  obtain ⟨e1, e2, e3, e4⟩ := HV
  have g1 := getD_in A dA k
  have g2 := getD_in B dB k
  refine ⟨k + 1, d / 10, O ++ [d % 10], ?_, ?_, by omega, by omega, by simp [e2], e3.snoc (by omega) (by omega), more_step A B O k cc d e2 e4 hd, by go_num, rfl, hown, hb⟩
  · rcases hlt with h | h | h
    · omega
    · omega
    · by_cases hh : k = max A.length B.length + 1
      · have := e1 hh; omega
      · omega
  · intro hh
    rw [getD_past A k (by omega), getD_past B k (by omega)] at hd
    omega

theorem more_last {A B O : List Int} {m n k : Nat} (HV : dval O + 10 ^ k * 0 = dval (A.take k) + dval (B.take k))
    (H : Digs A ∧ Digs B ∧ dval A = m ∧ dval B = n) (h1 : A.length ≤ k) (h2 : B.length ≤ k) : (dval O).toNat = m + n := by
  have := more_end A B O k h1 h2 HV
  rw [H.2.2.1, H.2.2.2] at this
  omega

set_option maxHeartbeats 1000000 in
theorem more_any (v v' : Value) (m n : Nat) (w : World) (hv : Sl w v (digs m)) (hv' : Sl w v' (digs n)) (hm : (digs m).length ≤ 1000) (hn : (digs n).length ≤ 1000) :
    Calls Tryd.prog 46 #[v, v'] w fun e w' => ∃ u, e = .returned u ∧ Sl w' u (digs (m + n)) ∧ Below w.heap.size w w' := by
  obtain ⟨a, cap, rfl, hcap, hc0, hA⟩ := hv
  obtain ⟨b, cap', rfl, hcap', hc0', hB⟩ := hv'
  clear hcap hcap' hc0 hc0'
  obtain ⟨A, hAe⟩ : ∃ A, A = digs m := ⟨_, rfl⟩
  obtain ⟨B, hBe⟩ : ∃ B, B = digs n := ⟨_, rfl⟩
  have dA : Digs A := by rw [hAe]; exact digs_ok m
  have dB : Digs B := by rw [hBe]; exact digs_ok n
  have vA : dval A = m := by rw [hAe]; exact dval_digs m
  have vB : dval B = n := by rw [hBe]; exact dval_digs n
  rw [← hAe] at hA hm ⊢
  rw [← hBe] at hB hn ⊢
  have H : Hid (Digs A ∧ Digs B ∧ dval A = m ∧ dval B = n) := ⟨dA, dB, vA, vB⟩
  clear dA dB vA vB hAe hBe
  go_enter Tryd.func46, Tryd.ntmps46
  go_wp2
  go_loopw [5, 6, 7] (fun v c i wr => MoreRel A B w.heap.size w v c i wr) (fun _ _ i _ => max A.length B.length + 1 - (intOf i).toNat)
  case atStart => exact ⟨0, 0, [], by omega, fun _ => rfl, by omega, by omega, rfl, fun d hd => by (cases hd), by simp [dval], rfl, rfl, Own.nil _ _, Below.refl _ _⟩
  case round =>
    obtain ⟨k, cc, O, hk, hke, hc1, hc2, hOl, hOd, hval, rfl, rfl, hown, hb⟩ := hrel
    have HV := Lib.hid (And.intro hke (And.intro hOl (And.intro hOd hval)))
    have hOk : O.length ≤ 1001 := by omega
    clear hke hOl hOd hval
    have hg1 := getD_in A H.out.1 k
    have hg2 := getD_in B H.out.2.1 k
    by_cases h1 : k < A.length
    · by_cases h2 : k < B.length
      · skip
        obtain ⟨c, off, rfl, hc⟩ := (hA.below hb).2 k h1
        obtain ⟨x, hx⟩ : ∃ x, x = A.getD k 0 := ⟨_, rfl⟩
        rw [← hx] at hc hg1
        have HX := Lib.hid hx; clear hx
        obtain ⟨c', off', rfl, hc'⟩ := (hB.below hb).2 k h2
        obtain ⟨y, hy⟩ : ∃ y, y = B.getD k 0 := ⟨_, rfl⟩
        rw [← hy] at hc' hg2
        have HY := Lib.hid hy; clear hy
        go_wp2_with (at_builtin; refine wp_push wr rfl (.tmp 46) (.tmp 49) rfl w.heap.size _ O _ rfl hown rfl (by omega) hb.size ?_; intro v1 w1 hown1 hb1)
        go_roundw
        case rel => exact more_next HV.out H.out.1 H.out.2.1 (by have e1 := HX.out; have e2 := HY.out; omega) hc1 hc2 hk (by omega) hown1 (hb.trans hb1)
        case measure => simp [intOf]; omega
      · skip
        obtain ⟨c, off, rfl, hc⟩ := (hA.below hb).2 k h1
        obtain ⟨x, hx⟩ : ∃ x, x = A.getD k 0 := ⟨_, rfl⟩
        rw [← hx] at hc hg1
        have HX := Lib.hid hx; clear hx
        have HY : Hid (0 = B.getD k 0) := (getD_past B k (by omega)).symm
        clear hg2
        go_wp2_with (at_builtin; refine wp_push wr rfl (.tmp 46) (.tmp 49) rfl w.heap.size _ O _ rfl hown rfl (by omega) hb.size ?_; intro v1 w1 hown1 hb1)
        go_roundw
        case rel => exact more_next HV.out H.out.1 H.out.2.1 (by have e1 := HX.out; have e2 := HY.out; omega) hc1 hc2 hk (by omega) hown1 (hb.trans hb1)
        case measure => simp [intOf]; omega
    · have hd1 : decide (k < A.length) = false := by simpa using h1
      by_cases h2 : k < B.length
      · skip
        have HX : Hid (0 = A.getD k 0) := (getD_past A k (by omega)).symm
        clear hg1
        obtain ⟨c', off', rfl, hc'⟩ := (hB.below hb).2 k h2
        obtain ⟨y, hy⟩ : ∃ y, y = B.getD k 0 := ⟨_, rfl⟩
        rw [← hy] at hc' hg2
        have HY := Lib.hid hy; clear hy
        go_wp2_with (at_builtin; refine wp_push wr rfl (.tmp 46) (.tmp 49) rfl w.heap.size _ O _ rfl hown rfl (by omega) hb.size ?_; intro v1 w1 hown1 hb1)
        go_roundw
        case rel => exact more_next HV.out H.out.1 H.out.2.1 (by have e1 := HX.out; have e2 := HY.out; omega) hc1 hc2 hk (by omega) hown1 (hb.trans hb1)
        case measure => simp [intOf]; omega
      · have hd2 : decide (k < B.length) = false := by simpa using h2
        by_cases h3 : cc = 0
        · subst h3
          have HS : Hid (Sl wr u5 O) := hown.sl (digs_inR HV.out.2.2.1)
          go_wp2_with (go_at_call 49; refine (trim_any u5 O wr HS.out HV.out.2.2.1 (by omega)).mono ?_; rintro e w2 ⟨v2, rfl, hs2, rfl⟩)
          go_ret
          exact ⟨_, rfl, by rw [← more_last HV.out.2.2.2 H.out (by omega) (by omega)]; exact hs2, hb⟩
        · have hpos : 0 < cc := by omega
          have hkm : k ≤ max A.length B.length := by
            by_cases hh : k = max A.length B.length + 1
            · exact absurd (HV.out.1 hh) h3
            · omega
          have HX : Hid (0 = A.getD k 0) := (getD_past A k (by omega)).symm
          clear hg1
          have HY : Hid (0 = B.getD k 0) := (getD_past B k (by omega)).symm
          clear hg2
          go_wp2_with (at_builtin; refine wp_push wr rfl (.tmp 46) (.tmp 49) rfl w.heap.size _ O _ rfl hown rfl (by omega) hb.size ?_; intro v1 w1 hown1 hb1)
          go_roundw
          case rel => exact more_next HV.out H.out.1 H.out.2.1 (by have e1 := HX.out; have e2 := HY.out; omega) hc1 hc2 hk (by omega) hown1 (hb.trans hb1)
          case measure => simp [intOf]; omega
end Go.Proofs.YtmmjkbjceocpmaaDoor
