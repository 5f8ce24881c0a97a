/-
  What the document's own digits do (trim, digits, more, fewer of gavelkindref01), as whole numbers. The condition: at most 1000 digits. What the document's own digits do (more and fewer of gavelkindref01): the digits of the sum, and of the difference. The condition: at most 1000 digits. What the document's own digits do (fewer of gavelkindref01): the digits of the difference, of a greater number and a lesser one. The condition: at most 1000 digits. What the document's own big numbers do (Flip, Plus, Minus, Cmp of gavelkindref01), as whole numbers. The condition: at most 900 digits.
-/
import Derived.Test.YtebjmnppeohdiaaDig
import Derived.Test.YtebjmnppeohdiaaBtR
import Derived.Deep.QuietTactic
import Derived.BigQuiet
import Derived.WalkSmall
namespace Go.Proofs.Ytebjmnppeohdiaa
open Go.RowKit
set_option linter.unusedVariables false

/- What the document's own digits do (trim, digits, more, fewer of gavelkindref01), as whole numbers. The condition: at most 1000 digits. -/
theorem digs_inR {L : List Int} (h : Digs L) : ∀ z ∈ L, InR z := fun z hz => by have := h z hz; unfold InR; omega

theorem Sl.take {w : World} {a : Option Addr} {cap n : Nat} {L : List Int} (h : Reads w a L) (hc : L.length ≤ cap) (hc0 : a = none → cap = 0) (hn : n ≤ L.length) : Sl w (.slice a n cap) (L.take n) := by
  have hl : (L.take n).length = n := by rw [List.length_take]; omega
  refine ⟨a, cap, by rw [hl], by omega, hc0, fun z hz => h.1 z (List.mem_of_mem_take hz), fun i hi => ?_⟩
  obtain ⟨b, off, ha, hcell⟩ := h.2 i (by omega)
  refine ⟨b, off, ha, ?_⟩
  rw [hcell, getD_lt _ _ hi, getD_lt _ _ (by omega), List.getElem_take]

set_option maxHeartbeats 400000 in
theorem trim_any (v : Value) (L : List Int) (w : World) (hv : Sl w v L) (hd : Digs L) (hn : L.length ≤ 2000) :
    Calls Try.prog 70 #[v] w fun e w' => ∃ v', e = .returned v' ∧ Sl w v' (digs (dval L).toNat) ∧ w = w' := by
  obtain ⟨a, cap, rfl, hcap, hc0, hL⟩ := hv
  go_enter Try.func70, Try.ntmps70
  go_wp2
  go_loop [3] (fun i => ∃ n : Nat, n ≤ L.length ∧ i = .int .i64 n ∧ dval (L.take n) = dval L) (fun i => (intOf i).toNat)
  case atStart => exact ⟨L.length, Nat.le_refl _, rfl, by rw [List.take_length]⟩
  case round =>
    obtain ⟨n, hnl, rfl, hv⟩ := hrel
    have HV := Lib.hid hv; clear hv
    by_cases h0 : n = 0
    · subst h0
      have HS : Hid (Sl w (.slice a 0 cap) (digs (dval L).toNat)) := by
        have := Sl.take (n := 0) hL hcap hc0 (Nat.zero_le _)
        rw [trim_digs L hd 0 HV.out (.inl rfl) (Nat.zero_le _)] at this
        exact this
      rcases a with _ | ad
      · have hcc : cap = 0 := hc0 rfl
        subst hcc
        go_wp2
        go_ret
        exact ⟨_, rfl, HS.out, rfl⟩
      · go_wp2
        go_ret
        exact ⟨_, rfl, HS.out, rfl⟩
    · obtain ⟨j, rfl⟩ : ∃ j, n = j + 1 := ⟨n - 1, by omega⟩
      have HS : Hid (L.getD j 0 ≠ 0 → Sl w (.slice a (j + 1) cap) (digs (dval L).toNat)) := by
        intro hh
        have := Sl.take (n := j + 1) hL hcap hc0 hnl
        rw [trim_digs L hd (j + 1) HV.out (.inr hh) hnl] at this
        exact this
      obtain ⟨b, off, rfl, hc⟩ := hL.2 j (by omega)
      obtain ⟨z, hz⟩ : ∃ z, z = L.getD j 0 := ⟨_, rfl⟩
      rw [← hz] at hc
      have HZ := Lib.hid hz; clear hz
      have hjc : j + 1 ≤ cap := by omega
      by_cases hz0 : z = 0
      · subst hz0
        go_wp2
        go_round
        case rel => exact ⟨j, by omega, rfl, trim_step L j HV.out HZ.out.symm⟩
        case measure => simp [intOf]
      · have hz1 : (z == 0) = false := by simpa using hz0
        have HN := Lib.hid hz0; clear hz0
        go_wp2
        go_ret
        exact ⟨_, rfl, HS.out (by rw [← HZ.out]; exact HN.out), rfl⟩

theorem cmp_lt {m n : Nat} (h : m < n) : cmpv m n = -1 := by unfold cmpv; rw [if_pos (by omega)]
theorem cmp_gt {m n : Nat} (h : n < m) : cmpv m n = 1 := by unfold cmpv; rw [if_neg (by omega), if_pos (by omega)]
theorem cmp_eq (m : Nat) : cmpv m m = 0 := by unfold cmpv; simp

theorem Sl.at {w : World} {v : Value} {L : List Int} (h : Sl w v L) : ∃ a cap, v = .slice a L.length cap ∧ ∀ i, i < L.length → ∃ b off, a = some ⟨b, off, none⟩ ∧ w.cell? ⟨b, off + i, none⟩ = some (.int .i64 (L.getD i 0)) := by
  obtain ⟨a, cap, h1, _, _, h4⟩ := h
  exact ⟨a, cap, h1, h4.2⟩

theorem ret_int {k : IntKind} {a b : Int} (h : a = b) : Ending.returned (.int k a) = .returned (.int k b) := by rw [h]

theorem digits_end {m n : Nat} {A B : List Int} (h : Digs A ∧ Digs B ∧ dval A = m ∧ dval B = n ∧ A.length = B.length ∧ A = digs m ∧ B = digs n) (hd : A.drop 0 = B.drop 0) : 0 = cmpv m n := by
  obtain ⟨_, _, h1, h2, _, _, _⟩ := h
  rw [List.drop_zero, List.drop_zero] at hd
  rw [hd, h2] at h1
  have : m = n := by omega
  rw [this, cmp_eq]
theorem digits_less {m n j : Nat} {x y : Int} {A B : List Int} (h : Digs A ∧ Digs B ∧ dval A = m ∧ dval B = n ∧ A.length = B.length ∧ A = digs m ∧ B = digs n) (hj : j < A.length) (hd : A.drop (j + 1) = B.drop (j + 1))
    (hx : x = A.getD j 0) (hy : y = B.getD j 0) (hxy : x < y) : -1 = cmpv m n := by
  obtain ⟨d1, d2, h1, h2, hl, _, _⟩ := h
  have := digits_lt A B d1 d2 j hj (by omega) hd (by omega)
  rw [h1, h2] at this
  rw [cmp_lt (by omega)]
theorem digits_more {m n j : Nat} {x y : Int} {A B : List Int} (h : Digs A ∧ Digs B ∧ dval A = m ∧ dval B = n ∧ A.length = B.length ∧ A = digs m ∧ B = digs n) (hj : j < A.length) (hd : A.drop (j + 1) = B.drop (j + 1))
    (hx : x = A.getD j 0) (hy : y = B.getD j 0) (hxy : y < x) : 1 = cmpv m n := by
  obtain ⟨d1, d2, h1, h2, hl, _, _⟩ := h
  have := digits_lt B A d2 d1 j (by omega) hj hd.symm (by omega)
  rw [h1, h2] at this
  rw [cmp_gt (by omega)]

set_option maxHeartbeats 400000 in
theorem digits_any (v v' : Value) (m n : Nat) (w : World) (hv : Sl w v (digs m)) (hv' : Sl w v' (digs n)) (hm : (digs m).length ≤ 1000) (hn : (digs n).length ≤ 1000) :
    Calls Try.prog 75 #[v, v'] w fun e w' => e = .returned (.int .i64 (cmpv m n)) ∧ Below w.heap.size w w' := by
  obtain ⟨a, cap, rfl, hcap, hc0, hA⟩ := hv
  obtain ⟨b, cap', rfl, hcap', hc0', hB⟩ := hv'
  clear hcap hcap' hc0 hc0'
  rcases Nat.lt_trichotomy (digs m).length (digs n).length with hl | hl | hl
  · rw [cmp_lt (len_lt hl)]
    have hne : ((((digs m).length : Nat) : Int) == (((digs n).length : Nat) : Int)) = false := by simp; omega
    have hne' : ((((digs m).length : Nat) : Int) != (((digs n).length : Nat) : Int)) = true := by simp; omega
    go_enter Try.func75, Try.ntmps75
    go_wp2
    go_ret
    exact ⟨rfl, Below.refl _ _⟩
  · obtain ⟨A, hAe⟩ : ∃ A, A = digs m := ⟨_, rfl⟩
    obtain ⟨B, hBe⟩ : ∃ B, B = digs n := ⟨_, rfl⟩
    have dA : Digs A := by rw [hAe]; exact digs_ok m
    have dB : Digs B := by rw [hBe]; exact digs_ok n
    have vA : dval A = m := by rw [hAe]; exact dval_digs m
    have vB : dval B = n := by rw [hBe]; exact dval_digs n
    rw [← hAe] at hA hl hm ⊢
    rw [← hBe] at hB hl hn ⊢
    rw [← hl]
    have H : Hid (Digs A ∧ Digs B ∧ dval A = m ∧ dval B = n ∧ A.length = B.length ∧ A = digs m ∧ B = digs n) := ⟨dA, dB, vA, vB, hl, hAe, hBe⟩
    clear dA dB vA vB hl hAe hBe hn
    go_enter Try.func75, Try.ntmps75
    go_wp2
    go_loopw [5] (fun i wr => ∃ k : Nat, k ≤ A.length ∧ i = .int .i64 ((k : Int) - 1) ∧ A.drop k = B.drop k ∧ Below w.heap.size w wr) (fun i _ => (intOf i + 1).toNat)
    case atStart => exact ⟨A.length, Nat.le_refl _, rfl, by have := H.out.2.2.2.2.1; rw [List.drop_length, this, List.drop_length], Below.refl _ _⟩
    case round =>
      obtain ⟨k, hk, hi, hdr, hb⟩ := hrel
      have HD := Lib.hid hdr; clear hdr
      by_cases h0 : k = 0
      · subst h0
        simp at hi
        subst hi
        go_wp2
        go_ret
        exact ⟨ret_int (digits_end H.out HD.out), hb⟩
      · obtain ⟨j, rfl⟩ : ∃ j, k = j + 1 := ⟨k - 1, by omega⟩
        have hi' : u5 = .int .i64 (j : Int) := by rw [hi]; congr 1; omega
        clear hi
        subst hi'
        obtain ⟨c, off, rfl, hc⟩ := (hA.below hb).2 j (by omega)
        obtain ⟨c', off', rfl, hc'⟩ := (hB.below hb).2 j (by have := H.out.2.2.2.2.1; omega)
        obtain ⟨x, hx⟩ : ∃ x, x = A.getD j 0 := ⟨_, rfl⟩
        obtain ⟨y, hy⟩ : ∃ y, y = B.getD j 0 := ⟨_, rfl⟩
        rw [← hx] at hc
        rw [← hy] at hc'
        have HX := Lib.hid hx; clear hx
        have HY := Lib.hid hy; clear hy
        have hjl : (j : Int) < (A.length : Int) := by omega
        have hj0 : (0 : Int) ≤ (j : Int) := by omega
        rcases Int.lt_trichotomy x y with hxy | hxy | hxy
        · go_wp2
          go_quiet (fail)
          go_wp2
          go_ret
          exact ⟨ret_int (digits_less H.out (by omega) HD.out HX.out HY.out hxy), below_drewN hb _⟩
        · subst hxy
          go_wp2
          go_quiet (fail)
          go_wp2
          go_quiet (fail)
          go_wp2
          go_roundw
          case rel => exact ⟨j, by omega, rfl, drop_step A B j (by omega) (by have := H.out.2.2.2.2.1; omega) HD.out (by rw [← HX.out, ← HY.out]), below_drewN hb _⟩
          case measure => simp [intOf]
        · have hxy' : ¬ x < y := by omega
          go_wp2
          go_quiet (fail)
          go_wp2
          go_quiet (fail)
          go_wp2
          go_ret
          exact ⟨ret_int (digits_more H.out (by omega) HD.out HX.out HY.out hxy), below_drewN (below_drewN hb _) _⟩
  · rw [cmp_gt (len_lt hl)]
    have hne : ((((digs m).length : Nat) : Int) == (((digs n).length : Nat) : Int)) = false := by simp; omega
    have hne' : ((((digs m).length : Nat) : Int) != (((digs n).length : Nat) : Int)) = true := by simp; omega
    have hge : ¬ (digs m).length < (digs n).length := by omega
    go_enter Try.func75, Try.ntmps75
    go_wp2
    go_ret
    exact ⟨rfl, Below.refl _ _⟩

/- What the document's own digits do (more and fewer of gavelkindref01): the digits of the sum, and of the difference. The condition: at most 1000 digits. -/
/-- What holds of the digits so far. -/
def MoreRel (A B : List Int) (base : Nat) (w : World) (v c i : Value) (wr : World) : Prop :=
  ∃ (k : Nat) (cc : Int) (O : List Int), k ≤ max A.length B.length + 1 ∧ (k = max A.length B.length + 1 → cc = 0) ∧ 0 ≤ cc ∧ cc ≤ 1 ∧ O.length = k ∧ Digs O ∧
    dval O + 10 ^ k * cc = dval (A.take k) + dval (B.take k) ∧ i = .int .i64 k ∧ c = .int .i64 cc ∧ Own wr base v O ∧ Below base w wr

theorem getD_past (A : List Int) (k : Nat) (h : A.length ≤ k) : A.getD k 0 = 0 := by simp [List.getD, List.getElem?_eq_none h]

theorem more_next {A B O : List Int} {base k : Nat} {w w1 : World} {v1 : Value} {cc d : Int}
    (HV : (k = max A.length B.length + 1 → cc = 0) ∧ O.length = k ∧ Digs O ∧ dval O + 10 ^ k * cc = dval (A.take k) + dval (B.take k)) (dA : Digs A) (dB : Digs B)
    (hd : d = cc + A.getD k 0 + B.getD k 0) (h0 : 0 ≤ cc) (h1 : cc ≤ 1) (hk : k ≤ max A.length B.length + 1) (hlt : k < A.length ∨ k < B.length ∨ 0 < cc)
    (hown : Own w1 base v1 (O ++ [d % 10])) (hb : Below base w w1) : MoreRel A B base w v1 (.int .i64 (d / 10)) (.int .i64 ((k : Int) + 1)) w1 := by
  obtain ⟨e1, e2, e3, e4⟩ := HV
  have g1 := getD_in A dA k
  have g2 := getD_in B dB k
  refine ⟨k + 1, d / 10, O ++ [d % 10], ?_, ?_, by omega, by omega, by simp [e2], e3.snoc (by omega) (by omega), more_step A B O k cc d e2 e4 hd, by go_num, rfl, hown, hb⟩
  · rcases hlt with h | h | h
    · omega
    · omega
    · by_cases hh : k = max A.length B.length + 1
      · have := e1 hh; omega
      · omega
  · intro hh
    rw [getD_past A k (by omega), getD_past B k (by omega)] at hd
    omega

theorem more_last {A B O : List Int} {m n k : Nat} (HV : dval O + 10 ^ k * 0 = dval (A.take k) + dval (B.take k))
    (H : Digs A ∧ Digs B ∧ dval A = m ∧ dval B = n) (h1 : A.length ≤ k) (h2 : B.length ≤ k) : (dval O).toNat = m + n := by
  have := more_end A B O k h1 h2 HV
  rw [H.2.2.1, H.2.2.2] at this
  omega

set_option maxHeartbeats 1000000 in
theorem more_any (v v' : Value) (m n : Nat) (w : World) (hv : Sl w v (digs m)) (hv' : Sl w v' (digs n)) (hm : (digs m).length ≤ 1000) (hn : (digs n).length ≤ 1000) :
    Calls Try.prog 69 #[v, v'] w fun e w' => ∃ u, e = .returned u ∧ Sl w' u (digs (m + n)) ∧ Below w.heap.size w w' := by
  obtain ⟨a, cap, rfl, hcap, hc0, hA⟩ := hv
  obtain ⟨b, cap', rfl, hcap', hc0', hB⟩ := hv'
  clear hcap hcap' hc0 hc0'
  obtain ⟨A, hAe⟩ : ∃ A, A = digs m := ⟨_, rfl⟩
  obtain ⟨B, hBe⟩ : ∃ B, B = digs n := ⟨_, rfl⟩
  have dA : Digs A := by rw [hAe]; exact digs_ok m
  have dB : Digs B := by rw [hBe]; exact digs_ok n
  have vA : dval A = m := by rw [hAe]; exact dval_digs m
  have vB : dval B = n := by rw [hBe]; exact dval_digs n
  rw [← hAe] at hA hm ⊢
  rw [← hBe] at hB hn ⊢
  have H : Hid (Digs A ∧ Digs B ∧ dval A = m ∧ dval B = n) := ⟨dA, dB, vA, vB⟩
  clear dA dB vA vB hAe hBe
  go_enter Try.func69, Try.ntmps69
  go_wp2
  go_loopw [5, 6, 7] (fun v c i wr => MoreRel A B w.heap.size w v c i wr) (fun _ _ i _ => max A.length B.length + 1 - (intOf i).toNat)
  case atStart => exact ⟨0, 0, [], by omega, fun _ => rfl, by omega, by omega, rfl, fun d hd => by (cases hd), by simp [dval], rfl, rfl, Own.nil _ _, Below.refl _ _⟩
  case round =>
    obtain ⟨k, cc, O, hk, hke, hc1, hc2, hOl, hOd, hval, rfl, rfl, hown, hb⟩ := hrel
    have HV := Lib.hid (And.intro hke (And.intro hOl (And.intro hOd hval)))
    have hOk : O.length ≤ 1001 := by omega
    clear hke hOl hOd hval
    have hg1 := getD_in A H.out.1 k
    have hg2 := getD_in B H.out.2.1 k
    by_cases h1 : k < A.length
    · by_cases h2 : k < B.length
      · skip
        obtain ⟨c, off, rfl, hc⟩ := (hA.below hb).2 k h1
        obtain ⟨x, hx⟩ : ∃ x, x = A.getD k 0 := ⟨_, rfl⟩
        rw [← hx] at hc hg1
        have HX := Lib.hid hx; clear hx
        obtain ⟨c', off', rfl, hc'⟩ := (hB.below hb).2 k h2
        obtain ⟨y, hy⟩ : ∃ y, y = B.getD k 0 := ⟨_, rfl⟩
        rw [← hy] at hc' hg2
        have HY := Lib.hid hy; clear hy
        go_wp2_with (at_builtin; refine wp_push wr rfl (.tmp 46) (.tmp 49) rfl w.heap.size _ O _ rfl hown rfl (by omega) hb.size ?_; intro v1 w1 hown1 hb1)
        go_roundw
        case rel => exact more_next HV.out H.out.1 H.out.2.1 (by have e1 := HX.out; have e2 := HY.out; omega) hc1 hc2 hk (by omega) hown1 (hb.trans hb1)
        case measure => simp [intOf]; omega
      · skip
        obtain ⟨c, off, rfl, hc⟩ := (hA.below hb).2 k h1
        obtain ⟨x, hx⟩ : ∃ x, x = A.getD k 0 := ⟨_, rfl⟩
        rw [← hx] at hc hg1
        have HX := Lib.hid hx; clear hx
        have HY : Hid (0 = B.getD k 0) := (getD_past B k (by omega)).symm
        clear hg2
        go_wp2_with (at_builtin; refine wp_push wr rfl (.tmp 46) (.tmp 49) rfl w.heap.size _ O _ rfl hown rfl (by omega) hb.size ?_; intro v1 w1 hown1 hb1)
        go_roundw
        case rel => exact more_next HV.out H.out.1 H.out.2.1 (by have e1 := HX.out; have e2 := HY.out; omega) hc1 hc2 hk (by omega) hown1 (hb.trans hb1)
        case measure => simp [intOf]; omega
    · have hd1 : decide (k < A.length) = false := by simpa using h1
      by_cases h2 : k < B.length
      · skip
        have HX : Hid (0 = A.getD k 0) := (getD_past A k (by omega)).symm
        clear hg1
        obtain ⟨c', off', rfl, hc'⟩ := (hB.below hb).2 k h2
        obtain ⟨y, hy⟩ : ∃ y, y = B.getD k 0 := ⟨_, rfl⟩
        rw [← hy] at hc' hg2
        have HY := Lib.hid hy; clear hy
        go_wp2_with (at_builtin; refine wp_push wr rfl (.tmp 46) (.tmp 49) rfl w.heap.size _ O _ rfl hown rfl (by omega) hb.size ?_; intro v1 w1 hown1 hb1)
        go_roundw
        case rel => exact more_next HV.out H.out.1 H.out.2.1 (by have e1 := HX.out; have e2 := HY.out; omega) hc1 hc2 hk (by omega) hown1 (hb.trans hb1)
        case measure => simp [intOf]; omega
      · have hd2 : decide (k < B.length) = false := by simpa using h2
        by_cases h3 : cc = 0
        · subst h3
          have HS : Hid (Sl wr u5 O) := hown.sl (digs_inR HV.out.2.2.1)
          go_wp2_with (go_at_call 70; refine (trim_any u5 O wr HS.out HV.out.2.2.1 (by omega)).mono ?_; rintro e w2 ⟨v2, rfl, hs2, rfl⟩)
          go_ret
          exact ⟨_, rfl, by rw [← more_last HV.out.2.2.2 H.out (by omega) (by omega)]; exact hs2, hb⟩
        · have hpos : 0 < cc := by omega
          have hkm : k ≤ max A.length B.length := by
            by_cases hh : k = max A.length B.length + 1
            · exact absurd (HV.out.1 hh) h3
            · omega
          have HX : Hid (0 = A.getD k 0) := (getD_past A k (by omega)).symm
          clear hg1
          have HY : Hid (0 = B.getD k 0) := (getD_past B k (by omega)).symm
          clear hg2
          go_wp2_with (at_builtin; refine wp_push wr rfl (.tmp 46) (.tmp 49) rfl w.heap.size _ O _ rfl hown rfl (by omega) hb.size ?_; intro v1 w1 hown1 hb1)
          go_roundw
          case rel => exact more_next HV.out H.out.1 H.out.2.1 (by have e1 := HX.out; have e2 := HY.out; omega) hc1 hc2 hk (by omega) hown1 (hb.trans hb1)
          case measure => simp [intOf]; omega
/- What the document's own digits do (fewer of gavelkindref01): the digits of the difference, of a greater number and a lesser one. The condition: at most 1000 digits. -/
/-- What holds of the digits so far. -/
def FewerRel (A B : List Int) (base : Nat) (w : World) (v c i : Value) (wr : World) : Prop :=
  ∃ (k : Nat) (br : Int) (O : List Int), k ≤ A.length ∧ (br = 0 ∨ br = 1) ∧ O.length = k ∧ Digs O ∧
    dval O - 10 ^ k * br = dval (A.take k) - dval (B.take k) ∧ i = .int .i64 k ∧ c = .int .i64 br ∧ Own wr base v O ∧ Below base w wr

theorem fewer_next {A B O : List Int} {base k : Nat} {w w1 : World} {v1 : Value} {br d d' b' : Int}
    (HV : O.length = k ∧ Digs O ∧ dval O - 10 ^ k * br = dval (A.take k) - dval (B.take k)) (hk : k < A.length)
    (hd : d = A.getD k 0 - br - B.getD k 0) (hb' : b' = 0 ∨ b' = 1) (hd' : d' = d + 10 * b') (h0 : 0 ≤ d') (h9 : d' ≤ 9)
    (hown : Own w1 base v1 (O ++ [d'])) (hb : Below base w w1) : FewerRel A B base w v1 (.int .i64 b') (.int .i64 ((k : Int) + 1)) w1 := by
  obtain ⟨e2, e3, e4⟩ := HV
  subst hd'
  exact ⟨k + 1, b', O ++ [d + 10 * b'], by omega, hb', by simp [e2], e3.snoc h0 h9, fewer_step A B O k br d e2 e4 hd b', by go_num, rfl, hown, hb⟩

set_option maxHeartbeats 1000000 in
theorem fewer_any (v v' : Value) (m n : Nat) (w : World) (hle : n ≤ m) (hv : Sl w v (digs m)) (hv' : Sl w v' (digs n)) (hm : (digs m).length ≤ 1000) :
    Calls Try.prog 76 #[v, v'] w fun e w' => ∃ u, e = .returned u ∧ Sl w' u (digs (m - n)) ∧ Below w.heap.size w w' := by
  obtain ⟨a, cap, rfl, hcap, hc0, hA⟩ := hv
  obtain ⟨b, cap', rfl, hcap', hc0', hB⟩ := hv'
  clear hcap hcap' hc0 hc0'
  have hl := digs_len_mono hle
  obtain ⟨A, hAe⟩ : ∃ A, A = digs m := ⟨_, rfl⟩
  obtain ⟨B, hBe⟩ : ∃ B, B = digs n := ⟨_, rfl⟩
  have dA : Digs A := by rw [hAe]; exact digs_ok m
  have dB : Digs B := by rw [hBe]; exact digs_ok n
  rw [← hAe] at hA hm hl ⊢
  rw [← hBe] at hB hl ⊢
  have H : Hid (Digs A ∧ Digs B ∧ A = digs m ∧ B = digs n ∧ n ≤ m) := ⟨dA, dB, hAe, hBe, hle⟩
  clear dA dB hAe hBe hle
  go_enter Try.func76, Try.ntmps76
  go_wp2
  go_loopw [5, 6, 7] (fun v c i wr => FewerRel A B w.heap.size w v c i wr) (fun _ _ i _ => A.length - (intOf i).toNat)
  case atStart => exact ⟨0, 0, [], by omega, .inl rfl, rfl, fun d hd => by (cases hd), by simp [dval], rfl, rfl, Own.nil _ _, Below.refl _ _⟩
  case round =>
    obtain ⟨k, br, O, hk, hbr, hOl, hOd, hval, rfl, rfl, hown, hb⟩ := hrel
    have HV := Lib.hid (And.intro hOl (And.intro hOd hval))
    have hOk : O.length ≤ 1001 := by omega
    have hbr0 : 0 ≤ br := by omega
    have hbr1 : br ≤ 1 := by omega
    have HBR := Lib.hid hbr
    clear hOl hOd hval hbr
    have hg1 := getD_in A H.out.1 k
    have hg2 := getD_in B H.out.2.1 k
    by_cases h1 : k < A.length
    · obtain ⟨c, off, rfl, hc⟩ := (hA.below hb).2 k h1
      obtain ⟨x, hx⟩ : ∃ x, x = A.getD k 0 := ⟨_, rfl⟩
      rw [← hx] at hc hg1
      have HX := Lib.hid hx; clear hx
      by_cases h2 : k < B.length
      · obtain ⟨c', off', rfl, hc'⟩ := (hB.below hb).2 k h2
        obtain ⟨y, hy⟩ : ∃ y, y = B.getD k 0 := ⟨_, rfl⟩
        rw [← hy] at hc' hg2
        have HY := Lib.hid hy; clear hy
        by_cases hn : x - br - y < 0
        · go_wp2_with (at_builtin; refine wp_push wr rfl (.tmp 35) (.tmp 37) rfl w.heap.size _ O _ rfl hown rfl (by omega) hb.size ?_; intro v1 w1 hown1 hb1)
          go_roundw
          case rel => exact fewer_next (b' := 1) (d := x - br - y) HV.out h1 (by rw [← HX.out, ← HY.out]) (.inr rfl) (by omega) (by omega) (by omega) hown1 (hb.trans hb1)
          case measure => simp [intOf]; omega
        · go_wp2_with (at_builtin; refine wp_push wr rfl (.tmp 35) (.tmp 37) rfl w.heap.size _ O _ rfl hown rfl (by omega) hb.size ?_; intro v1 w1 hown1 hb1)
          go_roundw
          case rel => exact fewer_next (b' := 0) (d := x - br - y) HV.out h1 (by rw [← HX.out, ← HY.out]) (.inl rfl) (by omega) (by omega) (by omega) hown1 (hb.trans hb1)
          case measure => simp [intOf]; omega
      · have HY : Hid (0 = B.getD k 0) := (getD_past B k (by omega)).symm
        clear hg2
        by_cases hn : x - br < 0
        · go_wp2_with (at_builtin; refine wp_push wr rfl (.tmp 35) (.tmp 37) rfl w.heap.size _ O _ rfl hown rfl (by omega) hb.size ?_; intro v1 w1 hown1 hb1)
          go_roundw
          case rel => exact fewer_next (b' := 1) (d := x - br - 0) HV.out h1 (by rw [← HX.out, ← HY.out]) (.inr rfl) (by omega) (by omega) (by omega) hown1 (hb.trans hb1)
          case measure => simp [intOf]; omega
        · go_wp2_with (at_builtin; refine wp_push wr rfl (.tmp 35) (.tmp 37) rfl w.heap.size _ O _ rfl hown rfl (by omega) hb.size ?_; intro v1 w1 hown1 hb1)
          go_roundw
          case rel => exact fewer_next (b' := 0) (d := x - br - 0) HV.out h1 (by rw [← HX.out, ← HY.out]) (.inl rfl) (by omega) (by omega) (by omega) hown1 (hb.trans hb1)
          case measure => simp [intOf]; omega
    · have HS : Hid (Sl wr u5 O) := hown.sl (digs_inR HV.out.2.1)
      have HE : Hid ((dval O).toNat = m - n) := by
        have h := H.out
        have hv := HV.out.2.2
        rw [h.2.2.1, h.2.2.2.1] at hv
        have := fewer_end m n h.2.2.2.2 O k br HBR.out (by rw [← h.2.2.1]; omega) HV.out.1 HV.out.2.1 hv
        show (dval O).toNat = m - n
        omega
      clear hg1 hg2
      go_wp2_with (go_at_call 70; refine (trim_any u5 O wr HS.out HV.out.2.1 (by omega)).mono ?_; rintro e w2 ⟨v2, rfl, hs2, rfl⟩)
      go_ret
      exact ⟨_, rfl, by rw [← HE.out]; exact hs2, hb⟩
/- What the document's own big numbers do (Flip, Plus, Minus, Cmp of gavelkindref01), as whole numbers. The condition: at most 900 digits. -/
/-- The value v is the whole number x: whether it is below 0, and its digits. -/
def Big (w : World) (v : Value) (x : Int) : Prop := ∃ u, v = .agg #[.bool (decide (x < 0)), u] ∧ Sl w u (digs x.natAbs)

theorem Big.below {w w' : World} {v : Value} {x : Int} (h : Big w v x) (hb : Below w.heap.size w w') : Big w' v x := by
  obtain ⟨u, h1, h2⟩ := h; exact ⟨u, h1, h2.below hb⟩
theorem Big.alloc {w : World} {v : Value} {x : Int} (h : Big w v x) (o : Obj) : Big (w.alloc o) v x := h.below ((Below.refl _ _).alloc (Nat.le_refl _) _)

theorem digs_pos_len {n : Nat} (h : n ≠ 0) : 0 < (digs n).length := by rw [digs_pos h]; simp

set_option maxHeartbeats 400000 in
theorem flip_any (v : Value) (x : Int) (w : World) (hv : Big w v x) (hl : (digs x.natAbs).length ≤ 1000) :
    Calls Try.prog 77 #[v] w fun e w' => ∃ u, e = .returned u ∧ Big w' u (-x) ∧ Below w.heap.size w w' := by
  obtain ⟨u, rfl, hs⟩ := hv
  have HS := Lib.hid hs
  obtain ⟨a, cap, rfl, hcap, hc0, hL⟩ := hs
  have HB : Hid (∀ o o', Big ((w.alloc o).alloc o') (.agg #[.bool (decide (-x < 0)), .slice a (digs x.natAbs).length cap]) (-x)) := fun o o' => ⟨_, rfl, by rw [Int.natAbs_neg]; exact (HS.out.alloc o).alloc o'⟩
  clear hcap hc0 hL
  rcases Int.lt_trichotomy x 0 with h | h | h
  · have e1 : decide (x < 0) = true := by simpa using h
    have e2 : decide (-x < 0) = false := by simp; omega
    rw [e1]; rw [e2] at HB; clear e1 e2
    go_enter Try.func77, Try.ntmps77
    go_wp2
    refine bodyPost_ret (v := .agg #[.bool false, .slice a (digs x.natAbs).length cap]) (by simp [results, Try.results77, go_sem]) rfl ⟨_, rfl, HB.out _ _, below2 _ _ _⟩
  · subst h
    have e1 : decide ((0 : Int) < 0) = false := by simp
    have e2 : decide (-(0 : Int) < 0) = false := by simp
    have e3 : (digs (Int.natAbs 0)).length = 0 := by simp [digs_zero]
    rw [e1, e3]; rw [e2, e3] at HB; clear e1 e2
    go_enter Try.func77, Try.ntmps77
    go_wp2
    refine bodyPost_ret (v := .agg #[.bool false, .slice a 0 cap]) (by simp [results, Try.results77, go_sem]) rfl ⟨_, rfl, HB.out _ _, below2 _ _ _⟩
  · have e1 : decide (x < 0) = false := by simp; omega
    have e2 : decide (-x < 0) = true := by simp; omega
    have e3 := digs_pos_len (n := x.natAbs) (by omega)
    rw [e1]; rw [e2] at HB; clear e1 e2
    go_enter Try.func77, Try.ntmps77
    go_wp2
    refine bodyPost_ret (v := .agg #[.bool true, .slice a (digs x.natAbs).length cap]) (by simp [results, Try.results77, go_sem]) rfl ⟨_, rfl, HB.out _ _, below2 _ _ _⟩
end Go.Proofs.Ytebjmnppeohdiaa
