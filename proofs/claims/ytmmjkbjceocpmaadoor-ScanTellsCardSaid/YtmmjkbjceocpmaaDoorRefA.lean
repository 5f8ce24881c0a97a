/-
  What the document's own digits do (trim, digits, more, fewer of gavelkindref01), as whole numbers. The condition: at most 1000 digits.
-/
import Derived.Test.YtmmjkbjceocpmaaDoorDig
import Derived.Test.YtmmjkbjceocpmaaDoorRow
import Derived.Deep.QuietTactic
import Derived.BigQuiet
import Derived.WalkSmall
namespace Go.Proofs.YtmmjkbjceocpmaaDoor
open Go.RowKit
set_option linter.unusedVariables false

theorem digs_inR {L : List Int} (h : Digs L) : ∀ z ∈ L, InR z := fun z hz => by have := h z hz; unfold InR; omega

theorem Sl.take {w : World} {a : Option Addr} {cap n : Nat} {L : List Int} (h : Reads w a L) (hc : L.length ≤ cap) (hc0 : a = none → cap = 0) (hn : n ≤ L.length) : Sl w (.slice a n cap) (L.take n) := by
  have hl : (L.take n).length = n := by rw [List.length_take]; omega
  refine ⟨a, cap, by rw [hl], by omega, hc0, fun z hz => h.1 z (List.mem_of_mem_take hz), fun i hi => ?_⟩
  obtain ⟨b, off, ha, hcell⟩ := h.2 i (by omega)
  refine ⟨b, off, ha, ?_⟩
  rw [hcell, getD_lt _ _ hi, getD_lt _ _ (by omega), List.getElem_take]

set_option maxHeartbeats 400000 in
theorem trim_any (v : Value) (L : List Int) (w : World) (hv : Sl w v L) (hd : Digs L) (hn : L.length ≤ 2000) :
    Calls Tryd.prog 49 #[v] w fun e w' => ∃ v', e = .returned v' ∧ Sl w v' (digs (dval L).toNat) ∧ w = w' := by
  obtain ⟨a, cap, rfl, hcap, hc0, hL⟩ := hv
  go_enter Tryd.func49, Tryd.ntmps49
  go_wp2
  go_loop [3] (fun i => ∃ n : Nat, n ≤ L.length ∧ i = .int .i64 n ∧ dval (L.take n) = dval L) (fun i => (intOf i).toNat)
  case atStart => exact ⟨L.length, Nat.le_refl _, rfl, by rw [List.take_length]⟩
  case round =>
    obtain ⟨n, hnl, rfl, hv⟩ := hrel
    have HV := Lib.hid hv; clear hv
    by_cases h0 : n = 0
    · subst h0
      have HS : Hid (Sl w (.slice a 0 cap) (digs (dval L).toNat)) := by
        have := Sl.take (n := 0) hL hcap hc0 (Nat.zero_le _)
        rw [trim_digs L hd 0 HV.out (.inl rfl) (Nat.zero_le _)] at this
        exact this
      rcases a with _ | ad
      · have hcc : cap = 0 := hc0 rfl
        subst hcc
        go_wp2
        go_ret
        exact ⟨_, rfl, HS.out, rfl⟩
      · go_wp2
        go_ret
        exact ⟨_, rfl, HS.out, rfl⟩
    · obtain ⟨j, rfl⟩ : ∃ j, n = j + 1 := ⟨n - 1, by omega⟩
      have HS : Hid (L.getD j 0 ≠ 0 → Sl w (.slice a (j + 1) cap) (digs (dval L).toNat)) := by
        intro hh
        have := Sl.take (n := j + 1) hL hcap hc0 hnl
        rw [trim_digs L hd (j + 1) HV.out (.inr hh) hnl] at this
        exact this
      obtain ⟨b, off, rfl, hc⟩ := hL.2 j (by omega)
      obtain ⟨z, hz⟩ : ∃ z, z = L.getD j 0 := ⟨_, rfl⟩
      rw [← hz] at hc
      have HZ := Lib.hid hz; clear hz
      have hjc : j + 1 ≤ cap := by omega
      by_cases hz0 : z = 0
      · subst hz0
        go_wp2
        go_round
        case rel => exact ⟨j, by omega, rfl, trim_step L j HV.out HZ.out.symm⟩
        case measure => simp [intOf]
      · have hz1 : (z == 0) = false := by simpa using hz0
        have HN := Lib.hid hz0; clear hz0
        go_wp2
        go_ret
        exact ⟨_, rfl, HS.out (by rw [← HZ.out]; exact HN.out), rfl⟩

theorem cmp_lt {m n : Nat} (h : m < n) : cmpv m n = -1 := by unfold cmpv; rw [if_pos (by omega)]
theorem cmp_gt {m n : Nat} (h : n < m) : cmpv m n = 1 := by unfold cmpv; rw [if_neg (by omega), if_pos (by omega)]
theorem cmp_eq (m : Nat) : cmpv m m = 0 := by unfold cmpv; simp

theorem Sl.at {w : World} {v : Value} {L : List Int} (h : Sl w v L) : ∃ a cap, v = .slice a L.length cap ∧ ∀ i, i < L.length → ∃ b off, a = some ⟨b, off, none⟩ ∧ w.cell? ⟨b, off + i, none⟩ = some (.int .i64 (L.getD i 0)) := by
  obtain ⟨a, cap, h1, _, _, h4⟩ := h
  exact ⟨a, cap, h1, h4.2⟩

theorem ret_int {k : IntKind} {a b : Int} (h : a = b) : Ending.returned (.int k a) = .returned (.int k b) := by rw [h]

theorem digits_end {m n : Nat} {A B : List Int} (h : Digs A ∧ Digs B ∧ dval A = m ∧ dval B = n ∧ A.length = B.length ∧ A = digs m ∧ B = digs n) (hd : A.drop 0 = B.drop 0) : 0 = cmpv m n := by
  obtain ⟨_, _, h1, h2, _, _, _⟩ := h
  rw [List.drop_zero, List.drop_zero] at hd
  rw [hd, h2] at h1
  have : m = n := by omega
  rw [this, cmp_eq]
theorem digits_less {m n j : Nat} {x y : Int} {A B : List Int} (h : Digs A ∧ Digs B ∧ dval A = m ∧ dval B = n ∧ A.length = B.length ∧ A = digs m ∧ B = digs n) (hj : j < A.length) (hd : A.drop (j + 1) = B.drop (j + 1))
    (hx : x = A.getD j 0) (hy : y = B.getD j 0) (hxy : x < y) : -1 = cmpv m n := by
  obtain ⟨d1, d2, h1, h2, hl, _, _⟩ := h
  have := digits_lt A B d1 d2 j hj (by omega) hd (by omega)
  rw [h1, h2] at this
  rw [cmp_lt (by omega)]
theorem digits_more {m n j : Nat} {x y : Int} {A B : List Int} (h : Digs A ∧ Digs B ∧ dval A = m ∧ dval B = n ∧ A.length = B.length ∧ A = digs m ∧ B = digs n) (hj : j < A.length) (hd : A.drop (j + 1) = B.drop (j + 1))
    (hx : x = A.getD j 0) (hy : y = B.getD j 0) (hxy : y < x) : 1 = cmpv m n := by
  obtain ⟨d1, d2, h1, h2, hl, _, _⟩ := h
  have := digits_lt B A d2 d1 j (by omega) hj hd.symm (by omega)
  rw [h1, h2] at this
  rw [cmp_gt (by omega)]

set_option maxHeartbeats 400000 in
theorem digits_any (v v' : Value) (m n : Nat) (w : World) (hv : Sl w v (digs m)) (hv' : Sl w v' (digs n)) (hm : (digs m).length ≤ 1000) (hn : (digs n).length ≤ 1000) :
    Calls Tryd.prog 47 #[v, v'] w fun e w' => e = .returned (.int .i64 (cmpv m n)) ∧ Below w.heap.size w w' := by
  obtain ⟨a, cap, rfl, hcap, hc0, hA⟩ := hv
  obtain ⟨b, cap', rfl, hcap', hc0', hB⟩ := hv'
  clear hcap hcap' hc0 hc0'
  rcases Nat.lt_trichotomy (digs m).length (digs n).length with hl | hl | hl
  · rw [cmp_lt (len_lt hl)]
    have hne : ((((digs m).length : Nat) : Int) == (((digs n).length : Nat) : Int)) = false := by simp; omega
    have hne' : ((((digs m).length : Nat) : Int) != (((digs n).length : Nat) : Int)) = true := by simp; omega
    go_enter Tryd.func47, Tryd.ntmps47
    go_wp2
    go_ret
    exact ⟨rfl, Below.refl _ _⟩
  · obtain ⟨A, hAe⟩ : ∃ A, A = digs m := ⟨_, rfl⟩
    obtain ⟨B, hBe⟩ : ∃ B, B = digs n := ⟨_, rfl⟩
    have dA : Digs A := by rw [hAe]; exact digs_ok m
    have dB : Digs B := by rw [hBe]; exact digs_ok n
    have vA : dval A = m := by rw [hAe]; exact dval_digs m
    have vB : dval B = n := by rw [hBe]; exact dval_digs n
    rw [← hAe] at hA hl hm ⊢
    rw [← hBe] at hB hl hn ⊢
    rw [← hl]
    have H : Hid (Digs A ∧ Digs B ∧ dval A = m ∧ dval B = n ∧ A.length = B.length ∧ A = digs m ∧ B = digs n) := ⟨dA, dB, vA, vB, hl, hAe, hBe⟩
    clear dA dB vA vB hl hAe hBe hn
    go_enter Tryd.func47, Tryd.ntmps47
    go_wp2
    go_loopw [5] (fun i wr => ∃ k : Nat, k ≤ A.length ∧ i = .int .i64 ((k : Int) - 1) ∧ A.drop k = B.drop k ∧ Below w.heap.size w wr) (fun i _ => (intOf i + 1).toNat)
    case atStart => exact ⟨A.length, Nat.le_refl _, rfl, by have := H.out.2.2.2.2.1; rw [List.drop_length, this, List.drop_length], Below.refl _ _⟩
    case round =>
      obtain ⟨k, hk, hi, hdr, hb⟩ := hrel
      have HD := Lib.hid hdr; clear hdr
      by_cases h0 : k = 0
      · subst h0
        simp at hi
        subst hi
        go_wp2
        go_ret
        exact ⟨ret_int (digits_end H.out HD.out), hb⟩
      · obtain ⟨j, rfl⟩ : ∃ j, k = j + 1 := ⟨k - 1, by omega⟩
        have hi' : u5 = .int .i64 (j : Int) := by rw [hi]; congr 1; omega
        clear hi
        subst hi'
        obtain ⟨c, off, rfl, hc⟩ := (hA.below hb).2 j (by omega)
        obtain ⟨c', off', rfl, hc'⟩ := (hB.below hb).2 j (by have := H.out.2.2.2.2.1; omega)
        obtain ⟨x, hx⟩ : ∃ x, x = A.getD j 0 := ⟨_, rfl⟩
        obtain ⟨y, hy⟩ : ∃ y, y = B.getD j 0 := ⟨_, rfl⟩
        rw [← hx] at hc
        rw [← hy] at hc'
        have HX := Lib.hid hx; clear hx
        have HY := Lib.hid hy; clear hy
        have hjl : (j : Int) < (A.length : Int) := by omega
        have hj0 : (0 : Int) ≤ (j : Int) := by omega
        rcases Int.lt_trichotomy x y with hxy | hxy | hxy
        · go_wp2
          go_quiet (fail)
          go_wp2
          go_ret
          exact ⟨ret_int (digits_less H.out (by omega) HD.out HX.out HY.out hxy), below_drewN hb _⟩
        · subst hxy
          go_wp2
          go_quiet (fail)
          go_wp2
          go_quiet (fail)
          go_wp2
          go_roundw
          case rel => exact ⟨j, by omega, rfl, drop_step A B j (by omega) (by have := H.out.2.2.2.2.1; omega) HD.out (by rw [← HX.out, ← HY.out]), below_drewN hb _⟩
          case measure => simp [intOf]
        · have hxy' : ¬ x < y := by omega
          go_wp2
          go_quiet (fail)
          go_wp2
          go_quiet (fail)
          go_wp2
          go_ret
          exact ⟨ret_int (digits_more H.out (by omega) HD.out HX.out HY.out hxy), below_drewN (below_drewN hb _) _⟩
  · rw [cmp_gt (len_lt hl)]
    have hne : ((((digs m).length : Nat) : Int) == (((digs n).length : Nat) : Int)) = false := by simp; omega
    have hne' : ((((digs m).length : Nat) : Int) != (((digs n).length : Nat) : Int)) = true := by simp; omega
    have hge : ¬ (digs m).length < (digs n).length := by omega
    go_enter Tryd.func47, Tryd.ntmps47
    go_wp2
    go_ret
    exact ⟨rfl, Below.refl _ _⟩

end Go.Proofs.YtmmjkbjceocpmaaDoor
