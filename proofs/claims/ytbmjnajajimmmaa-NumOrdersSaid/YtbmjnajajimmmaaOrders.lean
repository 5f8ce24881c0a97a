/-
  NumOrders of layer 1 returns true, whatever two lists of numbers it is given. No conditions.
-/
import Derived.Test.YtbmjnajajimmmaaBack
import Derived.Test.YtbmjnajajimmmaaRow
namespace Go.Proofs.Ytbmjnajajimmmaa
open Go.RowKit

theorem sum_rev (L : List Int) : L.reverse.sum = L.sum := by
  induction L with
  | nil => rfl
  | cons a L ih => simp [ih]; omega

section
variable {a b : Option Addr} {L M : List Int} (w : World)
theorem or_back (cap : Nat) (hL : Reads w a L.reverse) (hn : L.length ≤ 400) :
    Calls Try.prog 19 #[.slice a L.length cap] w fun e w' => e = .returned (.tuple #[.int .i64 (tv L.sum), .int .i64 (te L.sum)]) ∧ Below w.heap.size w w' := by
  have := sum_any a L.reverse cap w hL (by simp; omega)
  rwa [sum_rev, List.length_reverse] at this
theorem or_self (cap cap' : Nat) (hL : Reads w a L) (hn : L.length ≤ 400) :
    Calls Try.prog 21 #[.slice a L.length cap, .slice a L.length cap'] w fun e w' => e = .returned (.tuple #[.int .i64 0, .int .i64 0]) ∧ Below w.heap.size w w' := by
  have := net_any a a L L cap cap' w hL hL (by omega) (by omega)
  rwa [show L.sum - L.sum = 0 by omega, tv_in zero_in, te_in zero_in] at this
theorem or_in (cap cap' : Nat) (hL : Reads w a L) (hM : Reads w b M) (hn : L.length ≤ 400) (hm : M.length ≤ 400) (h : InR (L.sum - M.sum)) :
    Calls Try.prog 21 #[.slice a L.length cap, .slice b M.length cap'] w fun e w' => e = .returned (.tuple #[.int .i64 (L.sum - M.sum), .int .i64 0]) ∧ Below w.heap.size w w' := by
  have := net_any a b L M cap cap' w hL hM (by omega) (by omega)
  rwa [tv_in h, te_in h] at this
theorem or_least (cap cap' : Nat) (hL : Reads w a L) (hM : Reads w b M) (hn : L.length ≤ 400) (hm : M.length ≤ 400) (h : L.sum - M.sum = -9223372036854775808) :
    Calls Try.prog 21 #[.slice a L.length cap, .slice b M.length cap'] w fun e w' => e = .returned (.tuple #[.int .i64 (-9223372036854775808), .int .i64 0]) ∧ Below w.heap.size w w' := by
  have := net_any a b L M cap cap' w hL hM (by omega) (by omega)
  rwa [h, tv_in (by simp [InR]), te_in (by simp [InR])] at this
theorem or_out (cap cap' : Nat) (hL : Reads w a L) (hM : Reads w b M) (hn : L.length ≤ 400) (hm : M.length ≤ 400) (h : ¬ InR (L.sum - M.sum)) :
    Calls Try.prog 21 #[.slice a L.length cap, .slice b M.length cap'] w fun e w' => e = .returned (.tuple #[.int .i64 0, .int .i64 10]) ∧ Below w.heap.size w w' := by
  have := net_any a b L M cap cap' w hL hM (by omega) (by omega)
  rwa [tv_out h, te_out h] at this
theorem or_opp (S T : Int) (h : InR (S - T)) (h' : InR (T - S)) : Calls Try.prog 7 #[.int .i64 (S - T), .int .i64 (T - S)] w fun e w' => e = .returned (.tuple #[.int .i64 0, .int .i64 0]) ∧ w = w' := by
  have := add_any (S - T) (T - S) h h' w
  rwa [show S - T + (T - S) = 0 by omega, tv_in zero_in, te_in zero_in] at this
theorem or_sum_in (cap : Nat) (hL : Reads w a L) (hn : L.length ≤ 400) (h : InR L.sum) :
    Calls Try.prog 19 #[.slice a L.length cap] w fun e w' => e = .returned (.tuple #[.int .i64 L.sum, .int .i64 0]) ∧ Below w.heap.size w w' := by
  have := sum_any a L cap w hL (by omega)
  rwa [tv_in h, te_in h] at this
theorem or_sum_out (cap : Nat) (hL : Reads w a L) (hn : L.length ≤ 400) (h : ¬ InR L.sum) :
    Calls Try.prog 19 #[.slice a L.length cap] w fun e w' => e = .returned (.tuple #[.int .i64 0, .int .i64 10]) ∧ Below w.heap.size w w' := by
  have := sum_any a L cap w hL (by omega)
  rwa [tv_out h, te_out h] at this
theorem or_app (v : Value) (base : Nat) (hv : Own w base v (L ++ M)) (hi : ∀ z ∈ L ++ M, InR z) (hn : L.length ≤ 400) (hm : M.length ≤ 400) :
    Calls Try.prog 19 #[v] w fun e w' => e = .returned (.tuple #[.int .i64 (tv (L.sum + M.sum)), .int .i64 (te (L.sum + M.sum))]) ∧ Below w.heap.size w w' := by
  obtain ⟨a, cap, rfl, _, hr⟩ := hv.reads hi
  have := sum_any a (L ++ M) cap w hr (by simp; omega)
  rwa [List.sum_append] at this
end

set_option maxHeartbeats 400000 in
set_option maxRecDepth 100000 in
theorem orders_long (a b : Option Addr) (len len' cap cap' : Nat) (w : World) (h : 200 < len) :
    Calls Try.prog 6 #[.slice a len cap, .slice b len' cap'] w fun e w' => e = .returned (.bool true) ∧ Below w.heap.size w w' := by
  go_enter Try.func6, Try.ntmps6
  go_wp2_with (go_at_call 18; (with_reducible refine (awake_any _).mono ?_); rintro e w1 ⟨rfl, hb1⟩)
  go_ret
  exact ⟨rfl, hb1⟩
set_option maxHeartbeats 400000 in
set_option maxRecDepth 100000 in
theorem orders_long' (a b : Option Addr) (len len' cap cap' : Nat) (w : World) (h' : len ≤ 200) (h : 200 < len') :
    Calls Try.prog 6 #[.slice a len cap, .slice b len' cap'] w fun e w' => e = .returned (.bool true) ∧ Below w.heap.size w w' := by
  have hd : decide (200 < len) = false := by simp; omega
  go_enter Try.func6, Try.ntmps6
  go_wp2_with (go_at_call 18; (with_reducible refine (awake_any _).mono ?_); rintro e w1 ⟨rfl, hb1⟩)
  go_ret
  exact ⟨rfl, hb1⟩

theorem drop_rev (L : List Int) (j : Nat) (h : j < L.length) : (L.drop (j + 1)).reverse ++ [L.getD j 0] = (L.drop j).reverse := by
  rw [getD_lt _ _ h, List.drop_eq_getElem_cons h, List.reverse_cons]

set_option maxHeartbeats 1000000 in
set_option maxRecDepth 100000 in
theorem orders_any (a b : Option Addr) (L M : List Int) (cap cap' : Nat) (w : World) (hL : Reads w a L) (hM : Reads w b M) (ca : a = none → cap = 0) (cb : b = none → cap' = 0) (hl : L.length ≤ 200) (hm : M.length ≤ 200) :
    Calls Try.prog 6 #[.slice a L.length cap, .slice b M.length cap'] w fun e w' => e = .returned (.bool true) ∧ Below w.heap.size w w' := by
  have hd : decide (200 < L.length) = false := by simp; omega
  have hd' : decide (200 < M.length) = false := by simp; omega
  have HC := Lib.hid (And.intro ca cb); clear ca cb
  go_enter Try.func6, Try.ntmps6
  go_wp2
  go_loopw [5, 6] (fun v i wr => ∃ k : Nat, k ≤ L.length ∧ i = .int .i64 ((k : Int) - 1) ∧ Own wr w.heap.size v (L.drop k).reverse ∧ Below w.heap.size w wr)
    (fun _ i _ => (intOf i + 1).toNat)
  case atStart => exact ⟨L.length, Nat.le_refl _, rfl, by simpa using Own.nil _ _, Below.refl _ _⟩
  case round =>
    obtain ⟨k, hk, hi, hown, hb⟩ := hrel
    have hLr := hL.below hb
    have hMr := hM.below hb
    clear hd hd'
    by_cases h0 : k = 0
    · subst h0
      simp at hi
      subst hi
      simp only [List.drop_zero] at hown
      obtain ⟨a', capb, rfl, -, hRb⟩ := hown.reads (fun z hz => hL.1 z (by simpa using hz))
      rw [List.length_reverse] at *
      clear hown
      go_wp2_with fail
      refine (sum_any a L cap _ hLr (by omega)).mono ?_; rintro e w1 ⟨rfl, hb1⟩
      go_wp2_with fail
      refine (or_back _ capb (hRb.below hb1) (by omega)).mono ?_; rintro e w2 ⟨rfl, hb2⟩
      have hb12 := hb1.trans (hb2.mono hb1.size)
      go_wp2_with fail
      refine (or_self _ cap cap (hLr.below hb12) (by omega)).mono ?_; rintro e w3 ⟨rfl, hb3⟩
      have hb13 := hb12.trans (hb3.mono hb12.size)
      clear hb1 hb2 hb12 hb3
      have hS : InR (L.sum - M.sum) ∧ InR (M.sum - L.sum) ∨ L.sum - M.sum = -9223372036854775808 ∧ ¬ InR (M.sum - L.sum) ∨ ¬ InR (L.sum - M.sum) ∧ M.sum - L.sum = -9223372036854775808 ∨ ¬ InR (L.sum - M.sum) ∧ ¬ InR (M.sum - L.sum) := by
        unfold InR; omega
      go_wp2_with fail
      rcases hS with ⟨e1, e2⟩ | ⟨e1, e2⟩ | ⟨e1, e2⟩ | ⟨e1, e2⟩
      all_goals
        (first
          | refine (or_in _ cap cap' (hLr.below hb13) (hMr.below hb13) (by omega) (by omega) e1).mono ?_
          | refine (or_least _ cap cap' (hLr.below hb13) (hMr.below hb13) (by omega) (by omega) e1).mono ?_
          | refine (or_out _ cap cap' (hLr.below hb13) (hMr.below hb13) (by omega) (by omega) e1).mono ?_)
        rintro e w4 ⟨rfl, hb4⟩
        have hb14 := hb13.trans (hb4.mono hb13.size)
        clear hb4
        go_wp2_with fail
        (first
          | refine (or_in _ cap' cap (hMr.below hb14) (hLr.below hb14) (by omega) (by omega) e2).mono ?_
          | refine (or_least _ cap' cap (hMr.below hb14) (hLr.below hb14) (by omega) (by omega) e2).mono ?_
          | refine (or_out _ cap' cap (hMr.below hb14) (hLr.below hb14) (by omega) (by omega) e2).mono ?_)
        rintro e w5 ⟨rfl, hb5⟩
        have hb15 := hb14.trans (hb5.mono hb14.size)
        clear hb5
        go_wp2_with (go_at_call 7; refine (or_opp _ _ _ e1 e2).mono ?_; rintro e w' ⟨rfl, rfl⟩)
      all_goals
        clear e1 e2 hRb hb13 hb14
        by_cases f1 : InR L.sum
        · have t1 := te_in f1
          have t2 := tv_in f1
          by_cases f2 : InR M.sum
          · refine (or_sum_in _ cap' (hMr.below hb15) (by omega) f2).mono ?_; rintro e w6 ⟨rfl, hb6⟩
            have hb16 := hb15.trans (hb6.mono hb15.size)
            clear hb6 hb15
            go_wp2_with fail
            refine (add_any _ _ f1 f2 _).mono ?_; rintro e w' ⟨rfl, rfl⟩
            clear t1 t2
            go_wp2_with (first
              | (at_builtin; refine wp_cat (w6.alloc (.cells #[] 3)) rfl (.tmp 142) (.tmp 143) rfl w6.heap.size _ [] L a cap rfl (Own.lit w6) rfl ((hLr.below hb16).alloc _) HC.out.1 (by simp; omega) (by simp) ?_; intro v7 w7 hown7 hb7; simp only [List.nil_append] at hown7; have hb17 := ((Below.refl _ w6).alloc (Nat.le_refl _) (.cells #[] 3)).trans hb7)
              | (at_builtin; refine wp_cat w7 rfl (.tmp 144) (.tmp 145) rfl w6.heap.size _ L M b cap' rfl hown7 rfl ((hMr.below hb16).below hb17) HC.out.2 (by omega) hb17.size ?_; intro v8 w8 hown8 hb8)
              | (go_at_call 19; refine (or_app _ v8 w6.heap.size hown8 (fun z hz => (List.mem_append.1 hz).elim (hL.1 z) (hM.1 z)) (by omega) (by omega)).mono ?_; rintro e w9 ⟨rfl, hb9⟩)
              | (go_at_call 18; refine (awake_any _).mono ?_; rintro e w10 ⟨rfl, hb10⟩))
            go_ret
            have hb18 := (hb.trans (hb16.mono hb.size)).trans ((hb17.trans hb8).mono (Nat.le_trans hb.size hb16.size))
            have hb19 := hb18.trans (hb9.mono hb18.size)
            exact ⟨rfl, hb19.trans (hb10.mono hb19.size)⟩
          · refine (or_sum_out _ cap' (hMr.below hb15) (by omega) f2).mono ?_; rintro e w6 ⟨rfl, hb6⟩
            have hb16 := hb15.trans (hb6.mono hb15.size)
            clear hb6 hb15
            go_wp2_with (go_at_call 18; refine (awake_any _).mono ?_; rintro e w10 ⟨rfl, hb10⟩)
            go_ret
            have hb18 := hb.trans (hb16.mono hb.size)
            exact ⟨rfl, hb18.trans (hb10.mono hb18.size)⟩
        · have t1 := te_out f1
          have t2 := tv_out f1
          refine (sum_any b M cap' _ (hMr.below hb15) (by omega)).mono ?_; rintro e w6 ⟨rfl, hb6⟩
          have hb16 := hb15.trans (hb6.mono hb15.size)
          clear hb6 hb15
          go_wp2_with (go_at_call 18; refine (awake_any _).mono ?_; rintro e w10 ⟨rfl, hb10⟩)
          go_ret
          have hb18 := hb.trans (hb16.mono hb.size)
          exact ⟨rfl, hb18.trans (hb10.mono hb18.size)⟩
    · obtain ⟨j, rfl⟩ : ∃ j, k = j + 1 := ⟨k - 1, by omega⟩
      have hi' : u6 = .int .i64 (j : Int) := by rw [hi]; congr 1; omega
      clear hi
      subst hi'
      obtain ⟨c, off, rfl, hc⟩ := hLr.2 j (by omega)
      have hlt : j < L.length := by omega
      obtain ⟨z, hz⟩ : ∃ z, z = L.getD j 0 := ⟨_, rfl⟩
      rw [← hz] at hc
      have HZ := Lib.hid hz; clear hz
      go_wp2_with (at_builtin; refine wp_push wr rfl (.tmp 41) (.tmp 46) rfl w.heap.size _ (L.drop (j + 1)).reverse z rfl hown rfl (by simp; omega) hb.size ?_; intro v' w1 hown1 hb1)
      go_roundw
      case rel => exact ⟨j, by omega, rfl, by rw [← drop_rev L j hlt, ← HZ.out]; exact hown1, hb.trans hb1⟩
      case measure => simp [intOf]

theorem orders_row (a0 : Option Addr) (len0 cap0 : Nat) (z0 : List Int) (a1 : Option Addr) (len1 cap1 : Nat) (z1 : List Int) (w : World) (w0 : RowOf w a0 len0 cap0 z0) (w1 : RowOf w a1 len1 cap1 z1) :
    Calls Try.prog 6 #[.slice a0 len0 cap0, .slice a1 len1 cap1] w fun e w' => e = .returned (.bool true) ∧ Below w.heap.size w w' := by
  by_cases h0 : 200 < len0
  · exact orders_long a0 a1 len0 len1 cap0 cap1 w h0
  · by_cases h1 : 200 < len1
    · exact orders_long' a0 a1 len0 len1 cap0 cap1 w (by omega) h1
    · obtain ⟨L, rfl, hL, ca⟩ := w0.reads
      obtain ⟨M, rfl, hM, cb⟩ := w1.reads
      exact orders_any a0 a1 L M cap0 cap1 w hL hM ca cb (by omega) (by omega)

end Go.Proofs.Ytbmjnajajimmmaa
