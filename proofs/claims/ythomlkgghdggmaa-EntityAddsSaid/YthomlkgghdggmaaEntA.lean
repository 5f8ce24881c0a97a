/-
  What the landed beyond, its closure, the library's IndexFunc over whatever closure, Check and Currency of layer 17 answer. No conditions besides a row of at most 1000000.
-/
import Derived.Test.YthomlkgghdggmaaEntM
import Derived.Test.YthomlkgghdggmaaRow
import Derived.Test.YthomlkgghdggmaaWideM
import Derived.Deep.QuietTactic
import Derived.BigQuiet
import Derived.WalkSmall
namespace Go.Proofs.Ythomlkgghdggmaa
open Go.RowKit
set_option linter.unusedSimpArgs false
set_option linter.unusedVariables false

theorem beyond_c (most : Int) (w : World) :
    Calls Try.prog 18 #[.int .i64 most] w fun e w' => e = .returned (.func (.func 24) #[] #[.pointer (some ⟨w.heap.size, 0, none⟩)]) ∧ w' = w.alloc (.cells #[.int .i64 most] 3) := by
  have hmf : ∀ (fn : Fn) (first cap : Array Value) (w : World), (Instr.makeFunc fn first cap).run Try.prog w = .ok (.func fn first cap) w := fun _ _ _ _ => rfl
  go_enter Try.func18, Try.ntmps18
  go_wp2_with fail
  go_ret
  exact ⟨rfl, rfl⟩
theorem beyond1 {w : World} {mb : Nat} {most : Int} (hb : w.cell? ⟨mb, 0, none⟩ = some (.int .i64 most)) (z : Int) :
    Calls Try.prog 24 #[.int .i64 z, .pointer (some ⟨mb, 0, none⟩)] w fun e w' => e = .returned (.bool (!decide (1 ≤ z ∧ z ≤ most))) ∧ w' = w := by
  by_cases h1 : z < 1
  · have d1 : decide (z < 1) = true := decide_eq_true h1
    rw [decide_eq_false (show ¬ (1 ≤ z ∧ z ≤ most) by omega)]
    go_enter Try.func24, Try.ntmps24
    go_wp2_with fail
    go_ret
    exact ⟨rfl, rfl⟩
  · have d1 : decide (z < 1) = false := decide_eq_false h1
    have hr : decide (most < z) = !decide (1 ≤ z ∧ z ≤ most) := by
      by_cases h2 : most < z
      · rw [decide_eq_true h2, decide_eq_false (show ¬ (1 ≤ z ∧ z ≤ most) by omega)]; rfl
      · rw [decide_eq_false h2, decide_eq_true (show (1 ≤ z ∧ z ≤ most) by omega)]; rfl
    generalize (!decide (1 ≤ z ∧ z ≤ most)) = r at *
    go_enter Try.func24, Try.ntmps24
    go_wp2_with fail
    go_ret
    exact ⟨rfl, rfl⟩

set_option maxHeartbeats 1000000 in
theorem idx17 (F : FuncId) (pv : Value) (he : ∀ args w, (callFunc F args).run Try.prog w = .ok (.enter F args) w) (a : Option Addr) (c : Nat) (L : List Int) (w : World) (p : Int → Bool) (hn : L.length ≤ 1000000)
    (hR : Reads w a L) (hY : ∀ z, Calls Try.prog F #[.int .i64 z, pv] w fun e W' => e = .returned (.bool (p z)) ∧ W' = w) :
    Calls Try.prog 17 #[.slice a L.length c, .func (.func F) #[] #[pv]] w fun e w' => ∃ k : Nat, k ≤ L.length ∧ (∀ j, j < k → p (L.getD j 0) = false) ∧ ((k = L.length ∧ e = .returned (.int .i64 (-1))) ∨ (k < L.length ∧ p (L.getD k 0) = true ∧ e = .returned (.int .i64 (k : Int)))) ∧ w' = w := by
  go_enter Try.func17, Try.ntmps17
  go_wp2_with fail
  go_loopw [8] (fun i wr => ∃ k : Nat, k ≤ L.length ∧ i = .int .i64 (k : Int) ∧ (∀ j, j < k → p (L.getD j 0) = false) ∧ wr = w) (fun i _ => L.length - (RowKit.intOf i).toNat)
  case atStart => exact ⟨0, Nat.zero_le _, rfl, fun j hj => by omega, rfl⟩
  case round =>
    obtain ⟨k, hk, rfl, hok, rfl⟩ := hrel
    have HK := Lib.hid hok; clear hok
    by_cases hlt : k < L.length
    · obtain ⟨b, off, rfl, hc⟩ := hR.2 k hlt
      have i0 : (0 : Int) ≤ (k : Int) := by omega
      have i1 : (k : Int) < (L.length : Int) := by omega
      have hw := hY (L.getD k 0)
      have HP : Hid (∀ b, p (L.getD k 0) = b → p (L.getD k 0) = b) := fun _ h => h
      obtain ⟨r, hr⟩ : ∃ r, p (L.getD k 0) = r := ⟨_, rfl⟩
      have HPR : Hid (p (L.getD k 0) = r) := hr
      rw [hr] at hw
      clear HP hr
      obtain ⟨z, hz⟩ : ∃ z, L.getD k 0 = z := ⟨_, rfl⟩
      rw [hz] at hw hc
      clear hz
      cases r with
      | false =>
        go_wp2_with fail
        refine hw.mono ?_; rintro e w1 ⟨rfl, rfl⟩
        go_wp2_with fail
        go_roundw
        · exact ⟨k + 1, by omega, by go_num, fun j hj => by
            rcases Nat.lt_or_ge j k with q | q
            · exact HK.out j q
            · rw [show j = k by omega]; exact HPR.out, by first | rfl | trivial⟩
        · simp [RowKit.intOf]; omega
      | true =>
        go_wp2_with fail
        refine hw.mono ?_; rintro e w1 ⟨rfl, rfl⟩
        go_wp2_with fail
        go_ret
        exact ⟨k, hk, HK.out, Or.inr ⟨hlt, HPR.out, rfl⟩, rfl⟩
    · obtain rfl : k = L.length := by omega
      have hd0 : decide ((L.length : Int) < (L.length : Int)) = false := decide_eq_false (by omega)
      go_wp2_with fail
      go_ret
      exact ⟨L.length, hk, HK.out, Or.inl ⟨rfl, rfl⟩, rfl⟩

set_option maxHeartbeats 1000000 in
set_option maxRecDepth 100000 in
theorem check_e (a : Option Addr) (c : Nat) (L : List Int) (w : World) (hL : Reads w a L) (hn : L.length ≤ 1000000) :
    Calls Try.prog 7 #[.slice a L.length c] w fun e w' => e = .returned (.tuple #[.int .i64 (chkV L), .int .i64 (chkE L)]) ∧ Below w.heap.size w w' := by
  by_cases h40 : 40 < L.length
  · have d1 : decide (40 < L.length) = true := decide_eq_true h40
    have d2 : decide ((40 : Int) < (L.length : Int)) = true := decide_eq_true (by omega)
    rw [show chkV L = 0 from if_pos h40, show chkE L = 3 from if_pos h40]
    clear hL
    go_enter Try.func7, Try.ntmps7
    go_wp2_with fail
    go_ret2
    exact ⟨rfl, Below.refl _ _⟩
  · have d1 : decide (40 < L.length) = false := decide_eq_false h40
    have d2 : decide ((40 : Int) < (L.length : Int)) = false := decide_eq_false (by omega)
    have hb := below1 w (.cells #[.int .i64 8] 3)
    have hi := idx17 24 (.pointer (some ⟨w.heap.size, 0, none⟩)) (fun _ _ => rfl) a c L (w.alloc (.cells #[.int .i64 8] 3)) (fun z => !decide (Mon z)) hn (hL.below hb) (fun z => beyond1 (by simp) z)
    have hV : Hid (chkV L = (badAt L : Int) ∧ chkE L = if badAt L < L.length then 23 else 0) := ⟨if_neg h40, if_neg h40⟩
    clear hL
    go_enter Try.func7, Try.ntmps7
    go_wp2_with fail
    refine (beyond_c 8 _).mono ?_; rintro e w1 ⟨rfl, rfl⟩
    go_wp2_with fail
    refine hi.mono ?_; rintro e w1 ⟨k, hk, hok, hend, rfl⟩
    have HOK : Hid (∀ j, j < k → Mon (L.getD j 0)) := fun j hj => by simpa using hok j hj
    have HB := Lib.hid hb
    clear hok hb
    rcases hend with ⟨rfl, rfl⟩ | ⟨hlt, hp, rfl⟩
    · have hk2 : Hid (badAt L = L.length) := badAt_is (Nat.le_refl _) HOK.out (Or.inl rfl)
      go_wp2_with fail
      go_ret2
      exact ⟨by rw [hV.out.1, hV.out.2, hk2.out, if_neg (Nat.lt_irrefl _)]; rfl, HB.out⟩
    · have hk2 : Hid (badAt L = k) := badAt_is hk HOK.out (Or.inr (by simpa using hp))
      have d3 : decide ((0 : Int) ≤ (k : Int)) = true := decide_eq_true (by omega)
      have HLT := Lib.hid hlt
      clear hp
      go_wp2_with fail
      go_ret2
      exact ⟨by rw [hV.out.1, hV.out.2, hk2.out, if_pos HLT.out]; rfl, HB.out⟩

set_option maxHeartbeats 1000000 in
set_option maxRecDepth 100000 in
theorem cur_e (a : Option Addr) (c : Nat) (L : List Int) (n : Int) (w : World) (hL : Reads w a L) (hn : L.length ≤ 1000000) (hi : InR n) :
    Calls Try.prog 9 #[.slice a L.length c, .int .i64 n] w fun e w' => e = .returned (.tuple #[.int .i64 (curV L n), .int .i64 (curE L n)]) ∧ Below w.heap.size w w' := by
  have HB := Lib.hid (below1 w (.cells #[.int .i64 (L.length : Int)] 3))
  have hz := beyond1 (w := w.alloc (.cells #[.int .i64 (L.length : Int)] 3)) (mb := w.heap.size) (most := (L.length : Int)) (by simp) n
  by_cases h : 1 ≤ n ∧ n ≤ (L.length : Int)
  · rw [decide_eq_true h] at hz
    rw [show curV L n = L.getD (n - 1).toNat 0 from if_pos h, show curE L n = 0 from if_pos h]
    obtain ⟨k, hk⟩ : ∃ k : Nat, n = (k : Int) + 1 := ⟨(n - 1).toNat, by omega⟩
    have hlt : k < L.length := by omega
    obtain ⟨b, off, rfl, hc⟩ := (hL.below HB.out).2 k hlt
    rw [show (n - 1).toNat = k by omega]
    have i0 : (0 : Int) ≤ (k : Int) := by omega
    have i1 : (k : Int) < (L.length : Int) := by omega
    have hw1 : wrap64 (n - 1) = (k : Int) := by unfold wrap64; omega
    have hw2 : IntKind.i64.wrap (n - 1) = (k : Int) := by simp [IntKind.wrap, IntKind.signed, IntKind.bits]; omega
    obtain ⟨z, hz'⟩ : ∃ z, L.getD k 0 = z := ⟨_, rfl⟩
    rw [hz'] at hc ⊢
    clear hz' hk h hL
    go_enter Try.func9, Try.ntmps9
    go_wp2_with fail
    refine (beyond_c _ _).mono ?_; rintro e w1 ⟨rfl, rfl⟩
    go_wp2_with fail
    refine hz.mono ?_; rintro e w1 ⟨rfl, rfl⟩
    go_wp2_with fail
    go_ret2
    exact ⟨rfl, HB.out⟩
  · rw [decide_eq_false h] at hz
    rw [show curV L n = 0 from if_neg h, show curE L n = 20 from if_neg h]
    clear hL h
    go_enter Try.func9, Try.ntmps9
    go_wp2_with fail
    refine (beyond_c _ _).mono ?_; rintro e w1 ⟨rfl, rfl⟩
    go_wp2_with fail
    refine hz.mono ?_; rintro e w1 ⟨rfl, rfl⟩
    go_wp2_with fail
    go_ret2
    exact ⟨rfl, HB.out⟩
end Go.Proofs.Ythomlkgghdggmaa
