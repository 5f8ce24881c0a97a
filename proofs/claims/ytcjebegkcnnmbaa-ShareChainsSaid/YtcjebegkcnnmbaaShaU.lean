/-
  ShareChains of layer 5 answers true, for whatever slice of numbers. No conditions besides.
-/
import Derived.Test.YtcjebegkcnnmbaaShaH
import Derived.Test.YtcjebegkcnnmbaaRefSb
namespace Go.Proofs.Ytcjebegkcnnmbaa
open Go.RowKit
set_option linter.unusedSimpArgs false
set_option linter.unusedVariables false

set_option maxHeartbeats 2000000 in
set_option maxRecDepth 100000 in
theorem chains5_any (a : Option Addr) (c : Nat) (L : List Int) (w : World) (hL : Reads w a L) (hn : (L.length : Int) ≤ 9223372036854775807) (haw : ∀ w, Calls Try.prog 13 #[] w fun e w' => e = .returned (.bool true) ∧ Below w.heap.size w w') :
    Calls Try.prog 4 #[.slice a L.length c] w fun e w' => e = .returned (.bool true) ∧ Below w.heap.size w w' := by
  have K := Keeps.start w
  rcases Int.lt_or_le 60 (L.length : Int) with h60 | h60
  · clear hL
    go_enter Try.func4, Try.ntmps4
    go_wp2_with fail
    refine (haw _).mono ?_; rintro e w1 ⟨rfl, hb1⟩
    go_wp2_with fail
    go_ret
    exact ⟨rfl, hb1⟩
  · have d1 : decide (60 < (L.length : Int)) = false := decide_eq_false (by omega)
    have HL := Lib.hid hL
    have h1 := h_chain a c L w hL hn
    have h2 := fun w' hw => r5chain_any a c L w' hw hn
    clear hL h60
    generalize (chainv L).1 = q1 at *; generalize (chainv L).2.1 = q2 at *; generalize (chainv L).2.2 = q3 at *
    go_enter Try.func4, Try.ntmps4
    go_wp2_with fail
    refine h1.mono ?_; rintro e w1 ⟨rfl, hb1⟩
    have HL1 := Lib.hid ((HL.out.below hb1).alloc (.cells #[.int .i64 q1, .int .i64 q2] 33))
    replace K := (K.below hb1).new (.int .i64 q1) (.int .i64 q2) 33; clear hb1
    go_wp2_with fail
    refine (h2 _ HL1.out).mono ?_; rintro e w2 ⟨rfl, hb2⟩
    replace K := (K.below hb2).new (.int .i64 q1) (.int .i64 q2) 33; clear hb2
    obtain ⟨x0, x1, x2, x3⟩ := K.two
    go_wp2_with fail
    refine (haw _).mono ?_; rintro e w3 ⟨rfl, hb3⟩
    replace K := K.below hb3
    go_wp2_with fail
    go_ret
    exact ⟨rfl, K.1⟩

theorem chains5_all (a : Option Addr) (c : Nat) (L : List Int) (w : World) (hL : Reads w a L) (hn : (L.length : Int) ≤ 9223372036854775807) :
    Calls Try.prog 4 #[.slice a L.length c] w fun e w' => e = .returned (.bool true) ∧ Below w.heap.size w w' :=
  chains5_any a c L w hL hn h_awake

theorem chains5_row (a0 : Option Addr) (len0 cap0 : Nat) (z0 : List Int) (w : World) (w0 : RowOf w a0 len0 cap0 z0) :
    Calls Try.prog 4 #[.slice a0 len0 cap0] w fun e w' => e = .returned (.bool true) ∧ Below w.heap.size w w' := by
  have hn : (len0 : Int) ≤ 9223372036854775807 := by
    rcases w0 with ⟨_, rfl, _, _⟩ | ⟨_, _, h1, h2, _⟩
    · omega
    · unfold maxLen at h2; omega
  obtain ⟨L, rfl, hL, _⟩ := w0.reads
  exact chains5_all a0 cap0 L w hL hn
end Go.Proofs.Ytcjebegkcnnmbaa
