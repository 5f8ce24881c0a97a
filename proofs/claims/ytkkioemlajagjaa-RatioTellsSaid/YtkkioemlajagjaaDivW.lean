/-
  What math/bits' Div64 answers: the quotient of two words by one, and what is left. The conditions: the divisor is above 0 and below 2^63, and the upper word is less than it.
-/
import Derived.Test.YtkkioemlajagjaaDivL
import Derived.Deep.LoopGhost
import Derived.Deep.CutBlock
import Derived.Deep.DeepCutAuto
import Derived.Deep.RegionHeld3
import Derived.StillTactics
import Derived.Laws.Bits64b
namespace Go.Proofs.Ytkkioemlajagjaa
open Go.RowKit
set_option linter.unusedSimpArgs false
set_option linter.unusedVariables false

set_option maxHeartbeats 1000000 in
theorem div64_small (lo y : Int) (hy0 : 0 < y) (hl0 : 0 ≤ lo) (hlo : lo < 18446744073709551616) (w : World) :
    Calls Try.prog 71 #[.int .u64 0, .int .u64 lo, .int .u64 y] w fun e w' => e = .returned (.tuple #[.int .u64 (lo / y), .int .u64 (lo % y)]) ∧ Below w.heap.size w w' := by
  have e0 : (y == 0) = false := by simp; omega
  have e2 : ¬ y = 0 := by omega
  have e1 : ¬ y ≤ 0 := by omega
  have t1 : IntKind.u64.wrap (lo.tdiv y) = lo / y := by
    rw [Int.tdiv_eq_ediv_of_nonneg hl0, IntKind.wrap_u64]
    have := Int.ediv_nonneg hl0 (Int.le_of_lt hy0)
    have := Int.ediv_le_self y hl0
    omega
  have t2 : lo.tmod y = lo % y := Int.tmod_eq_emod_of_nonneg hl0
  generalize lo / y = q at *; generalize lo % y = r at *
  clear hl0 hlo hy0
  go_enter Try.func71, Try.ntmps71
  go_wp2
  go_region
  go_wp2
  go_ret2
  exact ⟨rfl, (Below.refl _ _).drew⟩

theorem round_big {n u a b q r : Nat} (h : Dig1 n u a b q r) (hu : u < 4294967296) (ha : 2147483648 ≤ a) (ha2 : a < 4294967296) (hb : b < 4294967296) (hn : n < a * 4294967296 + b) (hr : r < 4294967296) (hq : 4294967296 ≤ q) (hq2 : q ≤ 4294967297) :
    ∃ q' r' : Nat, IntKind.u64.wrap ((q : Int) - 1) = (q' : Int) ∧ IntKind.u64.wrap ((r : Int) + a) = (r' : Int) ∧ Dig1 n u a b q' r' ∧ q' < q ∧ q' ≤ 4294967297 ∧ (4294967296 ≤ r' → q' = (n * 4294967296 + u) / (a * 4294967296 + b)) := by
  have h' := dig_big h hu hn hq
  refine ⟨q - 1, r + a, by rw [IntKind.wrap_u64]; omega, by rw [IntKind.wrap_u64]; omega, h', by omega, by omega, fun h1 => dig_out h' (by omega) hb (by omega) h1⟩
theorem round_mul {n u a b q r : Nat} (h : Dig1 n u a b q r) (hu : u < 4294967296) (ha : 2147483648 ≤ a) (ha2 : a < 4294967296) (hb : b < 4294967296) (hr : r < 4294967296) (hq : q < 4294967296) (hm : 4294967296 * r + u < q * b) :
    ∃ q' r' : Nat, IntKind.u64.wrap ((q : Int) - 1) = (q' : Int) ∧ IntKind.u64.wrap ((r : Int) + a) = (r' : Int) ∧ Dig1 n u a b q' r' ∧ q' < q ∧ q' ≤ 4294967297 ∧ (4294967296 ≤ r' → q' = (n * 4294967296 + u) / (a * 4294967296 + b)) := by
  obtain ⟨h1, h'⟩ := dig_mul h (by omega) hm
  refine ⟨q - 1, r + a, by rw [IntKind.wrap_u64]; omega, by rw [IntKind.wrap_u64]; omega, h', by omega, by omega, fun h1 => dig_out h' (by omega) hb (by omega) h1⟩
theorem round_words {u b q r : Nat} (hu : u < 4294967296) (hb : b < 4294967296) (hr : r < 4294967296) (hq : q < 4294967296) :
    IntKind.u64.wrap ((q : Int) * b) = ((q * b : Nat) : Int) ∧ IntKind.u64.wrap (4294967296 * (r : Int)) = 4294967296 * (r : Int) ∧ IntKind.u64.wrap (4294967296 * (r : Int) + u) = 4294967296 * (r : Int) + u := by
  have : q * b ≤ 4294967295 * 4294967295 := Nat.mul_le_mul (by omega) (by omega)
  refine ⟨?_, ?_, ?_⟩
  · rw [← Int.natCast_mul, IntKind.wrap_u64]; omega
  · rw [IntKind.wrap_u64]; omega
  · rw [IntKind.wrap_u64]; omega

/-- What holds at a loop's head: the half of the quotient that is tried, and what is left of the upper half's division. -/
def HalfRel (n u a b : Nat) (w : World) (k : Nat) (q r : Value) (wr : World) : Prop :=
  ∃ Q R : Nat, k = Q ∧ q = .int .u64 (Q : Int) ∧ r = .int .u64 (R : Int) ∧ Dig1 n u a b Q R ∧ R < 4294967296 ∧ Q ≤ 4294967297 ∧ w = wr

set_option maxHeartbeats 4000000 in
set_option maxRecDepth 100000 in
theorem div64_great (hi lo y s Y : Int) (n a b u1 u0 m q1 q0 Q0 R0 Q0' R0' : Nat) (u res rem : Int) (hhi : hi < y) (e0 : (y == 0) = false) (e2 : (hi == 0) = false) (h1 : 1 ≤ s) (h63 : s ≤ 63) (eY : IntKind.u64.wrap (y * 2 ^ s.toNat) = Y) (eA : Y / 4294967296 = (a : Int)) (eB : bits .and .u64 Y 4294967295 = (b : Int)) (e3 : ¬ (a : Int) = 0)
   (eN : bits .or .u64 (IntKind.u64.wrap (hi * 2 ^ s.toNat)) (lo / 2 ^ (64 - s).toNat) = (n : Int)) (eU : IntKind.u64.wrap (lo * 2 ^ s.toNat) = u) (eU1 : u / 4294967296 = (u1 : Int)) (eU0 : bits .and .u64 u 4294967295 = (u0 : Int))
   (eQ : IntKind.u64.wrap ((n : Int) / a) = (Q0 : Int)) (eR : IntKind.u64.wrap ((n : Int) - IntKind.u64.wrap ((Q0 : Int) * a)) = (R0 : Int))
   (eM : IntKind.u64.wrap (IntKind.u64.wrap (IntKind.u64.wrap ((n : Int) * 4294967296) + u1) - IntKind.u64.wrap ((q1 : Int) * Y)) = (m : Int))
   (eQ' : IntKind.u64.wrap ((m : Int) / a) = (Q0' : Int)) (eR' : IntKind.u64.wrap ((m : Int) - IntKind.u64.wrap ((Q0' : Int) * a)) = (R0' : Int))
   (eS : IntKind.u64.wrap (IntKind.u64.wrap ((q1 : Int) * 4294967296) + q0) = res) (eT : IntKind.u64.wrap (IntKind.u64.wrap (IntKind.u64.wrap ((m : Int) * 4294967296) + u0) - IntKind.u64.wrap ((q0 : Int) * Y)) / 2 ^ s.toNat = rem)
   (hu1 : u1 < 4294967296) (hu0 : u0 < 4294967296) (ha : 2147483648 ≤ a) (ha2 : a < 4294967296) (hb : b < 4294967296) (hn : n < a * 4294967296 + b) (hm : m < a * 4294967296 + b)
   (dq1 : (n * 4294967296 + u1) / (a * 4294967296 + b) = q1) (dq0 : (m * 4294967296 + u0) / (a * 4294967296 + b) = q0)
   (dS : Dig1 n u1 a b Q0 R0) (rS : R0 < 4294967296) (qS : Q0 ≤ 4294967297) (dS' : Dig1 m u0 a b Q0' R0') (rS' : R0' < 4294967296) (qS' : Q0' ≤ 4294967297)
   (hZ : ∀ w, Calls Try.prog 73 #[.int .u64 y] w fun e w' => e = .returned (.int .i64 s) ∧ w = w') (w : World) :
    Calls Try.prog 71 #[.int .u64 hi, .int .u64 lo, .int .u64 y] w fun e w' => e = .returned (.tuple #[.int .u64 res, .int .u64 rem]) ∧ w = w' := by
  have H0 : Hid (HalfRel n u1 a b w Q0 (.int .u64 (Q0 : Int)) (.int .u64 (R0 : Int)) w) := ⟨Q0, R0, rfl, rfl, rfl, dS, rS, qS, rfl⟩
  have H1 : Hid (HalfRel m u0 a b w Q0' (.int .u64 (Q0' : Int)) (.int .u64 (R0' : Int)) w) := ⟨Q0', R0', rfl, rfl, rfl, dS', rS', qS', rfl⟩
  have HD := Lib.hid (And.intro dq1 dq0)
  have HB := Lib.hid (And.intro hu1 (And.intro hu0 (And.intro ha (And.intro ha2 (And.intro hb (And.intro hn hm))))))
  clear dS rS qS dS' rS' qS' dq1 dq0 hu1 hu0 ha ha2 hb hn hm
  go_enter Try.func71, Try.ntmps71
  go_wp2_with fail
  refine (hZ _).mono ?_; rintro e w1 ⟨rfl, rfl⟩
  go_upto_block 0 with fail
  go_cut [15, 16] (fun q r wx => q = .int .u64 (q1 : Int) ∧ w = wx)
  case first =>
    go_wp2_with fail
    go_loopg [15, 16] Q0 (fun k q r wr => HalfRel n u1 a b w k q r wr)
    case atStart => exact H0.out
    case round =>
      obtain ⟨Q, R, hk, rfl, rfl, hd, hR, hQ, rfl⟩ := hrel
      obtain ⟨hu1, hu0, ha, ha2, hb, hn, hm⟩ := HB.out
      have HQ := Lib.hid (And.intro hd (And.intro hR hQ))
      by_cases c1 : 4294967296 ≤ Q
      · obtain ⟨Q', R', x1, x2, hd', hlt, hQ', hout⟩ := round_big hd hu1 ha ha2 hb hn hR c1 hQ
        have HX := Lib.hid (And.intro hd' (And.intro (show Q' < gk by omega) (And.intro hQ' hout)))
        have c1' : 4294967296 ≤ (Q : Int) := by omega
        clear hk hd hR hQ hd' hlt hQ' hout hu1 hu0 ha ha2 hb hn hm c1
        by_cases c3 : 4294967296 ≤ R'
        · have c3' : 4294967296 ≤ (R' : Int) := by omega
          clear c3
          go_wp2_with fail
          go_meet
          refine ⟨?_, rfl⟩
          rw [HX.out.2.2.2 (by omega), HD.out.1]
        · have c3' : ¬ 4294967296 ≤ (R' : Int) := by omega
          clear c3
          go_wp2_with fail
          go_roundg Q'
          case measure => exact HX.out.2.1
          case rel => exact ⟨Q', R', rfl, rfl, rfl, HX.out.1, by omega, HX.out.2.2.1, rfl⟩
      · obtain ⟨x3, x4, x5⟩ := round_words (u := u1) (b := b) (q := Q) (r := R) hu1 hb hR (by omega)
        have c1' : ¬ 4294967296 ≤ (Q : Int) := by omega
        by_cases c2 : 4294967296 * R + u1 < Q * b
        · obtain ⟨Q', R', x1, x2, hd', hlt, hQ', hout⟩ := round_mul hd hu1 ha ha2 hb hR (by omega) c2
          have HX := Lib.hid (And.intro hd' (And.intro (show Q' < gk by omega) (And.intro hQ' hout)))
          have c2' : 4294967296 * (R : Int) + (u1 : Int) < ((Q * b : Nat) : Int) := by omega
          clear hk hd hR hQ hd' hlt hQ' hout hu1 hu0 ha ha2 hb hn hm c1 c2
          generalize ((Q * b : Nat) : Int) = P at *
          by_cases c3 : 4294967296 ≤ R'
          · have c3' : 4294967296 ≤ (R' : Int) := by omega
            clear c3
            go_wp2_with fail
            go_meet
            refine ⟨?_, rfl⟩
            rw [HX.out.2.2.2 (by omega), HD.out.1]
          · have c3' : ¬ 4294967296 ≤ (R' : Int) := by omega
            clear c3
            go_wp2_with fail
            go_roundg Q'
            case measure => exact HX.out.2.1
            case rel => exact ⟨Q', R', rfl, rfl, rfl, HX.out.1, by omega, HX.out.2.2.1, rfl⟩
        · have hend := dig_end hd (by omega) (by omega)
          have HX := Lib.hid hend
          have c2' : ¬ 4294967296 * (R : Int) + (u1 : Int) < ((Q * b : Nat) : Int) := by omega
          clear hk hd hR hQ hu1 hu0 ha ha2 hb hn hm c1 c2 hend
          generalize ((Q * b : Nat) : Int) = P at *
          go_wp2_with fail
          go_meet
          refine ⟨?_, rfl⟩
          rw [HX.out, HD.out.1]
  case rest =>
    obtain ⟨rfl, rfl⟩ := hcut
    go_upto_block 2 with fail
    go_cut [18, 16] (fun q r wx => q = .int .u64 (q0 : Int) ∧ w = wx)
    case first =>
      go_wp2_with fail
      go_loopg [18, 16] Q0' (fun k q r wr => HalfRel m u0 a b w k q r wr)
      case atStart => exact H1.out
      case round =>
        obtain ⟨Q, R, hk, rfl, rfl, hd, hR, hQ, rfl⟩ := hrel
        obtain ⟨hu1, hu0, ha, ha2, hb, hn, hm⟩ := HB.out
        have HQ := Lib.hid (And.intro hd (And.intro hR hQ))
        by_cases c1 : 4294967296 ≤ Q
        · obtain ⟨Q', R', x1, x2, hd', hlt, hQ', hout⟩ := round_big hd hu0 ha ha2 hb hm hR c1 hQ
          have HX := Lib.hid (And.intro hd' (And.intro (show Q' < gk by omega) (And.intro hQ' hout)))
          have c1' : 4294967296 ≤ (Q : Int) := by omega
          clear hk hd hR hQ hd' hlt hQ' hout hu1 hu0 ha ha2 hb hn hm c1
          by_cases c3 : 4294967296 ≤ R'
          · have c3' : 4294967296 ≤ (R' : Int) := by omega
            clear c3
            go_wp2_with fail
            go_meet
            refine ⟨?_, rfl⟩
            rw [HX.out.2.2.2 (by omega), HD.out.2]
          · have c3' : ¬ 4294967296 ≤ (R' : Int) := by omega
            clear c3
            go_wp2_with fail
            go_roundg Q'
            case measure => exact HX.out.2.1
            case rel => exact ⟨Q', R', rfl, rfl, rfl, HX.out.1, by omega, HX.out.2.2.1, rfl⟩
        · obtain ⟨x3, x4, x5⟩ := round_words (u := u0) (b := b) (q := Q) (r := R) hu0 hb hR (by omega)
          have c1' : ¬ 4294967296 ≤ (Q : Int) := by omega
          by_cases c2 : 4294967296 * R + u0 < Q * b
          · obtain ⟨Q', R', x1, x2, hd', hlt, hQ', hout⟩ := round_mul hd hu0 ha ha2 hb hR (by omega) c2
            have HX := Lib.hid (And.intro hd' (And.intro (show Q' < gk by omega) (And.intro hQ' hout)))
            have c2' : 4294967296 * (R : Int) + (u0 : Int) < ((Q * b : Nat) : Int) := by omega
            clear hk hd hR hQ hd' hlt hQ' hout hu1 hu0 ha ha2 hb hn hm c1 c2
            generalize ((Q * b : Nat) : Int) = P at *
            by_cases c3 : 4294967296 ≤ R'
            · have c3' : 4294967296 ≤ (R' : Int) := by omega
              clear c3
              go_wp2_with fail
              go_meet
              refine ⟨?_, rfl⟩
              rw [HX.out.2.2.2 (by omega), HD.out.2]
            · have c3' : ¬ 4294967296 ≤ (R' : Int) := by omega
              clear c3
              go_wp2_with fail
              go_roundg Q'
              case measure => exact HX.out.2.1
              case rel => exact ⟨Q', R', rfl, rfl, rfl, HX.out.1, by omega, HX.out.2.2.1, rfl⟩
          · have hend := dig_end hd (by omega) (by omega)
            have HX := Lib.hid hend
            have c2' : ¬ 4294967296 * (R : Int) + (u0 : Int) < ((Q * b : Nat) : Int) := by omega
            clear hk hd hR hQ hu1 hu0 ha ha2 hb hn hm c1 c2 hend
            generalize ((Q * b : Nat) : Int) = P at *
            go_wp2_with fail
            go_meet
            refine ⟨?_, rfl⟩
            rw [HX.out, HD.out.2]
    case rest =>
      obtain ⟨rfl, rfl⟩ := hcut
      go_wp2_with fail
      go_ret2
      exact ⟨rfl, rfl⟩
end Go.Proofs.Ytkkioemlajagjaa
