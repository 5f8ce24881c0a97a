/-
  What math/bits' Len64 and LeadingZeros64 answer, for whatever word. No conditions besides.
-/
import Derived.Test.YtkkioemlajagjaaChecked
import Derived.Test.YtkkioemlajagjaaDivM
import Derived.WalkKit
import Derived.WalkSpells
import Derived.Lib.Strings
import Derived.Lib.Slices
import Derived.Lib.Small
import Derived.Lib.Walk
import Derived.Lib.BitFns
import Derived.Deep.Light
namespace Go.Proofs.Ytkkioemlajagjaa
open Go.RowKit
set_option linter.unusedSimpArgs false
set_option linter.unusedVariables false

/-- The table's byte is the length of its place. -/
theorem len_at (z : Int) (h0 : 0 ≤ z) (h1 : z ≤ 255) (h : z.toNat < Lib.len8tab.size) : ((Lib.len8tab[z.toNat]'h).toNat : Int) = (Lib.bitLen z.toNat : Int) := by
  rw [← Lib.len8_of z h0 h1]
  unfold Lib.len8
  rw [getElem?_pos Lib.len8tab z.toNat h]
  rfl
theorem len_case (k : Nat) (z x : Int) (h : z.toNat < Lib.len8tab.size) (h0 : 0 ≤ z) (h1 : z ≤ 255) (hk : k ≤ 56) (e : Lib.bitLen x.toNat = k + Lib.bitLen z.toNat) :
    wrap64 ((k : Int) + wrap64 ((Lib.len8tab[z.toNat]'h).toNat : Int)) = (Lib.bitLen x.toNat : Int) := by
  rw [len_at z h0 h1 h, e]
  have := Lib.bitLen_le8' z h0 h1
  generalize Lib.bitLen z.toNat = b at *
  unfold wrap64; omega
theorem len_none (x : Int) (h : x.toNat < Lib.len8tab.size) (h0 : 0 ≤ x) (h1 : x ≤ 255) : wrap64 (wrap64 ((Lib.len8tab[x.toNat]'h).toNat : Int)) = (Lib.bitLen x.toNat : Int) := by
  rw [len_at x h0 h1 h]
  have := Lib.bitLen_le8' x h0 h1
  generalize Lib.bitLen x.toNat = b at *
  unfold wrap64; omega
theorem len_size : (Lib.len8tab.size : Int) = 256 := by rw [Lib.len8tab_size]; rfl

set_option maxHeartbeats 4000000 in
set_option maxRecDepth 100000 in
theorem len64_any (x : Int) (w : World) (h0 : 0 ≤ x) (h1 : x ≤ 18446744073709551615) :
    Calls Try.prog 74 #[.int .u64 x] w fun e w' => e = .returned (.int .i64 (Lib.bitLen x.toNat)) ∧ w = w' := by
  go_enter Try.func74, Try.ntmps74
  go_wp2
  all_goals first
    | (go_ret; refine ⟨congrArg Ending.returned (congrArg (Value.int IntKind.i64) ?_), rfl⟩; go_light)
    | (exfalso; go_light; have hs := len_size; omega)
  all_goals first
    | exact len_case 56 (x / 4294967296 / 65536 / 256) x _ (by omega) (by omega) (by omega) (by rw [show (x / 4294967296 / 65536 / 256).toNat = x.toNat / 72057594037927936 by omega]; exact Lib.bitLen_shift56 x.toNat (by omega) (by omega))
    | exact len_case 48 (x / 4294967296 / 65536) x _ (by omega) (by omega) (by omega) (by rw [show (x / 4294967296 / 65536).toNat = x.toNat / 281474976710656 by omega]; exact Lib.bitLen_shift48 x.toNat (by omega) (by omega))
    | exact len_case 40 (x / 4294967296 / 256) x _ (by omega) (by omega) (by omega) (by rw [show (x / 4294967296 / 256).toNat = x.toNat / 1099511627776 by omega]; exact Lib.bitLen_shift40 x.toNat (by omega) (by omega))
    | exact len_case 32 (x / 4294967296) x _ (by omega) (by omega) (by omega) (by rw [show (x / 4294967296).toNat = x.toNat / 4294967296 by omega]; exact Lib.bitLen_shift32 x.toNat (by omega) (by omega))
    | exact len_case 24 (x / 65536 / 256) x _ (by omega) (by omega) (by omega) (by rw [show (x / 65536 / 256).toNat = x.toNat / 16777216 by omega]; exact Lib.bitLen_shift24 x.toNat (by omega) (by omega))
    | exact len_case 16 (x / 65536) x _ (by omega) (by omega) (by omega) (by rw [show (x / 65536).toNat = x.toNat / 65536 by omega]; exact Lib.bitLen_shift16 x.toNat (by omega) (by omega))
    | exact len_case 8 (x / 256) x _ (by omega) (by omega) (by omega) (by rw [show (x / 256).toNat = x.toNat / 256 by omega]; exact Lib.bitLen_shift8 x.toNat (by omega) (by omega))
    | exact len_none x _ (by omega) (by omega)

set_option maxHeartbeats 400000 in
theorem zeros_any (y s : Nat) (hy : y < 18446744073709551616) (hs : Lib.bitLen y + s = 64) (w : World) :
    Calls Try.prog 73 #[.int .u64 (y : Int)] w fun e w' => e = .returned (.int .i64 (s : Int)) ∧ w = w' := by
  have hL := fun w => len64_any (y : Int) w (by omega) (by omega)
  have e : (64 : Int) - (Lib.bitLen y : Nat) = (s : Int) := by omega
  rw [Int.toNat_natCast] at hL
  generalize Lib.bitLen y = b at *
  go_enter Try.func73, Try.ntmps73
  go_wp2_with fail
  refine (hL _).mono ?_; rintro e w1 ⟨rfl, rfl⟩
  go_wp2_with fail
  go_ret
  refine ⟨congrArg Ending.returned (congrArg (Value.int IntKind.i64) ?_), rfl⟩
  rfl
end Go.Proofs.Ytkkioemlajagjaa
