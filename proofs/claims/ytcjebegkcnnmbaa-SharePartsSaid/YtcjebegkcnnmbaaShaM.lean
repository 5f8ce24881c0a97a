/-
  Shares in plain words, without any Go function: the parent's part, the others' part, shares of shares. No conditions.
-/
import Derived.Test.YtcjebegkcnnmbaaRatM
import Derived.Test.YtcjebegkcnnmbaaScaN
namespace Go.Proofs.Ytcjebegkcnnmbaa
open Go.RowKit
set_option linter.unusedSimpArgs false
set_option linter.unusedVariables false

/-- A share. -/
def OkS (s : Int) : Prop := 0 ≤ s ∧ s ≤ 10000
instance instDecOkS (s : Int) : Decidable (OkS s) := by unfold OkS; infer_instance
def shc (s : Int) : Int := if OkS s then 0 else 12
theorem shc_ok {s : Int} (h : OkS s) : shc s = 0 := if_pos h
theorem shc_no {s : Int} (h : ¬ OkS s) : shc s = 12 := if_neg h
theorem shc_b {s : Int} (h : ¬ OkS s) : (shc s == 0) = false := by rw [shc_no h]; rfl
theorem oks_inR {s : Int} (h : OkS s) : InR s := by unfold OkS at h; unfold InR; omega

/-- The parent's part, and the others'. -/
def parv (x s : Int) : Int := if OkS s then nearv (x * s) 10000 else 0
def minv (x s : Int) : Int := if OkS s then x - nearv (x * s) 10000 else 0

theorem near_mono' {u v d : Int} (hd : 1 ≤ d) (h : u ≤ v) : nearv u d ≤ nearv v d := near_le hd (near_is u d hd) (near_is v d hd) h
theorem near_whole (x : Int) : nearv (x * 10000) 10000 = x := by
  unfold nearv
  rw [Int.mul_emod_left, if_neg (by omega), Int.mul_ediv_cancel _ (by omega)]
theorem near_zero : nearv 0 10000 = 0 := by
  have := near_whole 0; rwa [Int.zero_mul] at this
theorem par_pos {x s : Int} (h : OkS s) (hx : 0 ≤ x) : 0 ≤ nearv (x * s) 10000 ∧ nearv (x * s) 10000 ≤ x := by
  unfold OkS at h
  have h1 : 0 ≤ x * s := Int.mul_nonneg hx h.1
  have h2 : x * s ≤ x * 10000 := Int.mul_le_mul_of_nonneg_left h.2 hx
  have m1 := near_mono' (d := 10000) (by omega) h1
  have m2 := near_mono' (d := 10000) (by omega) h2
  rw [near_zero] at m1
  rw [near_whole] at m2
  exact ⟨m1, m2⟩
theorem par_neg {x s : Int} (h : OkS s) (hx : x ≤ 0) : x ≤ nearv (x * s) 10000 ∧ nearv (x * s) 10000 ≤ 0 := by
  unfold OkS at h
  have h1 : x * s ≤ 0 := by
    have := Int.mul_le_mul_of_nonneg_right hx h.1
    rwa [Int.zero_mul] at this
  have h2 : x * 10000 ≤ x * s := Int.mul_le_mul_of_nonpos_left hx h.2
  have m1 := near_mono' (d := 10000) (by omega) h1
  have m2 := near_mono' (d := 10000) (by omega) h2
  rw [near_zero] at m1
  rw [near_whole] at m2
  exact ⟨m2, m1⟩
theorem par_inR {x s : Int} (h : OkS s) (hx : InR x) : InR (nearv (x * s) 10000) ∧ InR (x - nearv (x * s) 10000) := by
  unfold InR at hx ⊢
  rcases Int.le_total 0 x with c | c
  · have := par_pos h c; omega
  · have := par_neg h c; omega

/-- The rate of shares, one of the other: what is told behind so many of them. -/
def chn (n d : Int) : List Int → Int × Int × Int
  | [] => (n, d, 0)
  | s :: l => if LowOk (n * s).toNat (d * 10000).toNat then chn (lown (n * s).toNat (d * 10000).toNat) (lowd (n * s).toNat (d * 10000).toNat) l else (0, 0, 10)
/-- What Chain tells. -/
def chainv (L : List Int) : Int × Int × Int := if ∀ s ∈ L, OkS s then (if (0 : Int) ∈ L then (0, 1, 0) else chn 1 1 L) else (0, 0, 12)
theorem chn_end (n d : Int) : chn n d [] = (n, d, 0) := rfl
theorem chn_ok {n d s : Int} {l : List Int} (h : LowOk (n * s).toNat (d * 10000).toNat) : chn n d (s :: l) = chn (lown (n * s).toNat (d * 10000).toNat) (lowd (n * s).toNat (d * 10000).toNat) l := if_pos h
theorem chn_no {n d s : Int} {l : List Int} (h : ¬ LowOk (n * s).toNat (d * 10000).toNat) : chn n d (s :: l) = (0, 0, 10) := if_neg h
theorem low_okr {X Y : Nat} (hX : 0 < X) (hY : 0 < Y) (h : LowOk X Y) : OkR (lown X Y) (lowd X Y) := by
  have h1 := Nat.div_gcd_pos_of_pos_left Y hX
  have h2 := Nat.div_gcd_pos_of_pos_right X hY
  unfold lown lowd
  rw [if_pos h, if_pos h]
  unfold LowOk at h; unfold OkR; omega
theorem chn_okr {n d s : Int} (hr : OkR n d) (hs : OkS s) (h0 : s ≠ 0) (h : LowOk (n * s).toNat (d * 10000).toNat) : OkR (lown (n * s).toNat (d * 10000).toNat) (lowd (n * s).toNat (d * 10000).toNat) := by
  unfold OkR at hr; unfold OkS at hs
  have h1 : 0 < n * s := Int.mul_pos (by omega) (by omega)
  exact low_okr (by omega) (by omega) h
end Go.Proofs.Ytcjebegkcnnmbaa
