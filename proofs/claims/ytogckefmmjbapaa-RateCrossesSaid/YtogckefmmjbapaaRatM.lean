/-
  Rates in plain words, without any Go function: which may be, their lowest terms, products of them, which is the lesser one. No conditions.
-/
import Derived.Test.YtogckefmmjbapaaScaM
namespace Go.Proofs.Ytogckefmmjbapaa
open Go.RowKit
set_option linter.unusedSimpArgs false
set_option linter.unusedVariables false

/-- A rate that may be. -/
def OkR (n d : Int) : Prop := 1 ≤ n ∧ 1 ≤ d ∧ n ≤ 1000000000000 ∧ d ≤ 1000000000000
instance instDecOkR (n d : Int) : Decidable (OkR n d) := by unfold OkR; infer_instance
/-- The error's number of a rate. -/
def rc (n d : Int) : Int := if OkR n d then 0 else 11
theorem rc_ok {n d : Int} (h : OkR n d) : rc n d = 0 := if_pos h
theorem rc_no {n d : Int} (h : ¬ OkR n d) : rc n d = 11 := if_neg h
theorem rc_b {n d : Int} (h : ¬ OkR n d) : (rc n d == 0) = false := by rw [rc_no h]; rfl

/-- Both lowest terms are at most 10^12. -/
def LowOk (X Y : Nat) : Prop := X / Nat.gcd X Y ≤ 1000000000000 ∧ Y / Nat.gcd X Y ≤ 1000000000000
instance instDecLowOk (X Y : Nat) : Decidable (LowOk X Y) := by unfold LowOk; infer_instance
def lown (X Y : Nat) : Int := if LowOk X Y then ((X / Nat.gcd X Y : Nat) : Int) else 0
def lowd (X Y : Nat) : Int := if LowOk X Y then ((Y / Nat.gcd X Y : Nat) : Int) else 0

/-- The lowest terms of a rate that may be; nought of one that may not. -/
def normn (n d : Int) : Int := if OkR n d then lown n.toNat d.toNat else 0
def normd (n d : Int) : Int := if OkR n d then lowd n.toNat d.toNat else 0
theorem ok_inR {n d : Int} (h : OkR n d) : InR n ∧ InR d := by unfold OkR at h; unfold InR; omega

/-- What Apply tells. -/
def av (x n d : Int) : Int := if OkR n d then tv (nearv (x * n) d) else 0
def ae (x n d : Int) : Int := if OkR n d then te (nearv (x * n) d) else 11
/-- What Times tells: the lowest terms of the product, or nought; the error's number. -/
def mulE (n d m f : Int) : Int := if OkR n d ∧ OkR m f then (if LowOk (n * m).toNat (d * f).toNat then 0 else 10) else 11
def mulN (n d m f : Int) : Int := if OkR n d ∧ OkR m f then lown (n * m).toNat (d * f).toNat else 0
def mulD (n d m f : Int) : Int := if OkR n d ∧ OkR m f then lowd (n * m).toNat (d * f).toNat else 0

/-- Terms without a divisor in common are the lowest ones. -/
theorem low_unique {X Y P Q : Nat} (hX : 0 < X) (hc : Nat.gcd P Q = 1) (h : X * Q = Y * P) : X / Nat.gcd X Y = P ∧ Y / Nat.gcd X Y = Q := by
  have hP : 0 < P := by
    rcases Nat.eq_zero_or_pos P with r | r
    · subst r
      rw [Nat.mul_zero] at h
      rcases Nat.mul_eq_zero.mp h with r | r
      · omega
      · subst r; simp at hc
    · exact r
  have hd : P ∣ X := Nat.Coprime.dvd_of_dvd_mul_right (show Nat.Coprime P Q from hc) ⟨Y, by rw [h, Nat.mul_comm]⟩
  obtain ⟨k, rfl⟩ := hd
  have hk : 0 < k := by
    rcases Nat.eq_zero_or_pos k with r | r
    · subst r; omega
    · exact r
  have hY : Y = Q * k := by
    have e : P * (Q * k) = P * Y := by rw [Nat.mul_comm P Y, ← h, Nat.mul_comm Q k, Nat.mul_assoc]
    exact (Nat.eq_of_mul_eq_mul_left hP e).symm
  subst hY
  rw [Nat.gcd_mul_right, hc, Nat.one_mul]
  exact ⟨Nat.mul_div_cancel _ hk, Nat.mul_div_cancel _ hk⟩
theorem low_is {X Y P Q : Nat} (hX : 0 < X) (hc : Nat.gcd P Q = 1) (h : X * Q = Y * P) :
    (LowOk X Y ↔ P ≤ 1000000000000 ∧ Q ≤ 1000000000000) ∧ lown X Y = (if P ≤ 1000000000000 ∧ Q ≤ 1000000000000 then (P : Int) else 0) ∧ lowd X Y = (if P ≤ 1000000000000 ∧ Q ≤ 1000000000000 then (Q : Int) else 0) := by
  have e := low_unique hX hc h
  have i : LowOk X Y ↔ P ≤ 1000000000000 ∧ Q ≤ 1000000000000 := by unfold LowOk; rw [e.1, e.2]
  refine ⟨i, ?_, ?_⟩
  · unfold lown; simp only [i, e.1]
  · unfold lowd; simp only [i, e.2]

/-- The lowest terms of a rate that may be. -/
theorem norm_is {n d : Int} (h : OkR n d) : ∃ N D g : Nat, 0 < g ∧ 0 < N ∧ 0 < D ∧ Nat.gcd N D = 1 ∧ n = (N : Int) * g ∧ d = (D : Int) * g ∧ normn n d = N ∧ normd n d = D ∧ N ≤ 1000000000000 ∧ D ≤ 1000000000000 := by
  obtain ⟨X, rfl⟩ := Int.eq_ofNat_of_zero_le (show 0 ≤ n by unfold OkR at h; omega)
  obtain ⟨Y, rfl⟩ := Int.eq_ofNat_of_zero_le (show 0 ≤ d by unfold OkR at h; omega)
  have hX : 0 < X := by unfold OkR at h; omega
  have hY : 0 < Y := by unfold OkR at h; omega
  have hg := Nat.gcd_pos_of_pos_left Y hX
  have hc := Nat.coprime_div_gcd_div_gcd hg
  have e1 := Nat.div_mul_cancel (Nat.gcd_dvd_left X Y)
  have e2 := Nat.div_mul_cancel (Nat.gcd_dvd_right X Y)
  have p1 := Nat.div_pos (Nat.le_of_dvd hX (Nat.gcd_dvd_left X Y)) hg
  have p2 := Nat.div_pos (Nat.le_of_dvd hY (Nat.gcd_dvd_right X Y)) hg
  have l1 := Nat.div_le_self X (Nat.gcd X Y)
  have l2 := Nat.div_le_self Y (Nat.gcd X Y)
  have b1 : X / Nat.gcd X Y ≤ 1000000000000 := by unfold OkR at h; omega
  have b2 : Y / Nat.gcd X Y ≤ 1000000000000 := by unfold OkR at h; omega
  refine ⟨_, _, _, hg, p1, p2, hc, ?_, ?_, ?_, ?_, b1, b2⟩
  · rw [← Int.natCast_mul, e1]
  · rw [← Int.natCast_mul, e2]
  · unfold normn lown; rw [if_pos h, Int.toNat_natCast, Int.toNat_natCast, if_pos ⟨b1, b2⟩]
  · unfold normd lowd; rw [if_pos h, Int.toNat_natCast, Int.toNat_natCast, if_pos ⟨b1, b2⟩]
theorem norm_of {n d : Int} {N D : Nat} (h : OkR n d) (hc : Nat.gcd N D = 1) (e : n * D = d * N) : normn n d = N ∧ normd n d = D := by
  obtain ⟨N', D', g, hg, hN, hD, hc', rfl, rfl, e1, e2, _, _⟩ := norm_is h
  have hh : N' * D = D' * N := by
    have : (N' * D) * g = (D' * N) * g := by
      have e' : (((N' * D) * g : Nat) : Int) = (((D' * N) * g : Nat) : Int) := by
        simp only [Int.natCast_mul]; rw [Int.mul_right_comm, e, Int.mul_right_comm]
      exact Int.ofNat.inj e'
    exact Nat.eq_of_mul_eq_mul_right hg this
  have u1 := low_unique hN hc hh
  rw [hc', Nat.div_one, Nat.div_one] at u1
  rw [e1, e2, u1.1, u1.2]
  exact ⟨rfl, rfl⟩
theorem norm_no {n d : Int} (h : ¬ OkR n d) : normn n d = 0 ∧ normd n d = 0 := ⟨if_neg h, if_neg h⟩
theorem norm_ok {n d : Int} (h : OkR n d) : OkR (normn n d) (normd n d) := by
  obtain ⟨N, D, g, hg, hN, hD, hc, _, _, e1, e2, b1, b2⟩ := norm_is h
  rw [e1, e2]; unfold OkR; omega
theorem ok_flip {n d : Int} (h : OkR n d) : OkR d n := by unfold OkR at h ⊢; omega
theorem ok_mix {n d m f : Int} (h : OkR n d) (h' : OkR m f) : OkR n f := by unfold OkR at h h' ⊢; omega
theorem norm_flip {n d : Int} (h : OkR n d) : normn d n = normd n d ∧ normd d n = normn n d := by
  obtain ⟨N, D, g, hg, hN, hD, hc, hn, hd, e1, e2, b1, b2⟩ := norm_is h
  rw [e1, e2]
  exact norm_of (ok_flip h) (by rw [Nat.gcd_comm]; exact hc) (by rw [hn, hd, Int.mul_right_comm, Int.mul_comm (D : Int), Int.mul_right_comm])
/-- Lowest terms are the same rate. -/
theorem norm_cross {n d : Int} (h : OkR n d) : n * normd n d = normn n d * d := by
  obtain ⟨N, D, g, hg, hN, hD, hc, hn, hd, e1, e2, b1, b2⟩ := norm_is h
  rw [e1, e2, hn, hd, Int.mul_right_comm, Int.mul_assoc (N : Int) D g]
theorem norm_norm {n d : Int} (h : OkR n d) : normn (normn n d) (normd n d) = normn n d ∧ normd (normn n d) (normd n d) = normd n d := by
  have hk := norm_ok h
  obtain ⟨N, D, g, hg, hN, hD, hc, hn, hd, e1, e2, b1, b2⟩ := norm_is h
  rw [e1, e2] at hk ⊢
  exact norm_of hk hc (Int.mul_comm _ _)

/-- Two rates are one number. -/
def sameB (n d m f : Int) : Bool := decide (OkR n d) && decide (OkR m f) && cmpv (n * f) (m * d) == 0
/-- A rate is less than another one. -/
def lessB (n d m f : Int) : Bool := decide (OkR n d) && decide (OkR m f) && decide (cmpv (n * f) (m * d) < 0)
theorem cmpv_zero {a b : Int} : (cmpv a b == 0) = decide (a = b) := by
  unfold cmpv; split
  · rw [decide_eq_false (by omega)]; rfl
  · split
    · rw [decide_eq_false (by omega)]; rfl
    · rw [decide_eq_true (by omega)]; rfl
theorem cmpv_low {a b : Int} : decide (cmpv a b < 0) = decide (a < b) := by
  unfold cmpv; split
  · rw [decide_eq_true (by omega), decide_eq_true (by omega)]
  · split
    · rw [decide_eq_false (by omega), decide_eq_false (by omega)]
    · rw [decide_eq_false (by omega), decide_eq_false (by omega)]
theorem same_ok {n d m f : Int} (ha : OkR n d) (hb : OkR m f) : sameB n d m f = decide (n * f = m * d) := by
  unfold sameB; rw [decide_eq_true ha, decide_eq_true hb, cmpv_zero]; simp
theorem less_ok {n d m f : Int} (ha : OkR n d) (hb : OkR m f) : lessB n d m f = decide (n * f < m * d) := by
  unfold lessB; rw [decide_eq_true ha, decide_eq_true hb, cmpv_low]; simp
theorem same_no {n d m f : Int} (h : ¬ (OkR n d ∧ OkR m f)) : sameB n d m f = false := by
  unfold sameB
  by_cases ha : OkR n d
  · rw [decide_eq_true ha, decide_eq_false (fun hb => h ⟨ha, hb⟩)]; rfl
  · rw [decide_eq_false ha]; rfl
theorem less_no {n d m f : Int} (h : ¬ (OkR n d ∧ OkR m f)) : lessB n d m f = false := by
  unfold lessB
  by_cases ha : OkR n d
  · rw [decide_eq_true ha, decide_eq_false (fun hb => h ⟨ha, hb⟩)]; rfl
  · rw [decide_eq_false ha]; rfl
theorem same_norm {n d m f : Int} (ha : OkR n d) (hb : OkR m f) : (normn n d = normn m f ∧ normd n d = normd m f) ↔ n * f = m * d := by
  obtain ⟨N, D, g, hg, hN, hD, hc, hn, hd, e1, e2, b1, b2⟩ := norm_is ha
  obtain ⟨M, F, k, hk, hM, hF, hc', hm, hf, e3, e4, b3, b4⟩ := norm_is hb
  constructor
  · rintro ⟨i, j⟩
    rw [e1, e3] at i; rw [e2, e4] at j
    rw [hn, hd, hm, hf, i, j]
    rw [Int.mul_assoc, Int.mul_assoc, Int.mul_left_comm (g : Int), Int.mul_left_comm (k : Int), Int.mul_comm (g : Int)]
  · intro i
    have hm0 : (M : Int) * k ≠ 0 := Int.mul_ne_zero (by omega) (by omega)
    have hk0 : (k : Int) ≠ 0 := by omega
    have hx : n * F = d * M := by
      have : (n * F) * k = (d * M) * k := by rw [Int.mul_assoc, Int.mul_assoc, ← hf, ← hm, i, Int.mul_comm]
      exact Int.eq_of_mul_eq_mul_right hk0 this
    have := norm_of ha hc' hx
    rw [e3, e4]; exact this
/-- What the code tells of lowest terms that it holds against each other. -/
theorem same_code (n d m f : Int) : ((normn n d == normn m f && normd n d == normd m f) && !(normn n d == 0 && normd n d == 0)) = sameB n d m f := by
  by_cases ha : OkR n d
  · by_cases hb : OkR m f
    · rw [same_ok ha hb]
      have i := same_norm ha hb
      have hz : (normn n d == 0) = false := by have := norm_ok ha; unfold OkR at this; simp; omega
      rw [hz, Bool.false_and, Bool.not_false, Bool.and_true]
      by_cases e : n * f = m * d
      · rw [decide_eq_true e, (i.mpr e).1, (i.mpr e).2]; simp
      · rw [decide_eq_false e]
        by_cases e1 : normn n d = normn m f
        · have e2 : ¬ normd n d = normd m f := fun e2 => e (i.mp ⟨e1, e2⟩)
          simp [e2]
        · simp [e1]
    · rw [same_no (fun h => hb h.2), (norm_no hb).1, (norm_no hb).2]
      cases (normn n d == 0 && normd n d == 0) <;> rfl
  · rw [same_no (fun h => ha h.1), (norm_no ha).1, (norm_no ha).2]
    simp

/-- The product of two rates, each divided crosswise, is in lowest terms. -/
theorem times_is {n d m f : Int} (ha : OkR n d) (hb : OkR m f) : ∃ P Q : Nat,
    normn (normn n d) (normd m f) * normn (normn m f) (normd n d) = P ∧ normd (normn n d) (normd m f) * normd (normn m f) (normd n d) = Q ∧
    lown (n * m).toNat (d * f).toNat = (if P ≤ 1000000000000 ∧ Q ≤ 1000000000000 then (P : Int) else 0) ∧ lowd (n * m).toNat (d * f).toNat = (if P ≤ 1000000000000 ∧ Q ≤ 1000000000000 then (Q : Int) else 0) ∧
    (LowOk (n * m).toNat (d * f).toNat ↔ P ≤ 1000000000000 ∧ Q ≤ 1000000000000) := by
  have k1 := ok_mix (norm_ok ha) (norm_ok hb)
  have k2 := ok_mix (norm_ok hb) (norm_ok ha)
  obtain ⟨N, D, g, hg, hN, hD, hc, hn, hd, e1, e2, b1, b2⟩ := norm_is ha
  obtain ⟨M, F, k, hk, hM, hF, hc', hm, hf, e3, e4, b3, b4⟩ := norm_is hb
  rw [e1, e4] at k1; rw [e3, e2] at k2
  obtain ⟨A, B, x, hx, hA, hB, hAB, i1, i2, i3, i4, _, _⟩ := norm_is k1
  obtain ⟨C, E, y, hy, hC, hE, hCE, j1, j2, j3, j4, _, _⟩ := norm_is k2
  rw [e1, e2, e3, e4, i3, i4, j3, j4]
  have i1' : N = A * x := Int.ofNat.inj (by rw [← Int.natCast_mul] at i1; exact i1)
  have i2' : F = B * x := Int.ofNat.inj (by rw [← Int.natCast_mul] at i2; exact i2)
  have j1' : M = C * y := Int.ofNat.inj (by rw [← Int.natCast_mul] at j1; exact j1)
  have j2' : D = E * y := Int.ofNat.inj (by rw [← Int.natCast_mul] at j2; exact j2)
  subst i1' i2' j1' j2'
  refine ⟨A * C, B * E, by rw [Int.natCast_mul], by rw [Int.natCast_mul], ?_⟩
  have hAE : Nat.Coprime A E := Nat.Coprime.coprime_mul_right (Nat.Coprime.coprime_mul_right_right hc)
  have hCB : Nat.Coprime C B := Nat.Coprime.coprime_mul_right (Nat.Coprime.coprime_mul_right_right hc')
  have hco : Nat.gcd (A * C) (B * E) = 1 :=
    Nat.Coprime.mul_left (Nat.Coprime.mul_right hAB hAE) (Nat.Coprime.mul_right hCB hCE)
  have t1 : (n * m).toNat = A * x * g * (C * y * k) := by
    rw [hn, hm, ← Int.natCast_mul, ← Int.natCast_mul, ← Int.natCast_mul, Int.toNat_natCast]
  have t2 : (d * f).toNat = E * y * g * (B * x * k) := by
    rw [hd, hf, ← Int.natCast_mul, ← Int.natCast_mul, ← Int.natCast_mul, Int.toNat_natCast]
  rw [t1, t2]
  have hX : 0 < A * x * g * (C * y * k) := Nat.mul_pos (Nat.mul_pos hN hg) (Nat.mul_pos hM hk)
  have hq : A * x * g * (C * y * k) * (B * E) = E * y * g * (B * x * k) * (A * C) := by ac_rfl
  have := low_is hX hco hq
  exact ⟨this.2.1, this.2.2, this.1⟩

/-- The nearest number does not hang on a divisor that both have. -/
theorem near_scale {u v g : Int} (hg : 0 < g) : nearv (u * g) (v * g) = nearv u v := by
  have e1 : u * g / (v * g) = u / v := by rw [Int.mul_comm u, Int.mul_comm v]; exact Int.mul_ediv_mul_of_pos _ _ hg
  have e2 : u * g % (v * g) = (u % v) * g := by rw [Int.mul_comm u, Int.mul_comm v, Int.mul_emod_mul_of_pos _ _ hg, Int.mul_comm]
  have c1 : v * g < u % v * g + u % v * g ↔ v < u % v + u % v := by rw [← Int.add_mul]; exact Int.mul_lt_mul_right hg
  have c2 : u % v * g + u % v * g = v * g ↔ u % v + u % v = v := by rw [← Int.add_mul]; exact Int.mul_eq_mul_right_iff (by omega)
  unfold nearv; rw [e1, e2]; simp only [c1, c2]

/-- The order of two rates does not hang on their terms. -/
theorem terms_lt {n d m f n' d' m' f' : Int} (hd : 0 < d) (hf : 0 < f) (hd' : 0 < d') (hf' : 0 < f') (h : n * d' = n' * d) (h' : m * f' = m' * f) :
    (n * f < m * d ↔ n' * f' < m' * d') ∧ (n * f = m * d ↔ n' * f' = m' * d') := by
  have p := Int.mul_pos hd hf
  have p' := Int.mul_pos hd' hf'
  have e1 : n * f * (d' * f') = n' * f' * (d * f) := by
    rw [show n * f * (d' * f') = n * d' * (f * f') by ac_rfl, h]; ac_rfl
  have e2 : m * d * (d' * f') = m' * d' * (d * f) := by
    rw [show m * d * (d' * f') = m * f' * (d * d') by ac_rfl, h']; ac_rfl
  constructor
  · rw [← Int.mul_lt_mul_right p', e1, e2, Int.mul_lt_mul_right p]
  · rw [← Int.mul_eq_mul_right_iff (Int.ne_of_gt p'), e1, e2, Int.mul_eq_mul_right_iff (Int.ne_of_gt p)]
theorem less_flip {n d m f : Int} (ha : OkR n d) (hb : OkR m f) : lessB (normn f m) (normd f m) (normn d n) (normd d n) = lessB n d m f := by
  have ca := norm_cross (ok_flip ha); have cb := norm_cross (ok_flip hb)
  have ka := norm_ok (ok_flip ha); have kb := norm_ok (ok_flip hb)
  rw [less_ok kb ka, less_ok ha hb]
  unfold OkR at ha hb ka kb
  have := (terms_lt (n := f) (d := m) (m := d) (f := n) (by omega) (by omega) (by omega) (by omega) cb ca).1
  rw [decide_eq_decide, ← this, Int.mul_comm f n, Int.mul_comm d m]
theorem same_flip {n d m f : Int} (ha : OkR n d) (hb : OkR m f) : sameB (normn d n) (normd d n) (normn f m) (normd f m) = sameB n d m f := by
  have ca := norm_cross (ok_flip ha); have cb := norm_cross (ok_flip hb)
  have ka := norm_ok (ok_flip ha); have kb := norm_ok (ok_flip hb)
  rw [same_ok ka kb, same_ok ha hb]
  unfold OkR at ha hb ka kb
  have := (terms_lt (n := d) (d := n) (m := f) (f := m) (by omega) (by omega) (by omega) (by omega) ca cb).2
  rw [decide_eq_decide, ← this, Int.mul_comm d m, Int.mul_comm f n]
  exact ⟨Eq.symm, Eq.symm⟩
theorem less_on {n d m f r s : Int} (h1 : lessB n d m f = true) (h2 : lessB m f r s = true) : lessB n d r s = true := by
  have ha : OkR n d ∧ OkR m f := Decidable.byContradiction fun h => by rw [less_no h] at h1; cases h1
  have hb : OkR m f ∧ OkR r s := Decidable.byContradiction fun h => by rw [less_no h] at h2; cases h2
  rw [less_ok ha.1 ha.2] at h1
  rw [less_ok hb.1 hb.2] at h2
  rw [less_ok ha.1 hb.2]
  have i1 := of_decide_eq_true h1
  have i2 := of_decide_eq_true h2
  have hd : 0 < d := by unfold OkR at ha; omega
  have hs : 0 < s := by unfold OkR at hb; omega
  have hf : 0 < f := by unfold OkR at hb; omega
  have j1 : n * f * s < m * d * s := Int.mul_lt_mul_of_pos_right i1 hs
  have j2 : m * s * d < r * f * d := Int.mul_lt_mul_of_pos_right i2 hd
  have j3 : n * s * f < r * d * f := by
    rw [Int.mul_right_comm n s f, Int.mul_right_comm r d f]
    rw [Int.mul_right_comm m s d] at j2
    exact Int.lt_trans j1 j2
  exact decide_eq_true ((Int.mul_lt_mul_right hf).mp j3)
/-- Of two rates that may be just one of three holds. -/
theorem order_three {n d m f : Int} (ha : OkR n d) (hb : OkR m f) :
    (lessB n d m f = true ∧ lessB m f n d = false ∧ sameB n d m f = false) ∨ (lessB n d m f = false ∧ lessB m f n d = true ∧ sameB n d m f = false) ∨ (lessB n d m f = false ∧ lessB m f n d = false ∧ sameB n d m f = true) := by
  rw [less_ok ha hb, less_ok hb ha, same_ok ha hb]
  rcases Int.lt_trichotomy (n * f) (m * d) with h | h | h
  · exact Or.inl ⟨decide_eq_true h, decide_eq_false (by omega), decide_eq_false (by omega)⟩
  · exact Or.inr (Or.inr ⟨decide_eq_false (by omega), decide_eq_false (by omega), decide_eq_true h⟩)
  · exact Or.inr (Or.inl ⟨decide_eq_false (by omega), decide_eq_true h, decide_eq_false (by omega)⟩)
theorem mul_turn (n d m f : Int) : mulN n d m f = mulN m f n d ∧ mulD n d m f = mulD m f n d ∧ mulE n d m f = mulE m f n d := by
  unfold mulN mulD mulE
  rw [Int.mul_comm n m, Int.mul_comm d f]
  simp only [And.comm (a := OkR n d)]
  exact ⟨trivial, trivial, trivial⟩
/-- A rate by its inverse is the whole. -/
theorem mul_flip {n d : Int} (h : OkR n d) : mulN n d (normn d n) (normd d n) = 1 ∧ mulD n d (normn d n) (normd d n) = 1 ∧ mulE n d (normn d n) (normd d n) = 0 := by
  have k := norm_ok (ok_flip h)
  have c := norm_cross (ok_flip h)
  have e : d * normd d n = n * normn d n := by rw [c, Int.mul_comm]
  have hp : 0 < n * normn d n := Int.mul_pos (by unfold OkR at h; omega) (by unfold OkR at k; omega)
  unfold mulN mulD mulE
  rw [if_pos ⟨h, k⟩, if_pos ⟨h, k⟩, if_pos ⟨h, k⟩, e]
  have := low_is (X := (n * normn d n).toNat) (Y := (n * normn d n).toNat) (P := 1) (Q := 1) (by omega) rfl rfl
  rw [this.2.1, this.2.2, if_pos (this.1.mpr (by omega)), if_pos (by omega)]
  exact ⟨rfl, rfl, rfl⟩
theorem apply_norm {n d : Int} (x : Int) (h : OkR n d) : av x (normn n d) (normd n d) = av x n d ∧ ae x (normn n d) (normd n d) = ae x n d := by
  have k := norm_ok h
  obtain ⟨N, D, g, hg, hN, hD, hc, hn, hd, e1, e2, b1, b2⟩ := norm_is h
  have e : nearv (x * n) d = nearv (x * N) D := by
    rw [hn, hd, ← Int.mul_assoc]; exact near_scale (by omega)
  unfold av ae
  rw [if_pos k, if_pos k, if_pos h, if_pos h, e, e1, e2]
  exact ⟨rfl, rfl⟩
theorem same_norm_t {n d : Int} (h : OkR n d) : sameB n d (normn n d) (normd n d) = true := by
  rw [same_ok h (norm_ok h)]
  exact decide_eq_true (norm_cross h)
end Go.Proofs.Ytogckefmmjbapaa
