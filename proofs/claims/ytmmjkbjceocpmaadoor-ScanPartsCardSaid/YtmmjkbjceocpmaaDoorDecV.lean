/-
  Decimals in plain words, as decimal's own code goes: the numeral with noughts ahead, the point put into it; a text taken apart at its sign and its point; that both come to the text of a whole number. No Go function is walked here. No conditions.
-/
import Derived.Test.YtmmjkbjceocpmaaDoorDecN
import Derived.Lib.ItoaNum
namespace Go.Proofs.YtmmjkbjceocpmaaDoor
open Go.RowKit
set_option linter.unusedSimpArgs false
set_option linter.unusedVariables false

/-- The lowest digits as a text, the highest of them ahead. -/
def asc (l : List Int) : Nat → List UInt8
  | 0 => []
  | k + 1 => UInt8.ofNat (48 + (l.getD k 0).toNat) :: asc l k
theorem asc_len (l : List Int) : ∀ k, (asc l k).length = k
  | 0 => rfl
  | k + 1 => by simp [asc, asc_len l k]
theorem dtxt_low (l : List Int) (d : Nat) : ∀ k, k ≤ d ∨ d = 0 → dtxt l d k = asc l k
  | 0, _ => rfl
  | k + 1, h => by
    rw [dtxt_step, if_neg (by omega), dtxt_low l d k (by omega)]; rfl
theorem dtxt_high (l : List Int) (d : Nat) (h0 : 0 < d) : ∀ k, d < k → dtxt l d k = (asc l k).take (k - d) ++ 46 :: (asc l k).drop (k - d)
  | 0, h => by omega
  | k + 1, h => by
    rw [dtxt_step]
    by_cases e : k = d
    · subst e
      rw [if_pos ⟨rfl, h0⟩, dtxt_low l k k (Or.inl (Nat.le_refl _)), show k + 1 - k = 1 by omega]
      rfl
    · rw [if_neg (by omega), dtxt_high l d h0 k (by omega), show k + 1 - d = (k - d) + 1 by omega]
      rfl
theorem asc_cons (c : Int) (l : List Int) : ∀ k, asc (c :: l) (k + 1) = asc l k ++ [UInt8.ofNat (48 + c.toNat)]
  | 0 => by simp [asc]
  | k + 1 => by
    have := asc_cons c l k
    show _ :: asc (c :: l) (k + 1) = _
    rw [this]; simp [asc]
theorem asc_app (a b : List Int) : ∀ k, k ≤ a.length → asc (a ++ b) k = asc a k
  | 0, _ => rfl
  | k + 1, h => by
    show _ :: asc (a ++ b) k = _ :: asc a k
    rw [asc_app a b k (by omega)]
    simp [List.getD, List.getElem?_append, show k < a.length by omega]
theorem asc_noughts (l : List Int) : ∀ j, asc (l ++ List.replicate j 0) (l.length + j) = List.replicate j 48 ++ asc l l.length
  | 0 => by simp
  | j + 1 => by
    have ih := asc_noughts l j
    show _ :: asc (l ++ List.replicate (j + 1) 0) (l.length + j) = _
    rw [List.replicate_succ', ← List.append_assoc, asc_app _ _ _ (by simp), ih, List.replicate_succ]
    simp [List.getD, List.getElem?_append]
theorem asc_digs (n : Nat) (h : n ≠ 0) : asc (digs n) (digs n).length = Lib.decDigits n := by
  induction n using Nat.strongRecOn with
  | _ n ih =>
    rw [digs_pos h, List.length_cons, asc_cons, show ((n % 10 : Nat) : Int).toNat = n % 10 by omega]
    by_cases h1 : n < 10
    · rw [show n / 10 = 0 by omega, digs_zero, Lib.decDigits, dif_pos h1, Nat.mod_eq_of_lt h1]; rfl
    · rw [ih (n / 10) (by omega) (by omega), ← Lib.decDigits.eq_1 n |>.trans (dif_neg h1)]
/-- A numeral, with noughts ahead, so that there is one digit more than decimals. -/
def full (n d : Nat) : List UInt8 := List.replicate (d + 1 - (Lib.decDigits n).length) 48 ++ Lib.decDigits n
theorem dec_zero : Lib.decDigits 0 = [48] := by rw [Lib.decDigits, dif_pos (by omega)]; rfl
theorem full_len (n d : Nat) : d < (full n d).length := by unfold full; rw [List.length_append, List.length_replicate]; omega
theorem asc_padd (n d : Nat) : asc (padd (digs n) d) (padd (digs n) d).length = full n d := by
  unfold padd full
  rw [List.length_append, List.length_replicate, asc_noughts]
  by_cases h : n = 0
  · subst h
    rw [digs_zero, dec_zero]
    show List.replicate (d + 1 - 0) 48 ++ [] = List.replicate (d + 1 - 1) 48 ++ [48]
    rw [List.append_nil, show d + 1 - 0 = (d + 1 - 1) + 1 by omega, List.replicate_succ']
  · rw [← asc_digs n h, asc_len]
/-- A point ahead of the last digits. -/
def ptd (l : List UInt8) (d : Nat) : List UInt8 := if d = 0 then l else l.take (l.length - d) ++ 46 :: l.drop (l.length - d)
theorem ptd_app (s l : List UInt8) (d : Nat) (h : d ≤ l.length) : ptd (s ++ l) d = s ++ ptd l d := by
  unfold ptd
  split
  · rfl
  · have e : (s ++ l).length - d = s.length + (l.length - d) := by rw [List.length_append]; omega
    rw [e, List.take_length_add_append, List.drop_length_add_append, List.append_assoc]
/-- The sign of a text. -/
def sgn (b : Bool) : List UInt8 := if b then [45] else []
theorem dtext_is (x : Int) (d : Nat) : dtext x d = sgn (decide (x < 0)) ++ ptd (full x.natAbs d) d := by
  have e : dtxt (padd (digs x.natAbs) d) d (padd (digs x.natAbs) d).length = ptd (full x.natAbs d) d := by
    have hl := full_len x.natAbs d
    rw [← asc_padd] at hl ⊢
    rw [asc_len] at hl
    unfold ptd
    rw [asc_len]
    split
    · next h => exact dtxt_low _ _ _ (Or.inr h)
    · exact dtxt_high _ _ (by omega) _ hl
  unfold dtext sgn
  simp only
  rw [e]
  by_cases h : x < 0
  · rw [if_pos h, if_pos (by simpa using h)]; rfl
  · rw [if_neg h, if_neg (by simpa using h)]; rfl

/-- A digit. -/
def isdig (b : UInt8) : Bool := decide (48 ≤ b.toNat) && decide (b.toNat ≤ 57)
theorem isdig_iff {b : UInt8} : isdig b = true ↔ 48 ≤ b.toNat ∧ b.toNat ≤ 57 := by unfold isdig; simp
theorem pdig_is {b : UInt8} (h : isdig b = true) (v : Int) : pdig v b = v * 10 + ((b.toNat : Int) - 48) := by
  rw [isdig_iff] at h; unfold pdig; rw [if_pos h]
theorem pval_snoc (l : List UInt8) (b : UInt8) : pval (l ++ [b]) = pdig (pval l) b := by unfold pval; rw [List.foldl_append]; rfl
theorem pval_nn (l : List UInt8) : 0 ≤ pval l := by have := (pval_bd l l.length (Nat.le_refl _)).1; rwa [List.take_length] at this
theorem ofNat_byte {b : UInt8} {n : Nat} (h : b.toNat = n) : UInt8.ofNat n = b := by subst h; simp
/-- Digits, of which the first is no nought, are the numeral of their value. -/
theorem dec_pval : ∀ (r : List UInt8), (∀ b ∈ r, isdig b = true) → r ≠ [] → r.getLast? ≠ some 48 ∨ r.length = 1 → Lib.decDigits (pval r.reverse).toNat = r.reverse
  | [], _, h, _ => absurd rfl h
  | [c], hd, _, _ => by
    have hc := hd c (by simp)
    have h2 := isdig_iff.1 hc
    have e : pval [c].reverse = (c.toNat : Int) - 48 := by
      show pdig 0 c = _
      rw [pdig_is hc]; omega
    rw [e, Lib.decDigits, dif_pos (by omega)]
    show _ = [c]
    rw [ofNat_byte (b := c) (by omega)]
  | c :: c' :: r, hd, _, hl => by
    have hc := hd c (by simp)
    have h2 := isdig_iff.1 hc
    have hl' : (c' :: r).getLast? ≠ some 48 := by
      rcases hl with h | h
      · rwa [List.getLast?_cons_cons] at h
      · simp at h
    have ih := dec_pval (c' :: r) (fun b hb => hd b (by simp [hb])) (by simp) (Or.inl hl')
    have hp : pval (c' :: r).reverse ≠ 0 := by
      intro h0
      rw [h0] at ih
      rw [show ((0 : Int)).toNat = 0 from rfl, dec_zero] at ih
      have : (c' :: r) = [48] := by
        have := congrArg List.reverse ih
        simpa using this.symm
      rw [this] at hl'
      exact hl' rfl
    have hn := pval_nn (c' :: r).reverse
    rw [List.reverse_cons, pval_snoc, pdig_is hc]
    generalize (c' :: r).reverse = s at *
    generalize pval s = v at *
    rw [Lib.decDigits, dif_neg (by omega), show (v * 10 + ((c.toNat : Int) - 48)).toNat / 10 = v.toNat by omega, ih, ofNat_byte (b := c) (by omega)]
/-- Digits are the numeral of their value, noughts ahead. -/
theorem dec_noughts : ∀ (t : List UInt8), (∀ b ∈ t, isdig b = true) → t ≠ [] → ∃ j, t = List.replicate j 48 ++ Lib.decDigits (pval t).toNat
  | [], _, h => absurd rfl h
  | [c], hd, _ => ⟨0, by
    have := dec_pval [c] (fun b hb => hd b (by simpa using hb)) (by simp) (Or.inr rfl)
    rw [List.reverse_singleton] at this
    rw [this]; rfl⟩
  | c :: c' :: t, hd, _ => by
    by_cases h : c = 48
    · subst h
      obtain ⟨j, hj⟩ := dec_noughts (c' :: t) (fun b hb => hd b (by simp [hb])) (by simp)
      refine ⟨j + 1, ?_⟩
      have e : pval (48 :: c' :: t) = pval (c' :: t) := by
        show (c' :: t).foldl pdig (pdig 0 48) = _
        rfl
      rw [e, List.replicate_succ, List.cons_append, ← hj]
    · refine ⟨0, ?_⟩
      have := dec_pval (c :: c' :: t).reverse (fun b hb => hd b (List.mem_reverse.1 hb)) (by simp) (Or.inl (by rw [List.getLast?_reverse]; simpa using h))
      rw [List.reverse_reverse] at this
      rw [this]; rfl
theorem dec_isdig (n : Nat) : ∀ b ∈ Lib.decDigits n, isdig b = true := by
  induction n using Nat.strongRecOn with
  | _ n ih =>
    intro b hb
    rw [Lib.decDigits] at hb
    split at hb
    · next h =>
      rw [List.mem_singleton] at hb; subst hb
      rw [isdig_iff, UInt8.toNat_ofNat']; omega
    · rcases List.mem_append.1 hb with hb | hb
      · exact ih (n / 10) (by omega) b hb
      · rw [List.mem_singleton] at hb; subst hb
        rw [isdig_iff, UInt8.toNat_ofNat']; omega
theorem full_isdig (n d : Nat) : ∀ b ∈ full n d, isdig b = true := by
  intro b hb
  rcases List.mem_append.1 hb with hb | hb
  · rw [(List.mem_replicate.1 hb).2]; decide
  · exact dec_isdig n b hb
theorem dec_ne (n : Nat) : Lib.decDigits n ≠ [] := by
  rw [Lib.decDigits]; split <;> simp
theorem dec_head (n : Nat) (h : n ≠ 0) : (Lib.decDigits n).head? ≠ some 48 := by
  induction n using Nat.strongRecOn with
  | _ n ih =>
    rw [Lib.decDigits]
    split
    · next h1 =>
      intro e
      have := congrArg UInt8.toNat (Option.some.inj e)
      rw [UInt8.toNat_ofNat'] at this
      simp at this; omega
    · have := ih (n / 10) (by omega) (by omega)
      have hne := dec_ne (n / 10)
      cases hq : Lib.decDigits (n / 10) with
      | nil => exact absurd hq hne
      | cons a b => rw [hq] at this; simpa using this
theorem pval_dec (n : Nat) : pval (Lib.decDigits n) = n := by
  induction n using Nat.strongRecOn with
  | _ n ih =>
    rw [Lib.decDigits]
    split
    · next h =>
      show pdig 0 _ = _
      rw [pdig_is (by rw [isdig_iff, UInt8.toNat_ofNat']; omega), UInt8.toNat_ofNat']; omega
    · rw [pval_snoc, ih (n / 10) (by omega), pdig_is (by rw [isdig_iff, UInt8.toNat_ofNat']; omega), UInt8.toNat_ofNat']; omega
theorem pval_zeros (j : Nat) (l : List UInt8) : pval (List.replicate j 48 ++ l) = pval l := by
  induction j with
  | zero => rfl
  | succ j ih => rw [List.replicate_succ, List.cons_append]; exact ih
theorem pval_full (n d : Nat) : pval (full n d) = n := by unfold full; rw [pval_zeros, pval_dec]

/-- What a text is behind its sign, and whether it has one. -/
def neg45 (l : List UInt8) : Bool := l.head? == some 45
def body (l : List UInt8) : List UInt8 := if neg45 l then l.tail else l
theorem body_is (l : List UInt8) : l = sgn (neg45 l) ++ body l := by
  unfold sgn body neg45
  cases l with
  | nil => rfl
  | cons a l =>
    by_cases h : a = 45
    · subst h; rfl
    · simp [h]
/-- What stands ahead of the point, what behind it, and whether it may. -/
def wh (s : List UInt8) (d : Nat) : List UInt8 := if d = 0 then s else s.takeWhile (fun b => b != 46)
def fr (s : List UInt8) (d : Nat) : List UInt8 := if d = 0 then [] else (s.dropWhile (fun b => b != 46)).drop 1
def pok (s : List UInt8) (d : Nat) : Bool := if d = 0 then true else s.contains 46 && decide ((fr s d).length = d)
/-- Whether what stands ahead of the point is wrong. -/
def badw (w : List UInt8) : Bool := w.isEmpty || ((w != [48]) && (w.head? == some 48))
theorem drop_point (s : List UInt8) (h : s.contains 46 = true) : s.dropWhile (fun b => b != 46) = 46 :: (s.dropWhile (fun b => b != 46)).drop 1 := by
  induction s with
  | nil => cases h
  | cons a s ih =>
    by_cases e : a = 46
    · subst e; simp
    · have : s.contains 46 = true := by
        simp [List.contains_cons] at h
        rcases h with h | h
        · exact absurd h.symm e
        · simpa using h
      rw [List.dropWhile_cons_of_pos (by simpa using e)]
      exact ih this
theorem split_point (s : List UInt8) (d : Nat) (h : pok s d = true) : s = ptd (wh s d ++ fr s d) d := by
  unfold pok at h
  unfold ptd
  by_cases h0 : d = 0
  · subst h0; rw [if_pos rfl]; simp [wh, fr]
  · rw [if_neg h0] at h ⊢
    rw [Bool.and_eq_true, decide_eq_true_eq] at h
    have e : (wh s d ++ fr s d).length - d = (wh s d).length := by rw [List.length_append]; omega
    rw [e, List.take_left, List.drop_left]
    unfold wh fr
    rw [if_neg h0, if_neg h0, ← drop_point s h.1, List.takeWhile_append_dropWhile]
theorem take_while_all (p : UInt8 → Bool) : ∀ (a : List UInt8) (c : UInt8) (b : List UInt8), (∀ x ∈ a, p x = true) → p c = false → (a ++ c :: b).takeWhile p = a ∧ (a ++ c :: b).dropWhile p = c :: b
  | [], c, b, _, h => by simp [h]
  | x :: a, c, b, ha, h => by
    have hx := ha x (by simp)
    have ih := take_while_all p a c b (fun y hy => ha y (by simp [hy])) h
    simp [hx, ih.1, ih.2]
theorem dig_46 {b : UInt8} (h : isdig b = true) : (b != 46) = true := by
  rw [isdig_iff] at h
  simp only [bne_iff_ne, ne_eq]
  rintro rfl
  simp at h
theorem split_ptd (t : List UInt8) (d : Nat) (hd : ∀ b ∈ t, isdig b = true) (hl : d < t.length) : wh (ptd t d) d = t.take (t.length - d) ∧ fr (ptd t d) d = t.drop (t.length - d) ∧ pok (ptd t d) d = true := by
  by_cases h0 : d = 0
  · subst h0
    simp [wh, fr, pok, ptd]
  · have hw := take_while_all (fun b => b != 46) (t.take (t.length - d)) 46 (t.drop (t.length - d)) (fun x hx => dig_46 (hd x (List.mem_of_mem_take hx))) (by decide)
    have e : ptd t d = t.take (t.length - d) ++ 46 :: t.drop (t.length - d) := if_neg h0
    have f : fr (ptd t d) d = t.drop (t.length - d) := by unfold fr; rw [if_neg h0, e, hw.2]; rfl
    refine ⟨by unfold wh; rw [if_neg h0, e, hw.1], f, ?_⟩
    unfold pok
    rw [if_neg h0, f, e, Bool.and_eq_true, decide_eq_true_eq, List.length_drop]
    exact ⟨by simp, by omega⟩
theorem badw_full (n d : Nat) : badw ((full n d).take ((full n d).length - d)) = false := by
  have hl := full_len n d
  unfold badw
  rw [Bool.or_eq_false_iff, Bool.and_eq_false_iff]
  have hne : (full n d).take ((full n d).length - d) ≠ [] := by
    intro h
    have := congrArg List.length h
    rw [List.length_take, List.length_nil] at this
    omega
  refine ⟨by simpa using hne, ?_⟩
  by_cases h : d + 1 ≤ (Lib.decDigits n).length
  · have e : full n d = Lib.decDigits n := by unfold full; rw [show d + 1 - (Lib.decDigits n).length = 0 by omega]; rfl
    rw [e] at *
    by_cases h0 : n = 0
    · subst h0
      rw [dec_zero] at h ⊢
      have : d = 0 := by simp at h; omega
      subst this
      exact Or.inl (by decide)
    · right
      have := dec_head n h0
      rw [List.head?_take]
      rw [if_neg (by omega)]
      simpa using this
  · left
    have hp : 0 < (Lib.decDigits n).length := List.length_pos_iff.2 (dec_ne n)
    have e : (full n d).length = d + 1 := by unfold full; rw [List.length_append, List.length_replicate]; omega
    rw [e, show d + 1 - d = 1 by omega]
    unfold full
    obtain ⟨j, hj⟩ : ∃ j, d + 1 - (Lib.decDigits n).length = j + 1 := ⟨d - (Lib.decDigits n).length, by omega⟩
    rw [hj, List.replicate_succ]
    simp
theorem head_sgn (t : List UInt8) (d : Nat) (hd : ∀ b ∈ t, isdig b = true) (hl : d < t.length) (b : Bool) : neg45 (sgn b ++ ptd t d) = b ∧ body (sgn b ++ ptd t d) = ptd t d := by
  cases b
  · have : (ptd t d).head? ≠ some 45 := by
      unfold ptd
      cases t with
      | nil => simp at hl
      | cons a t =>
        have ha := isdig_iff.1 (hd a (by simp))
        have hne : ¬ a = 45 := by rintro rfl; simp at ha
        split
        · simpa using hne
        · rw [List.head?_append, List.head?_take, if_neg (by omega)]
          simpa using hne
    have e : neg45 (ptd t d) = false := by unfold neg45; simpa using this
    refine ⟨e, ?_⟩
    show body (ptd t d) = _
    unfold body
    rw [e]; rfl
  · exact ⟨rfl, rfl⟩
/-- The text of a whole number is taken apart as it must be. -/
theorem take_dtext (x : Int) (d : Nat) : neg45 (dtext x d) = decide (x < 0) ∧ pok (body (dtext x d)) d = true ∧ badw (wh (body (dtext x d)) d) = false ∧ wh (body (dtext x d)) d ++ fr (body (dtext x d)) d = full x.natAbs d := by
  rw [dtext_is]
  have h1 := head_sgn (full x.natAbs d) d (full_isdig _ _) (full_len _ _) (decide (x < 0))
  have h2 := split_ptd (full x.natAbs d) d (full_isdig _ _) (full_len _ _)
  rw [h1.1, h1.2, h2.1, h2.2.1]
  exact ⟨rfl, h2.2.2, badw_full _ _, List.take_append_drop _ _⟩
theorem pval_ptd (t : List UInt8) (d : Nat) : pval (ptd t d) = pval t := by
  unfold ptd
  split
  · rfl
  · unfold pval
    rw [List.foldl_append, List.foldl_cons, pdig_point, ← List.foldl_append, List.take_append_drop]
theorem pval_sgn (b : Bool) (t : List UInt8) : pval (sgn b ++ t) = pval t := by
  cases b
  · rfl
  · show pval (45 :: t) = _
    unfold pval; rw [List.foldl_cons, pdig_minus]
/-- A text that is taken apart well is that of its number. -/
theorem dtext_take (l : List UInt8) (d : Nat) (h1 : pok (body l) d = true) (h2 : badw (wh (body l) d) = false) (h3 : ∀ b ∈ wh (body l) d ++ fr (body l) d, isdig b = true)
    (h4 : neg45 l = true → pval (wh (body l) d ++ fr (body l) d) ≠ 0) : dtext (sval l) d = l ∧ sval l = if neg45 l then - pval (wh (body l) d ++ fr (body l) d) else pval (wh (body l) d ++ fr (body l) d) := by
  have hb := body_is l
  have hs := split_point (body l) d h1
  have hfl : (fr (body l) d).length = d := by
    unfold pok at h1
    split at h1
    · next h => subst h; rfl
    · rw [Bool.and_eq_true, decide_eq_true_eq] at h1; exact h1.2
  have hv : pval l = pval (wh (body l) d ++ fr (body l) d) := by
    rw [hb, pval_sgn, hs, pval_ptd, ← hs, ← hb]
  have hsv : sval l = if neg45 l then - pval (wh (body l) d ++ fr (body l) d) else pval (wh (body l) d ++ fr (body l) d) := by
    unfold sval neg45
    rw [hv]
    by_cases h : l.head? = some 45
    · rw [if_pos h, if_pos (by simpa using h)]
    · rw [if_neg h, if_neg (by simpa using h)]
  refine ⟨?_, hsv⟩
  generalize hw : wh (body l) d = w at *
  generalize hf : fr (body l) d = f at *
  have hne : w ≠ [] := by rintro rfl; cases h2
  have hnn := pval_nn (w ++ f)
  obtain ⟨j, hj⟩ := dec_noughts (w ++ f) h3 (by simp [hne])
  have hn : (sval l).natAbs = (pval (w ++ f)).toNat := by rw [hsv]; split <;> omega
  have hlen := congrArg List.length hj
  rw [List.length_append, List.length_append, List.length_replicate, hfl] at hlen
  have hfull : full (sval l).natAbs d = w ++ f := by
    rw [hn]
    unfold full
    have : d + 1 - (Lib.decDigits (pval (w ++ f)).toNat).length = j := by
      unfold badw at h2
      rw [Bool.or_eq_false_iff, Bool.and_eq_false_iff] at h2
      rcases h2.2 with h | h
      · have : w = [48] := by simpa using h
        have hw1 : w.length = 1 := by rw [this]; rfl
        omega
      · cases j with
        | zero =>
          have : 0 < w.length := List.length_pos_iff.2 hne
          omega
        | succ j =>
          exfalso
          cases w with
          | nil => exact hne rfl
          | cons a w =>
            rw [List.replicate_succ] at hj
            have := (List.cons.inj hj).1
            subst this
            simp at h
    rw [this, ← hj]
  rw [dtext_is, hfull, ← hs]
  have : decide (sval l < 0) = neg45 l := by
    rw [hsv]
    cases hq : neg45 l
    · rw [if_neg (by simp)]; simp; exact hnn
    · have := h4 hq
      rw [if_pos rfl]; simp; omega
  rw [this, ← hb]
end Go.Proofs.YtmmjkbjceocpmaaDoor
