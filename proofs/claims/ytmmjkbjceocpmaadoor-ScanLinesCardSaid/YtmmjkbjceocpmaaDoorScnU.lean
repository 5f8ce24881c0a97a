/-
  Words, numerals and lines in plain words, as scan's own code goes: what stands at a place; a numeral taken apart at its sign; what the library tells of a numeral. No Go function is walked here. No conditions.
-/
import Derived.Test.YtmmjkbjceocpmaaDoorDecV
import Derived.Test.YtmmjkbjceocpmaaDoorScnN
import Derived.Lib.AtoiAllCases
import Derived.Lib.ItoaMem
import Derived.Lib.IndexMore
namespace Go.Proofs.YtmmjkbjceocpmaaDoor
open Go.RowKit
set_option linter.unusedSimpArgs false
set_option linter.unusedVariables false

/-- Does one text begin with another one, or the other with it? -/
theorem litgo_is : ∀ s t : List UInt8, litgo s t = if t.isPrefixOf s = true then 0 else if s.isPrefixOf t = true then 4 else 8
  | s, [] => by simp [litgo_end]
  | [], b :: t => by simp [litgo]
  | a :: s, b :: t => by
    have ih := litgo_is s t
    unfold litgo
    by_cases h : a = b
    · subst h
      simp only [↓reduceIte, List.isPrefixOf, BEq.rfl, Bool.true_and]
      exact ih
    · have h1 : (b == a) = false := beq_eq_false_iff_ne.mpr (Ne.symm h)
      have h2 : (a == b) = false := beq_eq_false_iff_ne.mpr h
      simp [h, List.isPrefixOf, h1, h2]

/-- The number's digits as the library tells them. -/
theorem dtext_itoa (n : Int) : dtext n 0 = Lib.itoa n := by
  rw [dtext_is]
  have e : full n.natAbs 0 = Lib.decDigits n.natAbs := by
    have := List.length_pos_iff.2 (dec_ne n.natAbs)
    unfold full
    rw [show 0 + 1 - (Lib.decDigits n.natAbs).length = 0 by omega]; rfl
  rw [e]
  unfold Lib.itoa sgn ptd
  by_cases h : n < 0
  · rw [if_pos h, decide_eq_true h]; rfl
  · rw [if_neg h, decide_eq_false h, show n.toNat = n.natAbs by omega]; rfl

/-- The line feed. -/
theorem index_feed : ∀ (l : List UInt8), ((10 : UInt8) ∈ l ∧ Lib.index l [10] = (l.takeWhile (fun b => b != 10)).length) ∨ (¬ (10 : UInt8) ∈ l ∧ Lib.index l [10] = -1)
  | [] => Or.inr ⟨by simp, rfl⟩
  | a :: l => by
    unfold Lib.index
    by_cases h : a = 10
    · subst h
      left
      exact ⟨by simp, by simp [List.isPrefixOf]⟩
    · have hp : ([10] : List UInt8).isPrefixOf (a :: l) = false := by simp [List.isPrefixOf, Ne.symm h]
      rw [if_neg (by rw [hp]; decide)]
      rcases index_feed l with ⟨h1, h2⟩ | ⟨h1, h2⟩
      · left
        refine ⟨by simp [h1], ?_⟩
        rw [h2, if_neg (by simp)]
        simp [List.takeWhile_cons, h]
      · right
        exact ⟨by simp [h1, Ne.symm h], by rw [h2]; rfl⟩
theorem take_whil (p : UInt8 → Bool) : ∀ l : List UInt8, l.take (l.takeWhile p).length = l.takeWhile p
  | [] => rfl
  | a :: l => by
    have ih := take_whil p l
    cases h : p a
    · simp [h]
    · simp [h, ih]

/-- Where digits end. -/
theorem digs_end : ∀ (l : List UInt8) (k : Nat), k ≤ l.length → (∀ b ∈ l.take k, isd b = true) → (k < l.length → isd (l.getD k 0) = false) → (l.takeWhile isd).length = k
  | [], k, hk, _, _ => by simp at hk; subst hk; rfl
  | a :: l, 0, _, _, hn => by
    have := hn (by simp)
    simp at this
    simp [this]
  | a :: l, k + 1, hk, h, hn => by
    have ha := h a (by simp)
    have ih := digs_end l k (by simpa using hk) (fun b hb => h b (by simp [hb])) (fun q => by have := hn (by simp; omega); simpa using this)
    simp [ha, ih]

/-- What stands at a place. -/
def thr (l : List UInt8) (a : Int) : List UInt8 := l.drop a.toNat
/-- A numeral's digits. -/
def dig7 (m : List UInt8) : List UInt8 := (body m).takeWhile isd
/-- What numeral tells: the text, the error's number. -/
def nume0 (m : List UInt8) : Int := if body m = [] then 4 else if dig7 m = [] ∨ ((dig7 m).head? = some 48 ∧ (neg45 m = true ∨ dig7 m ≠ [48])) then 5 else 0
def numl0 (m : List UInt8) : List UInt8 := if nume0 m = 0 then sgn (neg45 m) ++ dig7 m else []
theorem isd_isdig (b : UInt8) : isd b = isdig b := rfl
theorem dig7_isdig (m : List UInt8) : ∀ b ∈ dig7 m, isdig b = true := by
  intro b hb
  have := List.all_takeWhile (p := isd) (l := body m)
  rw [List.all_eq_true] at this
  exact this b hb
theorem body_len7 (m : List UInt8) : m.length = (sgn (neg45 m)).length + (body m).length := by
  have := congrArg List.length (body_is m)
  rw [List.length_append] at this; exact this
theorem sgn_len (b : Bool) : (sgn b).length = if b then 1 else 0 := by cases b <;> rfl
/-- The digits begin behind the sign. -/
theorem nfirst_is {l : List UInt8} {a : Nat} (ha : a ≤ l.length) : nfirst l a = a + (sgn (neg45 (l.drop a))).length ∧ l.drop (nfirst l a) = body (l.drop a) := by
  have hb := body_is (l.drop a)
  have hn : (l.getD a 0 = 45 ∧ a < l.length) ↔ neg45 (l.drop a) = true := by
    unfold neg45
    rw [List.head?_drop]
    by_cases h : a < l.length
    · simp [List.getD, h]
    · simp [h, List.getElem?_eq_none (Nat.le_of_not_lt h)]
  unfold nfirst
  cases hq : neg45 (l.drop a)
  · rw [hq] at hn hb
    rw [if_neg (by simpa using hn)]
    exact ⟨rfl, hb⟩
  · rw [hq] at hn hb
    rw [if_pos (hn.mpr rfl)]
    refine ⟨rfl, ?_⟩
    rw [← List.drop_drop]
    generalize body (l.drop a) = B at *
    rw [hb]; rfl
theorem nend_is {l : List UInt8} {a : Nat} (ha : a ≤ l.length) : nend l a = a + (sgn (neg45 (l.drop a))).length + (dig7 (l.drop a)).length := by
  unfold nend dig7
  rw [(nfirst_is ha).2, (nfirst_is ha).1]
theorem numt_is {l : List UInt8} {a : Nat} (ha : a ≤ l.length) : numt l a = sgn (neg45 (l.drop a)) ++ dig7 (l.drop a) := by
  unfold numt
  rw [nend_is ha, show a + (sgn (neg45 (l.drop a))).length + (dig7 (l.drop a)).length - a = (sgn (neg45 (l.drop a))).length + (dig7 (l.drop a)).length by omega]
  generalize l.drop a = m
  have e : m.take ((sgn (neg45 m)).length + (dig7 m).length) = (sgn (neg45 m) ++ body m).take ((sgn (neg45 m)).length + (dig7 m).length) := congrArg _ (body_is m)
  rw [e, List.take_length_add_append]
  exact congrArg _ (take_whil isd (body m))

/-- A numeral is taken apart again as it was. -/
theorem numl_apart {D : List UInt8} (hd : ∀ b ∈ D, isdig b = true) (hne : D ≠ []) (b : Bool) : neg45 (sgn b ++ D) = b ∧ body (sgn b ++ D) = D :=
  head_sgn D 0 hd (List.length_pos_iff.2 hne) b
theorem pdig_ge (D : List UInt8) : ∀ v : Int, 0 ≤ v → v ≤ D.foldl pdig v := by
  induction D with
  | nil => intro v _; exact Int.le_refl _
  | cons c D ih =>
    intro v hv
    have h : 0 ≤ pdig v c ∧ v ≤ pdig v c := by unfold pdig; split <;> omega
    exact Int.le_trans h.2 (ih _ h.1)
/-- What the library tells of digits. -/
theorem parse_digits : ∀ (D : List UInt8) (acc : Nat), (∀ b ∈ D, isdig b = true) → acc < 18446744073709551616 →
    Lib.parseUint10 acc D = if D.foldl pdig (acc : Int) < 18446744073709551616 then .ok (D.foldl pdig (acc : Int)).toNat else .range
  | [], acc, _, ha => by
    rw [List.foldl_nil, if_pos (by omega), Int.toNat_natCast]; rfl
  | c :: D, acc, hd, ha => by
    have hc := isdig_iff.1 (hd c (by simp))
    have e : pdig (acc : Int) c = ((acc * 10 + (c.toNat - 48) : Nat) : Int) := by
      rw [pdig_is (hd c (by simp))]; omega
    rw [List.foldl_cons, e]
    have hge := pdig_ge D ((acc * 10 + (c.toNat - 48) : Nat) : Int) (by omega)
    unfold Lib.parseUint10
    rw [if_pos hc]
    by_cases h1 : 1844674407370955162 ≤ acc
    · rw [if_pos h1, if_neg (by omega)]
    · rw [if_neg h1]
      by_cases h2 : 18446744073709551616 ≤ acc * 10 + (c.toNat - 48)
      · rw [if_pos h2, if_neg (by omega)]
      · rw [if_neg h2]
        exact parse_digits D _ (fun b hb => hd b (by simp [hb])) (by omega)
theorem parse_mag {D : List UInt8} (hd : ∀ b ∈ D, isdig b = true) (hne : D ≠ []) : Lib.parseMag D = if pval D < 18446744073709551616 then .ok (pval D).toNat else .range := by
  unfold Lib.parseMag
  rw [if_neg hne, parse_digits D 0 hd (by omega)]; rfl
/-- What the library tells of a numeral. -/
theorem atoi_numl {D : List UInt8} (hd : ∀ b ∈ D, isdig b = true) (hne : D ≠ []) (b : Bool) :
    Lib.atoiAll (sgn b ++ D) = if InR (if b then - pval D else pval D) then .ok (if b then - pval D else pval D) else .range := by
  have hm := parse_mag hd hne
  have hn := pval_nn D
  cases b
  · have e : Lib.atoiAll D = Lib.signless (Lib.parseMag D) := by
      cases D with
      | nil => exact absurd rfl hne
      | cons c D =>
        have hc := isdig_iff.1 (hd c (by simp))
        exact Lib.atoiAll_plain c D (by omega) (by omega)
    show Lib.atoiAll D = if InR (pval D) then .ok (pval D) else .range
    rw [e, hm]
    by_cases h : pval D < 18446744073709551616
    · rw [if_pos h]
      by_cases h2 : InR (pval D)
      · rw [if_pos h2]
        have : ¬ 9223372036854775808 ≤ (pval D).toNat := by unfold InR at h2; omega
        simp [Lib.signless, this]; omega
      · rw [if_neg h2]
        have : 9223372036854775808 ≤ (pval D).toNat := by unfold InR at h2; omega
        simp [Lib.signless, this]
    · rw [if_neg h, if_neg (by unfold InR; omega)]; rfl
  · show Lib.atoiAll (45 :: D) = if InR (- pval D) then .ok (- pval D) else .range
    rw [Lib.atoiAll_minus, hm]
    by_cases h : pval D < 18446744073709551616
    · rw [if_pos h]
      by_cases h2 : InR (- pval D)
      · rw [if_pos h2]
        have : ¬ 9223372036854775808 < (pval D).toNat := by unfold InR at h2; omega
        simp [Lib.signed, this]; omega
      · rw [if_neg h2]
        have : 9223372036854775808 < (pval D).toNat := by unfold InR at h2; omega
        simp [Lib.signed, this]
    · rw [if_neg h, if_neg (by unfold InR; omega)]; rfl
/-- A numeral is that of its number. -/
theorem form_good {D : List UInt8} (hd : ∀ b ∈ D, isdig b = true) (hne : D ≠ []) (b : Bool) (h : ¬ (D.head? = some 48 ∧ (b = true ∨ D ≠ [48]))) :
    dtext (sval (sgn b ++ D)) 0 = sgn b ++ D ∧ sval (sgn b ++ D) = if b then - pval D else pval D := by
  obtain ⟨a1, a2⟩ := numl_apart hd hne b
  have hw : wh D 0 = D := rfl
  have hf : fr D 0 = [] := rfl
  have := dtext_take (sgn b ++ D) 0 rfl (by
      rw [a2, hw]
      unfold badw
      rw [Bool.or_eq_false_iff, Bool.and_eq_false_iff]
      refine ⟨by simpa using hne, ?_⟩
      by_cases q : D = [48]
      · exact Or.inl (by rw [q]; decide)
      · exact Or.inr (beq_eq_false_iff_ne.mpr fun e => h ⟨e, Or.inr q⟩)) (by rw [a2, hw, hf, List.append_nil]; exact hd) (by
      rw [a1, a2, hw, hf, List.append_nil]
      rintro rfl h0
      have hj := dec_noughts D hd hne
      rw [h0] at hj
      obtain ⟨j, hj⟩ := hj
      rw [show ((0 : Int)).toNat = 0 from rfl, dec_zero] at hj
      refine h ⟨?_, Or.inl rfl⟩
      rw [hj]
      cases j <;> rfl)
  rw [a1, a2, hw, hf, List.append_nil] at this
  exact this
theorem form_bad {D : List UInt8} (hd : ∀ b ∈ D, isdig b = true) (hne : D ≠ []) (b : Bool) (h : D.head? = some 48 ∧ (b = true ∨ D ≠ [48])) :
    dtext (sval (sgn b ++ D)) 0 ≠ sgn b ++ D := by
  intro e
  obtain ⟨a1, a2⟩ := numl_apart hd hne b
  have ht := take_dtext (sval (sgn b ++ D)) 0
  rw [e, a1, a2] at ht
  obtain ⟨t1, _, t3, t4⟩ := ht
  have hw : wh D 0 = D := rfl
  rw [hw] at t3
  unfold badw at t3
  rw [Bool.or_eq_false_iff, Bool.and_eq_false_iff] at t3
  have hD : D = [48] := by
    rcases t3.2 with q | q
    · simpa using q
    · rw [h.1] at q; exact absurd q (by decide)
  rcases h.2 with hb | hb
  · subst hb; subst hD
    have : sval (sgn true ++ [48]) = 0 := by decide
    rw [this] at t1
    exact absurd t1 (by decide)
  · exact hb hD

/-- What Num tells, as scan's own code goes. -/
theorem num_short {l : List UInt8} {a : Int} (ha : OkA l a) (h : nume0 (thr l a) = 4) (lo hi : Int) : nume l a lo hi = 4 := by
  have ha' : a.toNat ≤ l.length := by unfold OkA at ha; omega
  have hb : body (thr l a) = [] := by
    unfold nume0 at h
    by_cases q : body (thr l a) = []
    · exact q
    · rw [if_neg q] at h; split at h <;> simp at h
  have hd : dig7 (thr l a) = [] := by unfold dig7; rw [hb]; rfl
  have hl := body_len7 (thr l a)
  rw [hb, show (thr l a).length = l.length - a.toNat from List.length_drop] at hl
  have n1 := nend_is ha'
  have n2 := (nfirst_is ha').1
  rw [show l.drop a.toNat = thr l a from rfl] at n1 n2
  rw [hd] at n1
  simp at hl n1
  unfold nume
  rw [if_pos ha, if_pos (by omega), if_pos (by omega)]
theorem num_form {l : List UInt8} {a : Int} (ha : OkA l a) (h : nume0 (thr l a) = 5) (lo hi : Int) : nume l a lo hi = 5 := by
  have ha' : a.toNat ≤ l.length := by unfold OkA at ha; omega
  have hl := body_len7 (thr l a)
  rw [show (thr l a).length = l.length - a.toNat from List.length_drop] at hl
  unfold nume0 at h
  by_cases hb : body (thr l a) = []
  · rw [if_pos hb] at h; simp at h
  rw [if_neg hb] at h
  have hbl := List.length_pos_iff.2 hb
  have n1 := nend_is ha'
  have n2 := (nfirst_is ha').1
  have n3 := numt_is ha'
  rw [show l.drop a.toNat = thr l a from rfl] at n1 n2 n3
  unfold nume
  rw [if_pos ha]
  by_cases hD : dig7 (thr l a) = []
  · rw [hD] at n1; simp at n1
    rw [if_pos (by omega), if_neg (by omega)]
  · have hDl := List.length_pos_iff.2 hD
    rw [if_neg (by omega)]
    split at h
    · next q =>
      have := form_bad (dig7_isdig (thr l a)) hD (neg45 (thr l a)) (q.resolve_left hD)
      rw [if_pos]
      unfold parsee
      rw [n3, if_pos (by decide), show (0 : Int).toNat = 0 from rfl, if_neg this]
    · simp at h
theorem num_good {l : List UInt8} {a : Int} (ha : OkA l a) (h : nume0 (thr l a) = 0) :
    ∃ v : Int, Lib.atoiAll (numl0 (thr l a)) = (if InR v then .ok v else .range) ∧ nend l a.toNat = a.toNat + (numl0 (thr l a)).length ∧ (numl0 (thr l a)).length ≤ l.length ∧
      ∀ lo hi, nume l a lo hi = (if InR v ∧ lo ≤ v ∧ v ≤ hi then 0 else 7) ∧ numv l a lo hi = (if InR v ∧ lo ≤ v ∧ v ≤ hi then v else 0) ∧ numk l a lo hi = (if InR v ∧ lo ≤ v ∧ v ≤ hi then a + ((numl0 (thr l a)).length : Int) else 0) := by
  have ha' : a.toNat ≤ l.length := by unfold OkA at ha; omega
  have hl := body_len7 (thr l a)
  rw [show (thr l a).length = l.length - a.toNat from List.length_drop] at hl
  have hnl : numl0 (thr l a) = sgn (neg45 (thr l a)) ++ dig7 (thr l a) := if_pos h
  unfold nume0 at h
  by_cases hb : body (thr l a) = []
  · rw [if_pos hb] at h; simp at h
  rw [if_neg hb] at h
  split at h
  · simp at h
  next q =>
  have hD : dig7 (thr l a) ≠ [] := fun e => q (Or.inl e)
  have hDl := List.length_pos_iff.2 hD
  have hle : (dig7 (thr l a)).length ≤ (body (thr l a)).length := (List.takeWhile_prefix _).length_le
  have hg := form_good (dig7_isdig (thr l a)) hD (neg45 (thr l a)) (fun e => q (Or.inr e))
  have hat := atoi_numl (dig7_isdig (thr l a)) hD (neg45 (thr l a))
  rw [← hg.2] at hat
  have hnt : numt l a.toNat = numl0 (thr l a) := by rw [numt_is ha', hnl]; rfl
  have hne : nend l a.toNat = a.toNat + (numl0 (thr l a)).length := by
    rw [nend_is ha', hnl, List.length_append]
    show a.toNat + (sgn (neg45 (thr l a))).length + (dig7 (thr l a)).length = _
    omega
  have hlen : (numl0 (thr l a)).length ≤ l.length := by rw [hnl, List.length_append]; omega
  have hne2 : ¬ nend l a.toNat = nfirst l a.toNat := by
    rw [hne, (nfirst_is ha').1, hnl, List.length_append]
    show ¬ _ = a.toNat + (sgn (neg45 (thr l a))).length
    omega
  rw [← hnl] at hat hg
  refine ⟨_, hat, hne, hlen, fun lo hi => ?_⟩
  have hpe : parsee (numt l a.toNat) 0 = te (sval (numl0 (thr l a))) := by
    unfold parsee
    rw [hnt, if_pos (by decide), show (0 : Int).toNat = 0 from rfl, if_pos hg.1]
  have hpv : parsev (numt l a.toNat) 0 = tv (sval (numl0 (thr l a))) := by
    unfold parsev
    rw [hnt, if_pos (by decide), show (0 : Int).toNat = 0 from rfl, if_pos hg.1]
  generalize sval (numl0 (thr l a)) = v at *
  have e0 : nume l a lo hi = (if InR v ∧ lo ≤ v ∧ v ≤ hi then 0 else 7) := by
    unfold nume
    rw [if_pos ha, if_neg hne2, hpe, hpv]
    by_cases hv : InR v
    · rw [te_in hv, tv_in hv]
      by_cases hr : lo ≤ v ∧ v ≤ hi
      · rw [if_neg (by omega), if_pos ⟨rfl, hr⟩, if_pos ⟨hv, hr⟩]
      · rw [if_neg (by omega), if_neg (fun e => hr e.2), if_neg (fun e => hr e.2)]
    · rw [te_out hv, if_neg (by omega), if_neg (fun e => absurd e.1 (by omega)), if_neg (fun e => hv e.1)]
  refine ⟨e0, ?_, ?_⟩
  · unfold numv
    rw [e0, hpv]
    by_cases hr : InR v ∧ lo ≤ v ∧ v ≤ hi
    · rw [if_pos hr, if_pos hr, if_pos rfl, tv_in hr.1]
    · rw [if_neg hr, if_neg hr, if_neg (by omega)]
  · unfold numk
    rw [e0, hne]
    by_cases hr : InR v ∧ lo ≤ v ∧ v ≤ hi
    · rw [if_pos hr, if_pos hr, if_pos rfl]; unfold OkA at ha; omega
    · rw [if_neg hr, if_neg hr, if_neg (by omega)]
end Go.Proofs.YtmmjkbjceocpmaaDoor
