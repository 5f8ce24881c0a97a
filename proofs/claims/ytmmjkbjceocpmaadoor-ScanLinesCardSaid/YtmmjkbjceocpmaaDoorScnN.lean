/-
  Numerals and lines in plain words, without any Go function: a number comes back of its digits; a numeral that is read is the number's own; a text's lines are the text. No conditions.
-/
import Derived.Test.YtmmjkbjceocpmaaDoorScnM
import Derived.Test.YtmmjkbjceocpmaaDoorDecN
namespace Go.Proofs.YtmmjkbjceocpmaaDoor
open Go.RowKit
set_option linter.unusedSimpArgs false
set_option linter.unusedVariables false

theorem dtxt_zero (l : List Int) (hl : Digs l) : ∀ k, (dtxt l 0 k).length = k ∧ ∀ b ∈ dtxt l 0 k, isd b = true
  | 0 => by simp [dtxt]
  | k + 1 => by
    have ih := dtxt_zero l hl k
    have hd := getD_in l hl k
    rw [dtxt_step, if_neg (by omega)]
    refine ⟨by simp [ih.1], fun b hb => ?_⟩
    rcases List.mem_cons.mp hb with rfl | hb
    · unfold isd
      rw [byte_dig hd, decide_eq_true (by omega), decide_eq_true (by omega)]; rfl
    · exact ih.2 b hb
/-- The digits of a number without its sign. -/
def body7 (n : Int) : List UInt8 := dtxt (padd (digs n.natAbs) 0) 0 (padd (digs n.natAbs) 0).length
theorem body7_isd (n : Int) : ∀ b ∈ body7 n, isd b = true := (dtxt_zero _ (padd_ok n 0) _).2
theorem body7_pos (n : Int) : 0 < (body7 n).length := by unfold body7; rw [(dtxt_zero _ (padd_ok n 0) _).1]; exact padd_pos _ _
theorem dtext_body7 (n : Int) : dtext n 0 = if n < 0 then 45 :: body7 n else body7 n := rfl
theorem isd_minus : isd 45 = false := by decide
theorem while_all7 (m s : List UInt8) (hm : ∀ b ∈ m, isd b = true) (hs : s = [] ∨ isd (s.getD 0 0) = false) : (m ++ s).takeWhile isd = m := by
  rw [List.takeWhile_append_of_pos hm]
  cases s with
  | nil => simp
  | cons b r =>
    rcases hs with q | q
    · cases q
    · have : isd b = false := by simpa using q
      rw [List.takeWhile_cons, this]; simp
theorem while_end (m : List UInt8) : (m.takeWhile isd).length = m.length ∨ isd (m.getD (m.takeWhile isd).length 0) = false := by
  induction m with
  | nil => left; rfl
  | cons b r ih =>
    rw [List.takeWhile_cons]
    cases h : isd b
    · right; simpa using h
    · simp only [↓reduceIte, List.length_cons, List.getD_cons_succ]
      rcases ih with q | q
      · left; rw [q]
      · right; exact q
theorem while_le (m : List UInt8) : (m.takeWhile isd).length ≤ m.length := (List.takeWhile_prefix _).length_le

/-- A number comes back of its digits. -/
theorem num_back {n : Int} (hn : InR n) (b0 : UInt8) (s : List UInt8) (hs : s = [] ∨ isd (s.getD 0 0) = false) :
    nume (b0 :: (dtext n 0 ++ s)) 1 n n = 0 ∧ numv (b0 :: (dtext n 0 ++ s)) 1 n n = n ∧ numk (b0 :: (dtext n 0 ++ s)) 1 n n = 1 + ((dtext n 0).length : Int) := by
  have hp := body7_pos n
  have hi := body7_isd n
  obtain ⟨l, hl⟩ : ∃ l, l = b0 :: (dtext n 0 ++ s) := ⟨_, rfl⟩
  rw [← hl]
  have hlen : l.length = 1 + (dtext n 0).length + s.length := by rw [hl]; simp; omega
  have hdrop : l.drop 1 = dtext n 0 ++ s := by rw [hl]; rfl
  have ha : OkA l 1 := by unfold OkA; omega
  have hfe : nfirst l 1 = (if n < 0 then 2 else 1) ∧ nend l 1 = 1 + (dtext n 0).length := by
    unfold nend nfirst
    have hg : l.getD 1 0 = (dtext n 0 ++ s).getD 0 0 := by rw [hl]; rfl
    rw [hg, dtext_body7]
    by_cases h : n < 0
    · rw [if_pos h, if_pos h, if_pos ⟨by simp, by rw [hlen]; rw [dtext_body7, if_pos h]; simp; omega⟩]
      refine ⟨rfl, ?_⟩
      have : l.drop (1 + 1) = body7 n ++ s := by rw [hl, dtext_body7, if_pos h]; rfl
      rw [this, while_all7 _ _ hi hs]
      simp; omega
    · rw [if_neg h, if_neg h]
      have hb : ¬ ((body7 n ++ s).getD 0 0 = 45 ∧ 1 < l.length) := by
        rintro ⟨q, _⟩
        cases hbb : body7 n with
        | nil => rw [hbb] at hp; cases hp
        | cons c r =>
          rw [hbb] at q hi
          simp at q
          have := hi c (by simp)
          rw [q, isd_minus] at this
          cases this
      rw [if_neg hb]
      refine ⟨rfl, ?_⟩
      have : l.drop 1 = body7 n ++ s := by rw [hdrop, dtext_body7, if_neg h]
      rw [this, while_all7 _ _ hi hs]
  have ht : numt l 1 = dtext n 0 := by
    unfold numt
    rw [hfe.2, hdrop, Nat.add_sub_cancel_left, List.take_left]
  have hpb := parse_back (d := 0) hn (by decide)
  rw [show (0 : Int).toNat = 0 from rfl] at hpb
  have hne : ¬ nend l 1 = nfirst l 1 := by
    rw [hfe.1, hfe.2, dtext_body7]
    by_cases h : n < 0
    · rw [if_pos h, if_pos h]; simp; omega
    · rw [if_neg h, if_neg h]; omega
  have e0 : nume l 1 n n = 0 := by
    unfold nume
    rw [if_pos ha, show (1 : Int).toNat = 1 from rfl, if_neg hne, ht, hpb.2, hpb.1, if_neg (by omega), if_pos ⟨rfl, by omega, by omega⟩]
  refine ⟨e0, ?_, ?_⟩
  · unfold numv; rw [if_pos e0, show (1 : Int).toNat = 1 from rfl, ht, hpb.1]
  · unfold numk; rw [if_pos e0, show (1 : Int).toNat = 1 from rfl, hfe.2]; omega

/-- A numeral that is read is the number's own. -/
theorem num_ok {l : List UInt8} {a lo hi : Int} (h : nume l a lo hi = 0) :
    0 ≤ a ∧ a ≤ numk l a lo hi ∧ numk l a lo hi ≤ (l.length : Int) ∧ lo ≤ numv l a lo hi ∧ numv l a lo hi ≤ hi ∧ InR (numv l a lo hi) ∧
    dtext (numv l a lo hi) 0 = (l.drop a.toNat).take ((numk l a lo hi).toNat - a.toNat) ∧ (numk l a lo hi = (l.length : Int) ∨ isd (l.getD (numk l a lo hi).toNat 0) = false) := by
  have hv : numv l a lo hi = parsev (numt l a.toNat) 0 := if_pos h
  have hk : numk l a lo hi = (nend l a.toNat : Int) := if_pos h
  rw [hv, hk, Int.toNat_natCast]
  unfold nume at h
  by_cases ha : OkA l a
  · rw [if_pos ha] at h
    have hf : a.toNat ≤ nfirst l a.toNat ∧ nfirst l a.toNat ≤ l.length := by
      unfold OkA at ha
      unfold nfirst
      split <;> omega
    have hw := while_le (l.drop (nfirst l a.toNat))
    rw [List.length_drop] at hw
    have hn : nfirst l a.toNat ≤ nend l a.toNat ∧ nend l a.toNat ≤ l.length := by unfold nend; omega
    by_cases h1 : nend l a.toNat = nfirst l a.toNat
    · rw [if_pos h1] at h; split at h <;> cases h
    · rw [if_neg h1] at h
      by_cases h2 : parsee (numt l a.toNat) 0 = 5
      · rw [if_pos h2] at h; cases h
      · rw [if_neg h2] at h
        by_cases h3 : parsee (numt l a.toNat) 0 = 0 ∧ lo ≤ parsev (numt l a.toNat) 0 ∧ parsev (numt l a.toNat) 0 ≤ hi
        · have hp := parse_ok h3.1
          refine ⟨ha.1, by unfold OkA at ha; omega, by omega, h3.2.1, h3.2.2, hp.2.1, hp.2.2, ?_⟩
          rcases while_end (l.drop (nfirst l a.toNat)) with q | q
          · left; rw [List.length_drop] at q; unfold nend; omega
          · right
            unfold nend
            have : (l.drop (nfirst l a.toNat)).getD ((l.drop (nfirst l a.toNat)).takeWhile isd).length 0 = l.getD (nfirst l a.toNat + ((l.drop (nfirst l a.toNat)).takeWhile isd).length) 0 := by
              simp [List.getD, List.getElem?_drop]
            rw [← this]; exact q
        · rw [if_neg h3] at h; cases h
  · rw [if_neg ha] at h; cases h

/-- A text's lines, one behind the other. -/
theorem line_ok {l : List UInt8} {a : Int} (h : linee l a = 0) :
    0 ≤ a ∧ a < linen l a ∧ linen l a ≤ (l.length : Int) ∧ ¬ (10 : UInt8) ∈ lineb l a ∧ l.take a.toNat ++ (lineb l a ++ [10]) = l.take (linen l a).toNat := by
  unfold linee at h
  by_cases ha : OkA l a
  · rw [if_pos ha] at h
    by_cases hm : (10 : UInt8) ∈ l.drop a.toNat
    · have hb : lineb l a = (l.drop a.toNat).takeWhile (· != 10) := if_pos ⟨ha, hm⟩
      have hn : linen l a = a + ((l.drop a.toNat).takeWhile (· != 10)).length + 1 := if_pos ⟨ha, hm⟩
      obtain ⟨m1, m2, e⟩ := List.append_of_mem hm
      have key : ∀ m : List UInt8, (10 : UInt8) ∈ m → ∃ r, m = m.takeWhile (· != 10) ++ 10 :: r := by
        intro m
        induction m with
        | nil => intro q; cases q
        | cons b t ih =>
          intro q
          rw [List.takeWhile_cons]
          by_cases c : b = 10
          · subst c; exact ⟨t, by simp⟩
          · have : (b != 10) = true := by simpa using c
            rw [this]
            obtain ⟨r, hr⟩ := ih (by rcases List.mem_cons.mp q with q | q; exact absurd q.symm c; exact q)
            exact ⟨r, by simp only [↓reduceIte, List.cons_append]; rw [← hr]⟩
      obtain ⟨r, hr⟩ := key _ hm
      have hno : ¬ (10 : UInt8) ∈ (l.drop a.toNat).takeWhile (· != 10) := by
        intro q
        have := List.all_takeWhile (p := (· != (10 : UInt8))) (l := l.drop a.toNat)
        rw [List.all_eq_true] at this
        have := this 10 q
        simp at this
      rw [hb, hn]
      generalize hw : (l.drop a.toNat).takeWhile (· != 10) = W at *
      have hlen : (l.drop a.toNat).length = W.length + 1 + r.length := by rw [hr]; simp; omega
      rw [List.length_drop] at hlen
      unfold OkA at ha
      refine ⟨ha.1, by omega, by omega, hno, ?_⟩
      have e2 : (a + (W.length : Int) + 1).toNat = a.toNat + (W.length + 1) := by omega
      rw [e2, List.take_add, hr]
      congr 1
      rw [show W ++ 10 :: r = (W ++ [10]) ++ r by simp, List.take_left' (by simp)]
    · rw [if_neg hm] at h; cases h
  · rw [if_neg ha] at h; cases h
theorem line_end {l : List UInt8} {a : Int} (ha : OkA l a) (h : linee l a ≠ 0) : linee l a = 4 := by
  unfold linee at h ⊢
  rw [if_pos ha] at h ⊢
  by_cases hm : (10 : UInt8) ∈ l.drop a.toNat
  · rw [if_pos hm] at h; exact absurd rfl h
  · rw [if_neg hm]
end Go.Proofs.YtmmjkbjceocpmaaDoor
