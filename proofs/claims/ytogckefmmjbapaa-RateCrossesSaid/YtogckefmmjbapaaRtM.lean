/-
  Rates between currencies in plain words, without any Go function: keys, what is wrong with one, the last one with a key, what is found, straight, turned round, by a third currency; what is set. No conditions.
-/
import Derived.Test.YtogckefmmjbapaaRatM
namespace Go.Proofs.Ytogckefmmjbapaa
open Go.RowKit
set_option linter.unusedSimpArgs false
set_option linter.unusedVariables false

/-- A rate: from, to, kind, period, and its two numbers. -/
abbrev RtT := Int × Int × Int × Int × Int × Int
abbrev zR : RtT := (0, 0, 0, 0, 0, 0)
abbrev rtn (r : RtT) : Int := r.2.2.2.2.1
abbrev rtd (r : RtT) : Int := r.2.2.2.2.2
def okT (r : RtT) : Prop := InR r.1 ∧ InR r.2.1 ∧ InR r.2.2.1 ∧ InR r.2.2.2.1 ∧ InR (rtn r) ∧ InR (rtd r)
/-- Its key, as a rate without numbers; with other currencies; of whatever currencies; of whatever period. -/
def kyR (r : RtT) : RtT := (r.1, r.2.1, r.2.2.1, r.2.2.2.1, 0, 0)
def btw (k : RtT) (f t : Int) : RtT := (f, t, k.2.2.1, k.2.2.2.1, 0, 0)
def anW (k : RtT) : RtT := btw k 0 0
def anT (k : RtT) : RtT := (k.1, k.2.1, k.2.2.1, 0, 0, 0)
/-- Have two one key? -/
def onK (a b : RtT) : Bool := decide (kyR a = kyR b)
theorem onK_iff {a b : RtT} : onK a b = true ↔ a.1 = b.1 ∧ a.2.1 = b.2.1 ∧ a.2.2.1 = b.2.2.1 ∧ a.2.2.2.1 = b.2.2.2.1 := by
  unfold onK kyR
  rw [decide_eq_true_iff]
  constructor
  · intro h; simp only [Prod.mk.injEq] at h; exact ⟨h.1, h.2.1, h.2.2.1, h.2.2.2.1⟩
  · rintro ⟨h1, h2, h3, h4⟩; rw [h1, h2, h3, h4]
theorem onK_self (a : RtT) : onK a a = true := decide_eq_true rfl
theorem onK_same {a b : RtT} (h : onK a b = true) (k : RtT) : onK a k = onK b k := by
  have e : kyR a = kyR b := of_decide_eq_true h
  unfold onK; rw [e]
theorem onK_key {k k' : RtT} (h : kyR k = kyR k') (a : RtT) : onK a k = onK a k' := by unfold onK; rw [h]

/-! ### What is wrong with one -/
def cur (z : Int) : Prop := 1 ≤ z ∧ z ≤ 8
instance (z : Int) : Decidable (cur z) := by unfold cur; exact inferInstance
def wrR (r : RtT) : Int :=
  if cur r.1 ∧ cur r.2.1 ∧ r.1 ≠ r.2.1 then (if r.2.2.1 < 1 ∨ 3 < r.2.2.1 then 25 else if r.2.2.2.1 < 0 ∨ 24 ≤ r.2.2.2.1 then 22 else rc (rtn r) (rtd r)) else 23
theorem wrR_ok {r : RtT} (h : wrR r = 0) : OkR (rtn r) (rtd r) := by
  unfold wrR at h
  split at h
  · split at h
    · omega
    · split at h
      · omega
      · by_cases k : OkR (rtn r) (rtd r)
        · exact k
        · rw [rc_no k] at h; omega
  · omega
theorem getR {L : List RtT} {k : Nat} (h : k < L.length) : L.getD k zR = L[k] := by simp [List.getD, h]
theorem takeR {L : List RtT} {k : Nat} (h : k < L.length) : L.take (k + 1) = L.take k ++ [L.getD k zR] := by rw [List.take_succ_eq_append_getElem h, getR h]
/-- The place of the first one with which something is wrong. -/
def bdR (L : List RtT) : Nat := L.findIdx (fun r => wrR r != 0)
theorem bdR_le (L : List RtT) : bdR L ≤ L.length := List.findIdx_le_length
theorem bdR_is {L : List RtT} {k : Nat} (hk : k ≤ L.length) (h : ∀ j, j < k → wrR (L.getD j zR) = 0) (h2 : k = L.length ∨ wrR (L.getD k zR) ≠ 0) : bdR L = k := by
  unfold bdR
  rcases Nat.lt_or_ge k L.length with q | q
  · rw [List.findIdx_eq q]
    refine ⟨?_, fun j hj => ?_⟩
    · rw [← getR q]
      rcases h2 with h2 | h2
      · omega
      · simpa using h2
    · have := h j hj
      rw [getR (by omega)] at this
      simpa using this
  · rw [show k = L.length by omega]
    refine List.findIdx_eq_length.2 fun x hx => ?_
    obtain ⟨j, hj, rfl⟩ := List.getElem_of_mem hx
    have := h j (by omega)
    rw [getR hj] at this
    simpa using this
/-- What Check tells. -/
def rkV (L : List RtT) : Int := if 2000 < L.length then 0 else (bdR L : Int)
def rkE (L : List RtT) : Int := if 2000 < L.length then 3 else if bdR L < L.length then wrR (L.getD (bdR L) zR) else 0
theorem rkE_ok {L : List RtT} (h : rkE L = 0) : ∀ r ∈ L, wrR r = 0 := by
  unfold rkE at h
  split at h
  · omega
  · split at h
    · rename_i q
      exfalso
      have h' : L.findIdx (fun r => wrR r != 0) < L.length := q
      have e := List.findIdx_getElem (p := fun r => wrR r != 0) (w := h')
      rw [getR q] at h
      have : wrR (L[L.findIdx (fun r => wrR r != 0)]'h') = 0 := h
      rw [this] at e
      simp at e
    · rename_i q
      have hb : bdR L = L.length := Nat.le_antisymm (bdR_le L) (by omega)
      intro r hr
      have := List.findIdx_eq_length.1 hb r hr
      simpa using this

/-! ### The last one with a key -/
def lsN (L : List RtT) (k : RtT) : Nat → Int
  | 0 => -1
  | n + 1 => if onK (L.getD n zR) k = true then (n : Int) else lsN L k n
def lst (L : List RtT) (k : RtT) : Int := lsN L k L.length
theorem lsN_yes {L : List RtT} {k : RtT} {n : Nat} (h : onK (L.getD n zR) k = true) : lsN L k (n + 1) = (n : Int) := by simp only [lsN]; rw [if_pos h]
theorem lsN_no {L : List RtT} {k : RtT} {n : Nat} (h : onK (L.getD n zR) k = false) : lsN L k (n + 1) = lsN L k n := by simp only [lsN]; rw [if_neg (by rw [h]; simp)]
theorem lsN_in (L : List RtT) (k : RtT) : ∀ n, -1 ≤ lsN L k n ∧ lsN L k n < (n : Int)
  | 0 => ⟨Int.le_refl _, by show (-1 : Int) < _; omega⟩
  | n + 1 => by
    have := lsN_in L k n
    simp only [lsN]
    split
    · omega
    · omega
theorem lsN_hit (L : List RtT) (k : RtT) : ∀ n, 0 ≤ lsN L k n → onK (L.getD (lsN L k n).toNat zR) k = true
  | 0 => fun h => by have : (0 : Int) ≤ -1 := h; omega
  | n + 1 => fun h => by
    by_cases q : onK (L.getD n zR) k = true
    · rw [lsN_yes q, Int.toNat_natCast]; exact q
    · have q' : onK (L.getD n zR) k = false := by simpa using q
      rw [lsN_no q'] at h ⊢
      exact lsN_hit L k n h
theorem lsN_behind (L : List RtT) (k : RtT) (m : Nat) : ∀ d, (∀ i, m ≤ i → i < m + d → onK (L.getD i zR) k = false) → lsN L k (m + d) = lsN L k m
  | 0, _ => rfl
  | d + 1, h => by
    rw [← Nat.add_assoc, lsN_no (h (m + d) (by omega) (by omega))]
    exact lsN_behind L k m d fun i h1 h2 => h i h1 (by omega)
theorem lst_none {L : List RtT} {k : RtT} (h : ∀ i, i < L.length → onK (L.getD i zR) k = false) : lst L k = -1 := by
  have := lsN_behind L k 0 L.length fun i _ hi => h i (by omega)
  rw [Nat.zero_add] at this
  exact this
theorem lst_at {L : List RtT} {k : RtT} {q : Nat} (hq : q < L.length) (h : onK (L.getD q zR) k = true) (hb : ∀ i, q < i → i < L.length → onK (L.getD i zR) k = false) : lst L k = (q : Int) := by
  have := lsN_behind L k (q + 1) (L.length - (q + 1)) fun i h1 h2 => hb i (by omega) (by omega)
  rw [show q + 1 + (L.length - (q + 1)) = L.length by omega] at this
  exact this.trans (lsN_yes h)
theorem lst_in (L : List RtT) (k : RtT) : -1 ≤ lst L k ∧ lst L k < (L.length : Int) := lsN_in L k _
theorem lsN_above (L : List RtT) (k : RtT) : ∀ (n i : Nat), lsN L k n < (i : Int) → i < n → onK (L.getD i zR) k = false
  | 0, i, _, h => by omega
  | n + 1, i, h1, h2 => by
    by_cases q : onK (L.getD n zR) k = true
    · rw [lsN_yes q] at h1; omega
    · have q' : onK (L.getD n zR) k = false := by simpa using q
      rw [lsN_no q'] at h1
      rcases Nat.lt_or_ge i n with r | r
      · exact lsN_above L k n i h1 r
      · rw [show i = n by omega]; exact q'

/-! ### What is found -/
def fnd (L : List RtT) (k : RtT) : Option (Int × Int) := L.foldl (fun o r => if onK r k = true then some (rtn r, rtd r) else o) none
theorem fnd_key {k k' : RtT} (h : kyR k = kyR k') (L : List RtT) : fnd L k = fnd L k' := by
  unfold fnd
  congr 1
  funext o r
  rw [onK_key h]
theorem fnd_snoc (L : List RtT) (r k : RtT) : fnd (L ++ [r]) k = if onK r k = true then some (rtn r, rtd r) else fnd L k := by simp [fnd]
theorem fnd_take (L : List RtT) (k : RtT) : ∀ n, n ≤ L.length → fnd (L.take n) k = if 0 ≤ lsN L k n then some (rtn (L.getD (lsN L k n).toNat zR), rtd (L.getD (lsN L k n).toNat zR)) else none
  | 0, _ => by rw [if_neg (by show ¬ (0 : Int) ≤ -1; omega)]; rfl
  | n + 1, h => by
    rw [takeR (by omega), fnd_snoc, fnd_take L k n (by omega)]
    by_cases q : onK (L.getD n zR) k = true
    · rw [if_pos q, lsN_yes q, if_pos (by omega), Int.toNat_natCast]
    · have q' : onK (L.getD n zR) k = false := by simpa using q
      rw [if_neg q, lsN_no q']
theorem fnd_is (L : List RtT) (k : RtT) : fnd L k = if 0 ≤ lst L k then some (rtn (L.getD (lst L k).toNat zR), rtd (L.getD (lst L k).toNat zR)) else none := by
  have := fnd_take L k L.length (Nat.le_refl _)
  rwa [List.take_of_length_le (Nat.le_refl _)] at this
theorem fold_filter (p : RtT → Bool) (k : RtT) (hp : ∀ r, onK r k = true → p r = true) : ∀ (L : List RtT) (o : Option (Int × Int)),
    (L.filter p).foldl (fun o r => if onK r k = true then some (rtn r, rtd r) else o) o = L.foldl (fun o r => if onK r k = true then some (rtn r, rtd r) else o) o
  | [], _ => rfl
  | r :: L, o => by
    by_cases q : p r = true
    · rw [List.filter_cons_of_pos q, List.foldl_cons, List.foldl_cons]; exact fold_filter p k hp L _
    · have hk : ¬ onK r k = true := fun e => q (hp r e)
      rw [List.filter_cons_of_neg q, List.foldl_cons, if_neg hk]; exact fold_filter p k hp L _
/-- The rates of one kind and period. -/
def nrr (L : List RtT) (k : RtT) : List RtT := L.filter fun r => decide (anW r = anW k)
theorem fnd_near (L : List RtT) (k : RtT) (f t : Int) : fnd (nrr L k) (btw k f t) = fnd L (btw k f t) := by
  refine fold_filter _ _ (fun r h => ?_) L none
  have := onK_iff.1 h
  unfold btw at this
  refine decide_eq_true ?_
  unfold anW btw
  rw [this.2.2.1, this.2.2.2]
/-- A rate of a leg: straight, or turned round. -/
def lgo (L : List RtT) (k : RtT) (f t : Int) : Option (Int × Int) :=
  match fnd L (btw k f t) with
  | some r => some r
  | none => match fnd L (btw k t f) with
    | some b => if OkR b.1 b.2 then some (normn b.2 b.1, normd b.2 b.1) else none
    | none => none
theorem lgo_near (L : List RtT) (k : RtT) (f t : Int) : lgo (nrr L k) k f t = lgo L k f t := by unfold lgo; rw [fnd_near, fnd_near]
theorem lgo_straight {L : List RtT} {k : RtT} {f t : Int} {r : Int × Int} (h : fnd L (btw k f t) = some r) : lgo L k f t = some r := by unfold lgo; rw [h]
theorem lgo_turned {L : List RtT} {k : RtT} {f t : Int} {b : Int × Int} (h : fnd L (btw k f t) = none) (h2 : fnd L (btw k t f) = some b) (h3 : OkR b.1 b.2) : lgo L k f t = some (normn b.2 b.1, normd b.2 b.1) := by
  unfold lgo; rw [h, h2]; exact if_pos h3
theorem lgo_wrong {L : List RtT} {k : RtT} {f t : Int} {b : Int × Int} (h : fnd L (btw k f t) = none) (h2 : fnd L (btw k t f) = some b) (h3 : ¬ OkR b.1 b.2) : lgo L k f t = none := by
  unfold lgo; rw [h, h2]; exact if_neg h3
theorem lgo_none {L : List RtT} {k : RtT} {f t : Int} (h : fnd L (btw k f t) = none) (h2 : fnd L (btw k t f) = none) : lgo L k f t = none := by
  unfold lgo; rw [h, h2]
/-- By a third currency. -/
def mid (L : List RtT) (k : RtT) (c : Int) : Option (Int × Int) :=
  if c = k.1 ∨ c = k.2.1 then none else
  match lgo L k k.1 c with
  | none => none
  | some a => match lgo L k c k.2.1 with
    | none => none
    | some b => if mulE a.1 a.2 b.1 b.2 = 0 then some (mulN a.1 a.2 b.1 b.2, mulD a.1 a.2 b.1 b.2) else none
theorem mid_skip {L : List RtT} {k : RtT} {c : Int} (h : c = k.1 ∨ c = k.2.1) : mid L k c = none := if_pos h
theorem mid_one {L : List RtT} {k : RtT} {c : Int} (h1 : lgo L k k.1 c = none) : mid L k c = none := by
  unfold mid; rw [h1]; split <;> rfl
theorem mid_two {L : List RtT} {k : RtT} {c : Int} (h2 : lgo L k c k.2.1 = none) : mid L k c = none := by
  unfold mid; rw [h2]
  split
  · rfl
  · cases lgo L k k.1 c <;> rfl
theorem mid_not {L : List RtT} {k : RtT} {c : Int} {a b : Int × Int} (h : ¬ (c = k.1 ∨ c = k.2.1)) (h1 : lgo L k k.1 c = some a) (h2 : lgo L k c k.2.1 = some b) (h3 : mulE a.1 a.2 b.1 b.2 ≠ 0) : mid L k c = none := by
  unfold mid; rw [if_neg h, h1, h2]; exact if_neg h3
theorem mid_yes {L : List RtT} {k : RtT} {c : Int} {a b : Int × Int} (h : ¬ (c = k.1 ∨ c = k.2.1)) (h1 : lgo L k k.1 c = some a) (h2 : lgo L k c k.2.1 = some b) (h3 : mulE a.1 a.2 b.1 b.2 = 0) : mid L k c = some (mulN a.1 a.2 b.1 b.2, mulD a.1 a.2 b.1 b.2) := by
  unfold mid; rw [if_neg h, h1, h2]; exact if_pos h3
/-- The first of so many third currencies, from one on. -/
def thr (L : List RtT) (k : RtT) : Nat → Int → Option (Int × Int)
  | 0, _ => none
  | n + 1, c => match mid L k c with
    | some r => some r
    | none => thr L k n (c + 1)
theorem thr_yes {L : List RtT} {k : RtT} {n : Nat} {c : Int} {r : Int × Int} (h : mid L k c = some r) : thr L k (n + 1) c = some r := by simp only [thr, h]
theorem thr_no {L : List RtT} {k : RtT} {n : Nat} {c : Int} (h : mid L k c = none) : thr L k (n + 1) c = thr L k n (c + 1) := by simp only [thr, h]
def crs (L : List RtT) (k : RtT) : Option (Int × Int) :=
  match lgo L k k.1 k.2.1 with
  | some r => some r
  | none => thr L k 8 1
theorem crs_leg {L : List RtT} {k : RtT} {r : Int × Int} (h : lgo L k k.1 k.2.1 = some r) : crs L k = some r := by unfold crs; rw [h]
theorem crs_thr {L : List RtT} {k : RtT} (h : lgo L k k.1 k.2.1 = none) : crs L k = thr L k 8 1 := by unfold crs; rw [h]
theorem btw_key (k : RtT) : kyR (btw k k.1 k.2.1) = kyR k := rfl
theorem crs_straight {L : List RtT} {k : RtT} {r : Int × Int} (h : fnd L k = some r) : crs L k = some r :=
  crs_leg (lgo_straight ((fnd_key (btw_key k) L).trans h))
/-- Of rates that may be, what is told may be. -/
theorem fnd_ok {L : List RtT} (hL : ∀ r ∈ L, wrR r = 0) {k : RtT} {a : Int × Int} (h : fnd L k = some a) : OkR a.1 a.2 := by
  rw [fnd_is] at h
  have hb := lst_in L k
  split at h
  · have hl : (lst L k).toNat < L.length := by omega
    rw [getR hl] at h
    have := wrR_ok (hL _ (List.getElem_mem hl))
    cases h
    exact this
  · cases h
theorem lgo_ok {L : List RtT} (hL : ∀ r ∈ L, wrR r = 0) {k : RtT} {f t : Int} {a : Int × Int} (h : lgo L k f t = some a) : OkR a.1 a.2 := by
  unfold lgo at h
  split at h
  · rename_i r hr; cases h; exact fnd_ok hL hr
  · split at h
    · split at h
      · rename_i q; cases h; exact norm_ok (ok_flip q)
      · cases h
    · cases h
theorem mul_ok {n d m f : Int} (h : mulE n d m f = 0) : OkR (mulN n d m f) (mulD n d m f) := by
  unfold mulE at h
  split at h
  · rename_i q
    split at h
    · rename_i l
      unfold mulN mulD
      rw [if_pos q, if_pos q]
      have p1 : 0 < n * m := Int.mul_pos (by have := q.1; unfold OkR at this; omega) (by have := q.2; unfold OkR at this; omega)
      have p2 : 0 < d * f := Int.mul_pos (by have := q.1; unfold OkR at this; omega) (by have := q.2; unfold OkR at this; omega)
      have hX : 0 < (n * m).toNat := by omega
      have hY : 0 < (d * f).toNat := by omega
      generalize (n * m).toNat = X at *
      generalize (d * f).toNat = Y at *
      have hg := Nat.gcd_pos_of_pos_left Y hX
      have g1 := Nat.div_pos (Nat.le_of_dvd hX (Nat.gcd_dvd_left X Y)) hg
      have g2 := Nat.div_pos (Nat.le_of_dvd hY (Nat.gcd_dvd_right X Y)) hg
      unfold lown lowd
      rw [if_pos l, if_pos l]
      unfold LowOk at l
      unfold OkR
      omega
    · omega
  · omega
theorem mid_ok {L : List RtT} {k : RtT} {c : Int} {a : Int × Int} (h : mid L k c = some a) : OkR a.1 a.2 := by
  unfold mid at h
  split at h
  · cases h
  · split at h
    · cases h
    · split at h
      · cases h
      · split at h
        · rename_i q; cases h; exact mul_ok q
        · cases h
theorem thr_ok {L : List RtT} {k : RtT} : ∀ (n : Nat) (c : Int) {a : Int × Int}, thr L k n c = some a → OkR a.1 a.2
  | 0, _, _, h => by cases h
  | n + 1, c, a, h => by
    simp only [thr] at h
    split at h
    · rename_i r hr; cases h; exact mid_ok hr
    · exact thr_ok n (c + 1) h
theorem crs_ok {L : List RtT} (hL : ∀ r ∈ L, wrR r = 0) {k : RtT} {a : Int × Int} (h : crs L k = some a) : OkR a.1 a.2 := by
  unfold crs at h
  split at h
  · rename_i r hr; cases h; exact lgo_ok hL hr
  · exact thr_ok 8 1 h
/-- A straight rate is known the other way. -/
theorem crs_back {L : List RtT} (hL : ∀ r ∈ L, wrR r = 0) {k : RtT} {a : Int × Int} (h : fnd L k = some a) (h2 : fnd L (btw k k.2.1 k.1) = none) : crs L (btw k k.2.1 k.1) = some (normn a.2 a.1, normd a.2 a.1) :=
  crs_leg (lgo_turned h2 ((fnd_key rfl L).trans h) (fnd_ok hL h))

/-! ### What is set -/
def stE (L : List RtT) (r : RtT) : Int := if wrR r ≠ 0 then wrR r else if 0 ≤ lst L r then 0 else if 2000 ≤ L.length then 3 else 0
def stL (L : List RtT) (r : RtT) : List RtT := if wrR r ≠ 0 then [] else if 0 ≤ lst L r then L.set (lst L r).toNat r else if 2000 ≤ L.length then [] else L ++ [r]
theorem stE_wr {L : List RtT} {r : RtT} (h : wrR r ≠ 0) : stE L r = wrR r ∧ stL L r = [] := ⟨if_pos h, if_pos h⟩
theorem stE_at {L : List RtT} {r : RtT} (h : wrR r = 0) (h2 : 0 ≤ lst L r) : stE L r = 0 ∧ stL L r = L.set (lst L r).toNat r :=
  ⟨(if_neg (by omega)).trans (if_pos h2), (if_neg (by omega)).trans (if_pos h2)⟩
theorem stE_full {L : List RtT} {r : RtT} (h : wrR r = 0) (h2 : ¬ 0 ≤ lst L r) (h3 : 2000 ≤ L.length) : stE L r = 3 ∧ stL L r = [] :=
  ⟨(if_neg (by omega)).trans ((if_neg h2).trans (if_pos h3)), (if_neg (by omega)).trans ((if_neg h2).trans (if_pos h3))⟩
theorem stE_new {L : List RtT} {r : RtT} (h : wrR r = 0) (h2 : ¬ 0 ≤ lst L r) (h3 : ¬ 2000 ≤ L.length) : stE L r = 0 ∧ stL L r = L ++ [r] :=
  ⟨(if_neg (by omega)).trans ((if_neg h2).trans (if_neg h3)), (if_neg (by omega)).trans ((if_neg h2).trans (if_neg h3))⟩
theorem stL_wrong {L : List RtT} {r : RtT} (h : stE L r ≠ 0) : stL L r = [] := by
  by_cases h1 : wrR r = 0
  · by_cases h2 : 0 ≤ lst L r
    · exact absurd (stE_at h1 h2).1 h
    · by_cases h3 : 2000 ≤ L.length
      · exact (stE_full h1 h2 h3).2
      · exact absurd (stE_new h1 h2 h3).1 h
  · exact (stE_wr h1).2
theorem stL_ok {L : List RtT} (hL : ∀ s ∈ L, okT s) {r : RtT} (hr : okT r) : ∀ s ∈ stL L r, okT s := by
  intro s hs
  unfold stL at hs
  split at hs
  · cases hs
  · split at hs
    · rcases List.mem_or_eq_of_mem_set hs with q | q
      · exact hL s q
      · rw [q]; exact hr
    · split at hs
      · cases hs
      · rcases List.mem_append.1 hs with q | q
        · exact hL s q
        · rw [List.mem_singleton.1 q]; exact hr
theorem fnd_same {A : List RtT} {x r k : RtT} {B : List RtT} (hx : onK x k = false) (hr : onK r k = false) : fnd (A ++ r :: B) k = fnd (A ++ x :: B) k := by
  unfold fnd
  rw [List.foldl_append, List.foldl_append, List.foldl_cons, List.foldl_cons, if_neg (by rw [hr]; simp), if_neg (by rw [hx]; simp)]
theorem fold_no (k : RtT) : ∀ (B : List RtT) (o : Option (Int × Int)), (∀ r ∈ B, onK r k = false) → B.foldl (fun o r => if onK r k = true then some (rtn r, rtd r) else o) o = o
  | [], _, _ => rfl
  | r :: B, o, h => by
    rw [List.foldl_cons, if_neg (by rw [h r (List.mem_cons_self ..)]; simp)]
    exact fold_no k B o fun s hs => h s (List.mem_cons_of_mem _ hs)
/-- What is set is found; what has another key is found as it was; whether one more is there. -/
theorem set_facts {L : List RtT} {r : RtT} (h : stE L r = 0) : fnd (stL L r) r = some (rtn r, rtd r) ∧ L.length ≤ (stL L r).length ∧ (stL L r).length ≤ L.length + 1 ∧ ((fnd L r).isSome = decide ((stL L r).length = L.length)) ∧ ∀ k, onK r k = false → fnd (stL L r) k = fnd L k := by
  have h1 : wrR r = 0 := by
    apply Classical.byContradiction; intro q
    rw [(stE_wr q).1] at h; exact q h
  by_cases h2 : 0 ≤ lst L r
  · rw [(stE_at h1 h2).2]
    have hb := lst_in L r
    obtain ⟨q, hq⟩ := Int.eq_ofNat_of_zero_le h2
    have hql : q < L.length := by omega
    have hhit := lsN_hit L r L.length h2
    have hab := lsN_above L r L.length
    rw [show lsN L r L.length = (q : Int) from hq] at hhit hab
    rw [Int.toNat_natCast] at hhit
    have ht : (lst L r).toNat = q := by omega
    rw [ht]
    have e1 : L.set q r = L.take q ++ r :: L.drop (q + 1) := List.set_eq_take_append_cons_drop .. |>.trans (if_pos hql)
    have e2 : L = L.take q ++ L.getD q zR :: L.drop (q + 1) := by rw [getR hql, List.getElem_cons_drop, List.take_append_drop]
    refine ⟨?_, by simp, by simp, ?_, fun k hk => ?_⟩
    · rw [e1]
      unfold fnd
      rw [List.foldl_append, List.foldl_cons, if_pos (onK_self r)]
      refine fold_no r _ _ fun s hs => ?_
      obtain ⟨j, hj, rfl⟩ := List.getElem_of_mem hs
      rw [List.length_drop] at hj
      rw [List.getElem_drop]
      have := hab (q + 1 + j) (by omega) (by omega)
      rwa [getR (by omega)] at this
    · rw [fnd_is, hq, if_pos (by omega)]
      simp
    · rw [e1]
      conv => rhs; rw [e2]
      refine fnd_same ?_ hk
      rw [onK_same hhit]; exact hk
  · by_cases h3 : 2000 ≤ L.length
    · rw [(stE_full h1 h2 h3).1] at h; omega
    · rw [(stE_new h1 h2 h3).2]
      refine ⟨by rw [fnd_snoc, if_pos (onK_self r)], by simp, by simp, ?_, fun k hk => ?_⟩
      · rw [fnd_is, if_neg h2]; simp
      · rw [fnd_snoc, if_neg (by rw [hk]; simp)]
end Go.Proofs.Ytogckefmmjbapaa
