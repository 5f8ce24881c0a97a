/-
  Layer 16 in words: what keys have, told by a row of pairs; what is known of each beginning; what each call leaves. No Go function is walked here. No conditions.
-/
import Derived.Test.YteendpdidkekkaaTurnM
namespace Go.Proofs.Yteendpdidkekkaa
open Go.RowKit
set_option linter.unusedSimpArgs false
set_option linter.unusedVariables false

abbrev Prs := List (Int × Int)
/-- What a key has in a row of pairs. -/
def ulk : Prs → Int → Option Int
  | [], _ => none
  | p :: l, k => if p.1 = k then some p.2 else ulk l k
/-- The row without that of a key. -/
def uwo (l : Prs) (k : Int) : Prs := l.filter fun p => !decide (p.1 = k)
theorem uwo_nil (k : Int) : uwo [] k = [] := rfl
theorem uwo_snoc (l : Prs) (p : Int × Int) (k : Int) : uwo (l ++ [p]) k = if p.1 = k then uwo l k else uwo l k ++ [p] := by
  unfold uwo
  rw [List.filter_append]
  by_cases h : p.1 = k <;> simp [h]
theorem ulk_wo (l : Prs) (k j : Int) : ulk (uwo l k) j = if j = k then none else ulk l j := by
  induction l with
  | nil => simp [uwo, ulk]
  | cons p l ih =>
    unfold uwo at ih ⊢
    by_cases h : p.1 = k
    · rw [List.filter_cons_of_neg (by simp [h]), ih]
      by_cases e : j = k
      · simp [e]
      · rw [if_neg e, if_neg e, ulk, if_neg (fun q : p.1 = j => e (q.symm.trans h))]
    · rw [List.filter_cons_of_pos (by simp [h]), ulk, ih, ulk]
      by_cases e : j = k
      · rw [if_neg (fun q => h (q.trans e)), if_pos e, if_pos e]
      · rw [if_neg e, if_neg e]
theorem ulk_snoc (l : Prs) (p : Int × Int) (j : Int) : ulk (l ++ [p]) j = (ulk l j).or (if p.1 = j then some p.2 else none) := by
  induction l with
  | nil => simp [ulk]
  | cons q l ih =>
    rw [List.cons_append, ulk, ulk, ih]
    by_cases h : q.1 = j
    · rw [if_pos h, if_pos h]; rfl
    · rw [if_neg h, if_neg h]
theorem ulk_put (l : Prs) (k v j : Int) : ulk (uwo l k ++ [(k, v)]) j = if j = k then some v else ulk l j := by
  rw [ulk_snoc, ulk_wo]
  by_cases e : j = k
  · rw [if_pos e, if_pos e, if_pos e.symm]; rfl
  · rw [if_neg e, if_neg e, if_neg (fun q => e q.symm)]; cases ulk l j <;> rfl
theorem ulk_some {l : Prs} {k : Int} : (ulk l k).isSome = true ↔ k ∈ l.map Prod.fst := by
  induction l with
  | nil => simp [ulk]
  | cons p l ih =>
    rw [ulk, List.map_cons, List.mem_cons]
    by_cases h : p.1 = k
    · rw [if_pos h]; simp [h]
    · rw [if_neg h, ih]; simp [show ¬ k = p.1 from fun q => h q.symm]
theorem ulk_mem {l : Prs} {k v : Int} (h : ulk l k = some v) : (k, v) ∈ l := by
  induction l with
  | nil => cases h
  | cons p l ih =>
    rw [ulk] at h
    by_cases e : p.1 = k
    · rw [if_pos e] at h; cases h; subst e; exact List.mem_cons_self
    · rw [if_neg e] at h; exact List.mem_cons_of_mem _ (ih h)
theorem uwo_none {l : Prs} {k : Int} (h : (ulk l k).isSome = false) : uwo l k = l := by
  refine List.filter_eq_self.2 fun p hp => ?_
  have : p.1 ≠ k := fun e => by
    have := ulk_some.2 (e ▸ List.mem_map_of_mem (f := Prod.fst) hp)
    rw [h] at this; cases this
  simp [this]
/-- A row of pairs that may be: a key once, keys out of U, numbers. -/
def UG (U : List Int) (N : Prs) : Prop := (N.map Prod.fst).Nodup ∧ ∀ p ∈ N, p.1 ∈ U ∧ InR p.1 ∧ InR p.2
theorem UG.nil (U : List Int) : UG U [] := ⟨List.nodup_nil, by simp⟩
theorem UG.wo {U : List Int} {N : Prs} (h : UG U N) (k : Int) : UG U (uwo N k) :=
  ⟨h.1.sublist (List.Sublist.map _ List.filter_sublist), fun p hp => h.2 p (List.mem_filter.1 hp).1⟩
theorem UG.put {U : List Int} {N : Prs} (h : UG U N) {k v : Int} (hk : k ∈ U) (hr : InR k) (hv : InR v) : UG U (uwo N k ++ [(k, v)]) := by
  refine ⟨?_, fun p hp => ?_⟩
  · rw [List.map_append, List.nodup_append]
    refine ⟨(h.wo k).1, by simp, fun a ha b hb e => ?_⟩
    obtain ⟨p, hp, rfl⟩ := List.mem_map.1 ha
    simp at hb
    have := (List.mem_filter.1 hp).2
    simp [e, hb] at this
  · rcases List.mem_append.1 hp with q | q
    · exact (h.wo k).2 p q
    · simp at q; subst q; exact ⟨hk, hr, hv⟩
theorem UG.val {U : List Int} {N : Prs} (h : UG U N) {k v : Int} (e : ulk N k = some v) : InR v := (h.2 _ (ulk_mem e)).2.2
theorem UG.gv {U : List Int} {N : Prs} (h : UG U N) (k : Int) : InR ((ulk N k).getD 0) := by
  cases e : ulk N k with
  | none => exact ⟨by simp, by simp⟩
  | some v => exact h.val e
/-- A list without a double, all of another list, is no longer. -/
theorem nodup_le : ∀ (l U : List Int), l.Nodup → (∀ x ∈ l, x ∈ U) → l.length ≤ U.length
  | [], _, _, _ => Nat.zero_le _
  | x :: l, U, hn, hs => by
    obtain ⟨h1, h2⟩ := List.nodup_cons.1 hn
    have hx := hs x List.mem_cons_self
    have := nodup_le l (U.erase x) h2 fun y hy => (List.mem_erase_of_ne (fun e : y = x => h1 (e ▸ hy))).2 (hs y (List.mem_cons_of_mem _ hy))
    rw [List.length_erase_of_mem hx] at this
    have := List.length_pos_of_mem hx
    simp only [List.length_cons]
    omega
theorem UG.len {U : List Int} {N : Prs} (h : UG U N) : N.length ≤ U.length := by
  have := nodup_le _ U h.1 (fun x hx => by obtain ⟨p, hp, rfl⟩ := List.mem_map.1 hx; exact (h.2 p hp).1)
  rwa [List.length_map] at this
/-- A book's state: what keys have, and what they had at each beginning that is open, the last one first. -/
abbrev USt := Prs × List Prs
def uset (s : USt) (k v : Int) : USt := (uwo s.1 k ++ [(k, v)], s.2)
def udrop (s : USt) (k : Int) : USt := if (ulk s.1 k).isSome = true then (uwo s.1 k, s.2) else s
def udropE (s : USt) (k : Int) : Int := if (ulk s.1 k).isSome = true then 0 else 35
def ubegin (s : USt) : USt := if s.2.length = 64 then s else (s.1, s.1 :: s.2)
def ubeginE (s : USt) : Int := if s.2.length = 64 then 3 else 0
def ukeep (s : USt) : USt := (s.1, s.2.tail)
def uback (s : USt) : USt := (s.2.headD s.1, s.2.tail)
def uendE (s : USt) : Int := if s.2 = [] then 2 else 0
/-- A state that may be. -/
def UOk (U : List Int) (s : USt) : Prop := UG U s.1 ∧ (∀ t ∈ s.2, UG U t) ∧ s.2.length ≤ 64
theorem UOk.nil (U : List Int) : UOk U ([], []) := ⟨UG.nil U, by simp, by simp⟩
theorem UOk.set {U : List Int} {s : USt} (h : UOk U s) {k v : Int} (hk : k ∈ U) (hr : InR k) (hv : InR v) : UOk U (uset s k v) := ⟨h.1.put hk hr hv, h.2⟩
theorem UOk.drop {U : List Int} {s : USt} (h : UOk U s) (k : Int) : UOk U (udrop s k) := by
  unfold udrop; split
  · exact ⟨h.1.wo k, h.2⟩
  · exact h
theorem UOk.begin {U : List Int} {s : USt} (h : UOk U s) : UOk U (ubegin s) := by
  unfold ubegin; split
  · exact h
  · exact ⟨h.1, fun t ht => (List.mem_cons.1 ht).elim (fun e => e ▸ h.1) (h.2.1 t), by have := h.2.2; simp only [List.length_cons]; omega⟩
theorem UOk.keep {U : List Int} {s : USt} (h : UOk U s) : UOk U (ukeep s) := ⟨h.1, fun t ht => h.2.1 t (List.mem_of_mem_tail ht), by have := h.2.2; simp only [ukeep, List.length_tail]; omega⟩
theorem UOk.back {U : List Int} {s : USt} (h : UOk U s) : UOk U (uback s) := by
  refine ⟨?_, fun t ht => h.2.1 t (List.mem_of_mem_tail ht), by have := h.2.2; simp only [uback, List.length_tail]; omega⟩
  obtain ⟨N, T⟩ := s
  cases T with
  | nil => exact h.1
  | cons t T => exact h.2.1 t List.mem_cons_self
/-- What is known of a beginning: of keys that were changed, what they had. -/
abbrev UH := Int → Option (Option Int)
def ULv (U : List Int) : Prs → List (Nat × UH) → List Prs → Prop
  | _, [], [] => True
  | N, (_, f) :: lv, t :: T => (∀ k, InR k → ulk t k = (f k).getD (ulk N k)) ∧ (∀ k, InR k → (f k).isSome = true → k ∈ U) ∧ ULv U t lv T
  | _, _, _ => False
theorem ULv.len {U : List Int} : ∀ {N : Prs} {lv : List (Nat × UH)} {T : List Prs}, ULv U N lv T → lv.length = T.length
  | _, [], [], _ => rfl
  | _, (_, _) :: lv, _ :: T, h => by simp [ULv.len h.2.2]
  | _, [], _ :: _, h => h.elim
  | _, (_, _) :: _, [], h => h.elim
/-- What a key has is noted. -/
def unote (f : UH) (k : Int) (n : Option Int) : UH := fun j => if j = k then some ((f k).getD n) else f j
def usettle (f : UH) (k : Int) (n : Option Int) : UH := fun j => if j = k ∧ n = none ∧ (f k).getD none = none then none else f j
def untop (g : UH → UH) : List (Nat × UH) → List (Nat × UH)
  | [] => []
  | p :: lv => (p.1, g p.2) :: lv
theorem ULv.note {U : List Int} {N : Prs} {lv : List (Nat × UH)} {T : List Prs} (h : ULv U N lv T) {k : Int} (hk : k ∈ U) : ULv U N (untop (fun f => unote f k (ulk N k)) lv) T := by
  match lv, T, h with
  | [], [], _ => trivial
  | (m, f) :: lv, t :: T, ⟨h1, h2, h3⟩ =>
    refine ⟨fun j hj => ?_, fun j hj hs => ?_, h3⟩
    · show _ = (unote f k (ulk N k) j).getD (ulk N j)
      unfold unote
      by_cases e : j = k
      · subst e; rw [if_pos rfl, h1 _ hj]; rfl
      · rw [if_neg e]; exact h1 j hj
    · change (unote f k (ulk N k) j).isSome = true at hs
      unfold unote at hs
      by_cases e : j = k
      · exact e ▸ hk
      · rw [if_neg e] at hs; exact h2 j hj hs
/-- .. and then it may have whatever else. -/
theorem ULv.turn {U : List Int} {N N' : Prs} {lv : List (Nat × UH)} {T : List Prs} (h : ULv U N lv T) {k : Int} (hk : ∀ p ∈ lv.head?, (p.2 k).isSome = true) (hN : ∀ j, j ≠ k → ulk N' j = ulk N j) : ULv U N' lv T := by
  match lv, T, h with
  | [], [], _ => trivial
  | (m, f) :: lv, t :: T, ⟨h1, h2, h3⟩ =>
    refine ⟨fun j hj => ?_, h2, h3⟩
    rw [h1 j hj]
    by_cases e : j = k
    · subst e
      have : (f j).isSome = true := hk (m, f) rfl
      cases hf : f j with
      | none => rw [hf] at this; cases this
      | some x => rfl
    · rw [hN j e]
theorem unote_top (lv : List (Nat × UH)) (k : Int) (n : Option Int) : ∀ p ∈ (untop (fun f => unote f k n) lv).head?, (p.2 k).isSome = true := by
  cases lv with
  | nil => intro p hp; cases hp
  | cons q lv => intro p hp; simp [untop] at hp; subst hp; simp [unote]
theorem ULv.settle {U : List Int} {N : Prs} {lv : List (Nat × UH)} {T : List Prs} (h : ULv U N lv T) (k : Int) : ULv U N (untop (fun f => usettle f k (ulk N k)) lv) T := by
  match lv, T, h with
  | [], [], _ => trivial
  | (m, f) :: lv, t :: T, ⟨h1, h2, h3⟩ =>
    refine ⟨fun j hj => ?_, fun j hj hs => ?_, h3⟩
    · show _ = (usettle f k (ulk N k) j).getD (ulk N j)
      unfold usettle
      by_cases e : j = k ∧ ulk N k = none ∧ (f k).getD none = none
      · rw [if_pos e, h1 j hj]
        obtain ⟨rfl, e2, e3⟩ := e
        cases hf : f j with
        | none => rfl
        | some x => rw [hf] at e3; rw [e2]; exact e3
      · rw [if_neg e]; exact h1 j hj
    · change (usettle f k (ulk N k) j).isSome = true at hs
      unfold usettle at hs
      split at hs
      · cases hs
      · exact h2 j hj hs
theorem ULv.begin {U : List Int} {N : Prs} {lv : List (Nat × UH)} {T : List Prs} (h : ULv U N lv T) (m : Nat) : ULv U N ((m, fun _ => none) :: lv) (N :: T) := ⟨fun _ _ => rfl, fun _ _ (q : (none : Option (Option Int)).isSome = true) => (by cases q), h⟩
/-- What the beginning around a kept one knows, as far as it is passed on. -/
def upass (f g : UH) (N : Prs) (left : Int → Bool) : UH := fun k => if (f k).isSome = true ∧ left k = false then (if ulk N k = none ∧ (g k).getD ((f k).getD none) = none then none else some ((g k).getD ((f k).getD none))) else g k
theorem ULv.pass {U : List Int} {N : Prs} {m0 m1 : Nat} {f g : UH} {lv : List (Nat × UH)} {t0 t1 : Prs} {T : List Prs} (h : ULv U N ((m0, f) :: (m1, g) :: lv) (t0 :: t1 :: T)) {left : Int → Bool} (hl : ∀ k, InR k → left k = false) :
    ULv U N ((m1, upass f g N left) :: lv) (t1 :: T) := by
  obtain ⟨h1, h2, h3, h4, h5⟩ := h
  refine ⟨fun k hk => ?_, fun k hk hs => ?_, h5⟩
  · rw [h3 k hk, h1 k hk]
    unfold upass
    by_cases e : (f k).isSome = true
    · rw [if_pos ⟨e, hl k hk⟩]
      obtain ⟨x, hx⟩ := Option.isSome_iff_exists.1 e
      rw [hx]
      show (g k).getD x = _
      by_cases e2 : ulk N k = none ∧ (g k).getD ((some x : Option (Option Int)).getD none) = none
      · rw [if_pos e2, e2.1]; exact e2.2
      · rw [if_neg e2]; rfl
    · rw [if_neg (fun q => e q.1)]
      cases hf : f k with
      | none => rfl
      | some x => rw [hf] at e; exact absurd rfl e
  · unfold upass at hs
    by_cases e : (f k).isSome = true ∧ left k = false
    · exact h2 k hk e.1
    · rw [if_neg e] at hs; exact h4 k hk hs
theorem upass_start (f g : UH) (N : Prs) (k : Int) : upass f g N (fun j => (f j).isSome) k = g k := by
  unfold upass
  by_cases e : (f k).isSome = true
  · rw [if_neg (fun q => by have : (f k).isSome = false := q.2; rw [e] at this; cases this)]
  · rw [if_neg (fun q => e q.1)]
/-- One key more is passed on. -/
theorem upass_step {f g : UH} {N : Prs} {left : Int → Bool} {k : Int} (hl : left k = true) {x : Option Int} (hf : f k = some x) (j : Int) :
    usettle (unote (upass f g N left) k x) k (ulk N k) j = upass f g N (fun j => left j && !decide (j = k)) j := by
  have hk : upass f g N left k = g k := by unfold upass; rw [if_neg (fun q => by have := q.2; rw [hl] at this; cases this)]
  unfold usettle unote
  rw [hk]
  by_cases e : j = k
  · subst e
    simp only [if_pos, true_and]
    unfold upass
    rw [hf]
    simp
  · simp only [e, false_and, if_false]
    unfold upass
    simp [e]
/-- What keys have, as far as it is brought back. -/
def urest (f : UH) (N : Prs) (left : Int → Bool) : Int → Option Int := fun k => if left k = true then ulk N k else (f k).getD (ulk N k)
theorem urest_start (f : UH) (N : Prs) (k : Int) : urest f N (fun j => (f j).isSome) k = ulk N k := by
  unfold urest
  by_cases e : (f k).isSome = true
  · rw [if_pos e]
  · rw [if_neg e]
    cases hf : f k with
    | none => rfl
    | some x => rw [hf] at e; exact absurd rfl e
theorem urest_step {f : UH} {N : Prs} {left : Int → Bool} {k : Int} {x : Option Int} (hf : f k = some x) (j : Int) : (if j = k then x else urest f N left j) = urest f N (fun j => left j && !decide (j = k)) j := by
  unfold urest
  by_cases e : j = k
  · subst e; simp [hf]
  · simp [e]
theorem urest_end {U : List Int} {N : Prs} {m : Nat} {f : UH} {lv : List (Nat × UH)} {t : Prs} {T : List Prs} (h : ULv U N ((m, f) :: lv) (t :: T)) {left : Int → Bool} (hl : ∀ k, InR k → left k = false) {k : Int} (hk : InR k) : urest f N left k = ulk t k := by
  unfold urest
  rw [if_neg (by rw [hl k hk]; decide)]
  exact (h.1 k hk).symm
end Go.Proofs.Yteendpdidkekkaa
