/-
  The words of layer 18: who holds an entity in a period, who comes above it, whether it comes back to itself; what may be added; the pieces of all periods. No Go function is walked here. No conditions.
-/
import Derived.Test.YtebjmnppeohdiaaIntX
import Derived.Test.YtebjmnppeohdiaaBtR
import Derived.Test.YtebjmnppeohdiaaUndM
namespace Go.Proofs.Ytebjmnppeohdiaa
open Go.RowKit
set_option linter.unusedSimpArgs false
set_option linter.unusedVariables false

abbrev z4 : K4 := (0, 0, 0, 0)
/-- None holds it. -/
def ini4 : K4 := (0, 0, 10000, -9223372036854775808)
/-- A stake counts for an entity in a period. -/
def cnt (x p : Int) (s : K4) : Bool := decide (s.1 = x) && decide (s.2.2.2 ≤ p)
def stp (x p : Int) (h s : K4) : K4 := if (cnt x p s && decide (h.2.2.2 ≤ s.2.2.2)) = true then s else h
/-- The stake by which an entity is held. -/
def hel (L : List K4) (x p : Int) : K4 := L.foldl (stp x p) ini4
def upv (L : List K4) (x p : Int) : Int := (hel L x p).2.1
def shv (L : List K4) (x p : Int) : Int := (hel L x p).2.2.1
theorem stp_no {x p : Int} {h s : K4} (e : cnt x p s = false) : stp x p h s = h := by unfold stp; rw [e]; rfl
theorem stp_low {x p : Int} {h s : K4} (e : s.2.2.2 < h.2.2.2) : stp x p h s = h := by unfold stp; rw [decide_eq_false (show ¬ h.2.2.2 ≤ s.2.2.2 by omega)]; simp
theorem stp_yes {x p : Int} {h s : K4} (e : cnt x p s = true) (k : h.2.2.2 ≤ s.2.2.2) : stp x p h s = s := by unfold stp; rw [e, decide_eq_true k]; rfl
theorem cnt_yes {x p : Int} {s : K4} (h : s.1 = x) (k : s.2.2.2 ≤ p) : cnt x p s = true := by unfold cnt; rw [decide_eq_true h, decide_eq_true k]; rfl
theorem cnt_is {x p : Int} {s : K4} : cnt x p s = true ↔ s.1 = x ∧ s.2.2.2 ≤ p := by unfold cnt; simp
theorem cnt_no {x p : Int} {s : K4} (h : ¬ (s.1 = x ∧ s.2.2.2 ≤ p)) : cnt x p s = false := by
  cases e : cnt x p s with
  | false => rfl
  | true => exact absurd (cnt_is.1 e) h
theorem hel_snoc (L : List K4) (s : K4) (x p : Int) : hel (L ++ [s]) x p = stp x p (hel L x p) s := by simp [hel, List.foldl_append]
theorem get4 {L : List K4} {k : Nat} (h : k < L.length) : L.getD k z4 = L[k] := by simp [List.getD, h]
theorem take4 {L : List K4} {k : Nat} (h : k < L.length) : L.take (k + 1) = L.take k ++ [L.getD k z4] := by rw [List.take_succ_eq_append_getElem h, get4 h]
theorem hel_take {L : List K4} {k : Nat} (x p : Int) (h : k < L.length) : hel (L.take (k + 1)) x p = stp x p (hel (L.take k) x p) (L.getD k z4) := by rw [take4 h, hel_snoc]
theorem fold_is (x p : Int) : ∀ (L : List K4) (h : K4), h.2.2.2 ≤ (L.foldl (stp x p) h).2.2.2 ∧ (∀ s ∈ L, cnt x p s = true → s.2.2.2 ≤ (L.foldl (stp x p) h).2.2.2) ∧
    ((L.foldl (stp x p) h = h ∧ ∀ s ∈ L, cnt x p s = true → s.2.2.2 < h.2.2.2) ∨ (L.foldl (stp x p) h ∈ L ∧ cnt x p (L.foldl (stp x p) h) = true))
  | [], h => ⟨Int.le_refl _, by simp, Or.inl ⟨rfl, by simp⟩⟩
  | a :: L, h => by
    obtain ⟨i1, i2, i3⟩ := fold_is x p L (stp x p h a)
    rw [List.foldl_cons]
    by_cases e : cnt x p a = true ∧ h.2.2.2 ≤ a.2.2.2
    · have q := stp_yes (h := h) e.1 e.2
      rw [q] at i1 i2 i3 ⊢
      have e2 := e.2
      refine ⟨by omega, ?_, Or.inr ?_⟩
      · intro s hs hc
        rcases List.mem_cons.1 hs with rfl | hs
        · exact i1
        · exact i2 s hs hc
      · rcases i3 with ⟨r, _⟩ | ⟨r, r2⟩
        · rw [r]; exact ⟨by simp, e.1⟩
        · exact ⟨List.mem_cons_of_mem _ r, r2⟩
    · have q : stp x p h a = h := by
        unfold stp
        rw [if_neg]
        simp only [Bool.and_eq_true, decide_eq_true_eq]
        exact e
      rw [q] at i1 i2 i3 ⊢
      have ha : cnt x p a = true → a.2.2.2 < h.2.2.2 := fun hc => Int.not_le.1 (fun r => e ⟨hc, r⟩)
      refine ⟨i1, ?_, ?_⟩
      · intro s hs hc
        rcases List.mem_cons.1 hs with rfl | hs
        · have := ha hc; omega
        · exact i2 s hs hc
      · rcases i3 with ⟨r, r2⟩ | ⟨r, r2⟩
        · refine Or.inl ⟨r, fun s hs hc => ?_⟩
          rcases List.mem_cons.1 hs with rfl | hs
          · exact ha hc
          · exact r2 s hs hc
        · exact Or.inr ⟨List.mem_cons_of_mem _ r, r2⟩
theorem hel_is {L : List K4} (x p : Int) (hL : ∀ s ∈ L, ok4 s) : (hel L x p = ini4 ∧ ∀ s ∈ L, cnt x p s = false) ∨ (hel L x p ∈ L ∧ cnt x p (hel L x p) = true ∧ ∀ s ∈ L, cnt x p s = true → s.2.2.2 ≤ (hel L x p).2.2.2) := by
  obtain ⟨h1, h2, h3⟩ := fold_is x p L ini4
  rcases h3 with ⟨r, r2⟩ | ⟨r, r2⟩
  · refine Or.inl ⟨r, fun s hs => ?_⟩
    cases e : cnt x p s with
    | false => rfl
    | true =>
      have := r2 s hs e
      have h4 := (hL s hs).2.2.2
      unfold InR at h4
      simp only [ini4] at this
      omega
  · exact Or.inr ⟨r, r2, h2⟩
theorem hel_or (L : List K4) (x p : Int) : hel L x p = ini4 ∨ (hel L x p ∈ L ∧ (hel L x p).1 = x) := by
  rcases (fold_is x p L ini4).2.2 with ⟨r, _⟩ | ⟨r, r2⟩
  · exact Or.inl r
  · exact Or.inr ⟨r, (cnt_is.1 r2).1⟩
theorem ini4_ok : ok4 ini4 := ⟨by decide, by decide, by decide, by decide⟩
theorem hel_ok {L : List K4} (hL : ∀ s ∈ L, ok4 s) (x p : Int) : ok4 (hel L x p) := by
  rcases hel_or L x p with h | h
  · rw [h]; exact ini4_ok
  · exact hL _ h.1
/-- The stakes of an entity. -/
def ofE (L : List K4) (x : Int) : List K4 := L.filter fun s => decide (s.1 = x)
theorem ofE_snoc (L : List K4) (s : K4) (x : Int) : ofE (L ++ [s]) x = if s.1 = x then ofE L x ++ [s] else ofE L x := by
  unfold ofE
  rw [List.filter_append]
  by_cases h : s.1 = x <;> simp [h]
theorem mem_ofE {L : List K4} {s : K4} {x : Int} : s ∈ ofE L x ↔ s ∈ L ∧ s.1 = x := by simp [ofE]
theorem hel_ofE (L : List K4) (x p : Int) : hel (ofE L x) x p = hel L x p := by
  unfold hel ofE
  rw [List.foldl_filter]
  congr 1
  funext h s
  by_cases e : s.1 = x
  · simp [e]
  · rw [stp_no (cnt_no (fun q => e q.1))]; simp [e]
theorem upv_mem {L : List K4} {x p : Int} (h : upv L x p ≠ 0) : x ∈ L.map (fun s => s.1) ∧ upv L x p ∈ L.map (fun s => s.2.1) := by
  unfold upv at *
  rcases hel_or L x p with e | ⟨e, e2⟩
  · rw [e] at h; exact absurd rfl h
  · exact ⟨List.mem_map.2 ⟨_, e, e2⟩, List.mem_map.2 ⟨_, e, rfl⟩⟩
/-- The entities that have stakes. -/
def ents : List K4 → List Int
  | [] => []
  | s :: L => if s.1 ∈ ents L then ents L else s.1 :: ents L
theorem ents_nodup : ∀ L : List K4, (ents L).Nodup
  | [] => List.nodup_nil
  | s :: L => by
    unfold ents
    split
    · exact ents_nodup L
    · rename_i h; exact List.nodup_cons.2 ⟨h, ents_nodup L⟩
theorem mem_ents {x : Int} : ∀ {L : List K4}, x ∈ ents L ↔ x ∈ L.map (fun s => s.1)
  | [] => by simp [ents]
  | s :: L => by
    unfold ents
    rw [List.map_cons, List.mem_cons]
    split
    · rename_i h
      rw [mem_ents] at h ⊢
      exact ⟨Or.inr, fun q => q.elim (fun q => q ▸ h) id⟩
    · rw [List.mem_cons, mem_ents]
theorem ents_len (L : List K4) : (ents L).length ≤ L.length := by
  have := nodup_le (ents L) (L.map fun s => s.1) (ents_nodup L) (fun x hx => mem_ents.1 hx)
  rwa [List.length_map] at this

/-- So many steps up. -/
def way (f : Int → Int) : Nat → Int → Int
  | 0, x => x
  | k + 1, x => f (way f k x)
theorem way_add (f : Int → Int) (a : Nat) (x : Int) : ∀ b, way f (a + b) x = way f b (way f a x)
  | 0 => rfl
  | b + 1 => by show f (way f (a + b) x) = _; rw [way_add f a x b]; rfl
theorem way_zero {f : Int → Int} (h0 : f 0 = 0) : ∀ k, way f k 0 = 0
  | 0 => rfl
  | k + 1 => by show f (way f k 0) = 0; rw [way_zero h0 k, h0]
/-- It comes back to itself. -/
def Back (f : Int → Int) (e : Int) : Prop := ∃ k, 1 ≤ k ∧ way f k e = e
theorem least18 {P : Nat → Prop} : ∀ {k : Nat}, P k → ∃ d, d ≤ k ∧ P d ∧ ∀ j, P j → d ≤ j := by
  intro k
  induction k using Nat.strongRecOn with
  | ind k ih =>
    intro h
    by_cases e : ∃ j, j < k ∧ P j
    · obtain ⟨j, h1, h2⟩ := e
      obtain ⟨d, q1, q2, q3⟩ := ih j h1 h2
      exact ⟨d, by omega, q2, q3⟩
    · exact ⟨k, Nat.le_refl _, h, fun j hj => Nat.le_of_not_lt fun q => e ⟨j, q, hj⟩⟩
/-- Steps that are all different, and none of them the end, are no more than there are entities. -/
theorem way_few {f : Int → Int} {e : Int} {U : List Int} {k : Nat} (hd : ∀ i j, i < j → j < k → way f i e ≠ way f j e) (hU : ∀ j, j < k → way f j e ∈ U) : k ≤ U.length := by
  have h := nodup_le ((List.range k).map fun j => way f j e) U (List.pairwise_map.2 (List.pairwise_lt_range.imp_of_mem fun {i j} hi hj hlt => hd i j hlt (List.mem_range.1 hj))) (fun x hx => by
    obtain ⟨j, hj, rfl⟩ := List.mem_map.1 hx
    exact hU j (List.mem_range.1 hj))
  simpa using h
theorem back_short {f : Int → Int} {e : Int} {U : List Int} (h0 : f 0 = 0) (he : e ≠ 0) (hU : ∀ x, f x ≠ 0 → x ∈ U) (h : Back f e) : ∃ k, 1 ≤ k ∧ k ≤ U.length ∧ way f k e = e := by
  obtain ⟨k, hk⟩ := h
  obtain ⟨d, h1, ⟨h2, h3⟩, h4⟩ := least18 (P := fun j => 1 ≤ j ∧ way f j e = e) hk
  refine ⟨d, h2, way_few (f := f) (e := e) (fun i j hij hjd q => ?_) (fun j hj => hU _ fun q => ?_), h3⟩
  · have e1 : way f (i + (d - j)) e = e := by
      rw [way_add, q, ← way_add, show j + (d - j) = d by omega, h3]
    have := h4 (i + (d - j)) ⟨by omega, e1⟩
    omega
  · have e1 : way f (j + 1) e = 0 := q
    have e2 : way f d e = 0 := by rw [show d = (j + 1) + (d - (j + 1)) by omega, way_add, e1, way_zero h0]
    exact he (h3.symm.trans e2)
def bck (f : Int → Int) (c : Nat) (e : Int) : Bool := (List.range c).any fun k => decide (way f (k + 1) e = e)
theorem bck_is {f : Int → Int} {c : Nat} {e : Int} : bck f c e = true ↔ ∃ k, 1 ≤ k ∧ k ≤ c ∧ way f k e = e := by
  unfold bck
  rw [List.any_eq_true]
  constructor
  · rintro ⟨k, hk, h⟩
    exact ⟨k + 1, by omega, by have := List.mem_range.1 hk; omega, by simpa using h⟩
  · rintro ⟨k, h1, h2, h3⟩
    exact ⟨k - 1, List.mem_range.2 (by omega), by rw [show k - 1 + 1 = k by omega]; simpa using h3⟩
/-- The next one above. -/
def nx (L : List K4) (p x : Int) : Int := if x = 0 then 0 else upv L x p
theorem nx_zero (L : List K4) (p : Int) : nx L p 0 = 0 := if_pos rfl
theorem nx_ne {L : List K4} {p x : Int} (h : x ≠ 0) : nx L p x = upv L x p := if_neg h
theorem nx_mem {L : List K4} {p x : Int} (h : nx L p x ≠ 0) : x ∈ L.map (fun s => s.1) ∧ nx L p x ∈ L.map (fun s => s.2.1) := by
  have hx : x ≠ 0 := fun q => h (by rw [q]; exact nx_zero L p)
  rw [nx_ne hx] at h ⊢
  exact upv_mem h
/-- It comes back to itself in some period. -/
def goes (L : List K4) (e : Int) : Bool := (List.range 24).any fun p => bck (nx L (p : Int)) L.length e
theorem bck_back {L : List K4} {p e : Int} (he : e ≠ 0) : bck (nx L p) L.length e = true ↔ Back (nx L p) e := by
  rw [bck_is]
  constructor
  · rintro ⟨k, h1, _, h3⟩; exact ⟨k, h1, h3⟩
  · intro h
    have := back_short (U := L.map fun s => s.1) (nx_zero L p) he (fun x hx => (nx_mem hx).1) h
    rwa [List.length_map] at this
theorem goes_is {L : List K4} {e : Int} (he : e ≠ 0) : goes L e = true ↔ ∃ p : Nat, p < 24 ∧ Back (nx L (p : Int)) e := by
  unfold goes
  rw [List.any_eq_true]
  constructor
  · rintro ⟨p, hp, h⟩; exact ⟨p, List.mem_range.1 hp, (bck_back he).1 h⟩
  · rintro ⟨p, hp, h⟩; exact ⟨p, List.mem_range.2 hp, (bck_back he).2 h⟩
theorem back_ents {L : List K4} {p e : Int} (he : e ≠ 0) : Back (nx L p) e ↔ ∃ k, 1 ≤ k ∧ k ≤ (ents L).length ∧ way (nx L p) k e = e := by
  constructor
  · exact back_short (nx_zero L p) he (fun x hx => mem_ents.2 (nx_mem hx).1)
  · rintro ⟨k, h1, _, h3⟩; exact ⟨k, h1, h3⟩
/-- What is wrong with a stake by itself; behind others. -/
def wrg (s : K4) (n : Int) : Int := if s.1 < 1 ∨ n < s.1 ∨ s.2.1 < 0 ∨ n < s.2.1 then 20 else if s.2.2.1 < 0 ∨ 10000 < s.2.2.1 ∨ (s.2.1 = 0 ∧ s.2.2.1 ≠ 10000) then 12 else if s.2.2.2 < 0 ∨ 24 ≤ s.2.2.2 then 22 else 0
def nxe (A : List K4) (s : K4) (n : Int) : Int := if wrg s n ≠ 0 then wrg s n else if goes (A ++ [s]) s.1 = true then 26 else 0
theorem wrg_zero {s : K4} {n : Int} (h : wrg s n = 0) : (1 ≤ s.1 ∧ s.1 ≤ n) ∧ (0 ≤ s.2.1 ∧ s.2.1 ≤ n) ∧ (0 ≤ s.2.2.1 ∧ s.2.2.1 ≤ 10000) ∧ (s.2.1 = 0 → s.2.2.1 = 10000) ∧ 0 ≤ s.2.2.2 ∧ s.2.2.2 < 24 := by
  unfold wrg at h
  split at h
  · omega
  · split at h
    · omega
    · split at h
      · omega
      · omega
theorem nxe_zero {A : List K4} {s : K4} {n : Int} (h : nxe A s n = 0) : wrg s n = 0 ∧ goes (A ++ [s]) s.1 = false := by
  unfold nxe at h
  split at h
  · omega
  · split at h
    · omega
    · rename_i h1 h2
      exact ⟨by omega, by simpa using h2⟩
theorem nxe_in (A : List K4) (s : K4) (n : Int) : 0 ≤ nxe A s n ∧ nxe A s n ≤ 26 := by
  unfold nxe wrg; split <;> split <;> (try split) <;> (try split) <;> omega
/-- The place of the first one that may not be. -/
def bad18 (L : List K4) (n : Int) (j : Nat) : Bool := decide (nxe (L.take j) (L.getD j z4) n ≠ 0)
def fst18 (L : List K4) (n : Int) : Nat := (List.range L.length).findIdx (bad18 L n)
theorem fst18_le (L : List K4) (n : Int) : fst18 L n ≤ L.length := by have := List.findIdx_le_length (p := bad18 L n) (xs := List.range L.length); simpa [fst18] using this
theorem fst18_is {L : List K4} {n : Int} {k : Nat} (hk : k ≤ L.length) (h : ∀ j, j < k → nxe (L.take j) (L.getD j z4) n = 0) (h2 : k = L.length ∨ nxe (L.take k) (L.getD k z4) n ≠ 0) : fst18 L n = k := by
  unfold fst18
  rcases Nat.lt_or_ge k L.length with q | q
  · rw [List.findIdx_eq (by simpa using q)]
    refine ⟨?_, fun j hj => ?_⟩
    · rcases h2 with h2 | h2
      · omega
      · simpa [bad18] using h2
    · have := h j hj
      simpa [bad18] using this
  · have e : (List.range L.length).findIdx (bad18 L n) = (List.range L.length).length := List.findIdx_eq_length.2 fun x hx => by
      have := h x (by have := List.mem_range.1 hx; omega)
      simpa [bad18] using this
    rw [e, List.length_range]; omega
theorem fst18_ok {L : List K4} {n : Int} {j : Nat} (h : j < fst18 L n) : nxe (L.take j) (L.getD j z4) n = 0 := by
  have hl := fst18_le L n
  unfold fst18 at h hl
  have := List.not_of_lt_findIdx h
  simpa [bad18] using this
def chV (L : List K4) (n : Int) : Int := if 400 < L.length then 0 else (fst18 L n : Int)
def chE (L : List K4) (n : Int) : Int := if 400 < L.length then 3 else if fst18 L n < L.length then nxe (L.take (fst18 L n)) (L.getD (fst18 L n) z4) n else 0
def adL (L : List K4) (s : K4) (n : Int) : List K4 := if 400 ≤ L.length then [] else if nxe L s n = 0 then L ++ [s] else []
def adE (L : List K4) (s : K4) (n : Int) : Int := if 400 ≤ L.length then 3 else nxe L s n

/-- All above, so many of them. -/
def abv (f : Int → Int) (m : Nat) (e : Int) : List Int := (List.range m).map fun j => way f (j + 1) e
theorem abv_succ (f : Int → Int) (m : Nat) (e : Int) : abv f (m + 1) e = abv f m e ++ [way f (m + 1) e] := by
  unfold abv; rw [List.range_succ, List.map_append]; rfl
theorem abv_len (f : Int → Int) (m : Nat) (e : Int) : (abv f m e).length = m := by simp [abv]
theorem mem_abv {f : Int → Int} {m : Nat} {e z : Int} : z ∈ abv f m e ↔ ∃ j, 1 ≤ j ∧ j ≤ m ∧ way f j e = z := by
  unfold abv
  rw [List.mem_map]
  constructor
  · rintro ⟨j, hj, h⟩; exact ⟨j + 1, by omega, by have := List.mem_range.1 hj; omega, h⟩
  · rintro ⟨j, h1, h2, h3⟩; exact ⟨j - 1, List.mem_range.2 (by omega), by rw [show j - 1 + 1 = j by omega]; exact h3⟩
theorem abv_end {f : Int → Int} {m : Nat} {e : Int} (h0 : f 0 = 0) (he : e ≠ 0) (h : way f (m + 1) e = 0 ∨ way f (m + 1) e ∈ abv f m e) : e ∈ abv f m e ↔ Back f e := by
  constructor
  · intro q
    obtain ⟨j, h1, _, h3⟩ := mem_abv.1 q
    exact ⟨j, h1, h3⟩
  · have hc : ∀ k, way f (k + 1) e ∈ abv f m e ∨ way f (k + 1) e = 0 := by
      intro k
      induction k with
      | zero =>
        rcases Nat.eq_zero_or_pos m with r | r
        · subst r; exact h.symm
        · exact Or.inl (mem_abv.2 ⟨1, by omega, by omega, rfl⟩)
      | succ k ih =>
        rcases ih with q | q
        · obtain ⟨j, h1, h2, h3⟩ := mem_abv.1 q
          have e1 : way f (k + 1 + 1) e = way f (j + 1) e := by show f (way f (k + 1) e) = f (way f j e); rw [h3]
          rw [e1]
          rcases Nat.lt_or_ge j m with r | r
          · exact Or.inl (mem_abv.2 ⟨j + 1, by omega, by omega, rfl⟩)
          · rw [show j = m by omega]; exact h.symm
        · exact Or.inr (by show f (way f (k + 1) e) = 0; rw [q, h0])
    rintro ⟨k, h1, h2⟩
    rcases hc (k - 1) with q | q <;> rw [show k - 1 + 1 = k by omega, h2] at q
    · exact q
    · exact absurd q he
theorem abv_few {L : List K4} {p e : Int} {m : Nat} (hn : (abv (nx L p) m e).Nodup) (hz : ∀ z ∈ abv (nx L p) m e, z ≠ 0) : m ≤ L.length := by
  have := nodup_le _ (L.map fun s => s.2.1) hn (fun z hz' => by
    obtain ⟨j, h1, h2, h3⟩ := mem_abv.1 hz'
    have hne := hz z hz'
    obtain ⟨i, rfl⟩ : ∃ i, j = i + 1 := ⟨j - 1, by omega⟩
    have h4 : nx L p (way (nx L p) i e) = z := h3
    rw [← h4] at hne ⊢
    exact (nx_mem hne).2)
  rw [abv_len, List.length_map] at this
  exact this

/-- At which periods an entity's stakes begin. -/
def frm (L : List K4) (x : Int) : List Int := rise ((ofE L x).map fun s => s.2.2.2)
end Go.Proofs.Ytebjmnppeohdiaa
