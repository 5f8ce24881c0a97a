/-
  The words of layer 22: rows of locks (an entity and a period), the last period of those that count, what is wrong with one, and what adding one tells. No Go function is walked here. No conditions.
-/
import Derived.Test.YtadbelkckeokjaaMath
namespace Go.Proofs.Ytadbelkckeokjaa
set_option linter.unusedSimpArgs false
set_option linter.unusedVariables false

/-- A lock: its entity, its period. -/
abbrev LkT := Int × Int
abbrev zL : LkT := (0, 0)
def okL (s : LkT) : Prop := InR s.1 ∧ InR s.2
/-- The greatest period of the locks that count, -1 if there is none. -/
def lat (p : Int → Bool) (L : List LkT) : Int := L.foldl (fun m s => if p s.1 then max m s.2 else m) (-1)
theorem lat_nil (p : Int → Bool) : lat p [] = -1 := rfl
theorem lat_app (p : Int → Bool) (L : List LkT) (s : LkT) : lat p (L ++ [s]) = if p s.1 then max (lat p L) s.2 else lat p L := by simp [lat]
theorem lat_cong {p q : Int → Bool} (h : ∀ z, p z = q z) (L : List LkT) : lat p L = lat q L := by rw [show p = q from funext h]
/-- That of one entity. -/
def las (L : List LkT) (e : Int) : Int := lat (fun z => decide (z = e)) L
theorem las_app (L : List LkT) (s : LkT) (e : Int) : las (L ++ [s]) e = if s.1 = e then max (las L e) s.2 else las L e := by
  unfold las
  rw [lat_app]
  by_cases h : s.1 = e <;> simp [h]
theorem lat_low (p : Int → Bool) (L : List LkT) : -1 ≤ lat p L := by
  have h : ∀ (L : List LkT) (m : Int), m ≤ L.foldl (fun m s => if p s.1 then max m s.2 else m) m := by
    intro L
    induction L with
    | nil => intro m; exact Int.le_refl _
    | cons s L ih =>
      intro m
      simp only [List.foldl_cons]
      refine Int.le_trans ?_ (ih _)
      split
      · omega
      · exact Int.le_refl _
  exact h L (-1)
theorem lat_up (p : Int → Bool) (L : List LkT) (hL : ∀ s ∈ L, okL s) : lat p L ≤ 9223372036854775807 := by
  have h : ∀ (L : List LkT) (m : Int), m ≤ 9223372036854775807 → (∀ s ∈ L, okL s) → L.foldl (fun m s => if p s.1 then max m s.2 else m) m ≤ 9223372036854775807 := by
    intro L
    induction L with
    | nil => intro m h _; exact h
    | cons s L ih =>
      intro m h hL
      simp only [List.foldl_cons]
      refine ih _ ?_ (fun u hu => hL u (List.mem_cons_of_mem _ hu))
      have := (hL s (List.mem_cons_self)).2.2
      split
      · omega
      · exact h
  exact h L (-1) (by omega) hL
theorem lat_in (p : Int → Bool) (L : List LkT) (hL : ∀ s ∈ L, okL s) : InR (lat p L) := by
  have h1 := lat_low p L; have h2 := lat_up p L hL
  exact ⟨by omega, h2⟩
/-- What is wrong with one behind those. -/
def wrL (L : List LkT) (x : LkT) (n : Int) : Int := if x.1 < 1 ∨ n < x.1 then 20 else if x.2 < 0 ∨ 24 ≤ x.2 then 22 else if x.2 ≤ las L x.1 then 35 else 0
def bad22 (L : List LkT) (n : Int) (i : Nat) : Bool := decide (wrL (L.take i) (L.getD i zL) n ≠ 0)
/-- The place of the first that may not be. -/
def fst22 (L : List LkT) (n : Int) : Nat := (List.range L.length).findIdx (bad22 L n)
theorem fst22_is {L : List LkT} {n : Int} {k : Nat} (hk : k ≤ L.length) (h : ∀ j, j < k → wrL (L.take j) (L.getD j zL) n = 0) (h2 : k = L.length ∨ wrL (L.take k) (L.getD k zL) n ≠ 0) : fst22 L n = k := by
  unfold fst22
  rcases Nat.lt_or_ge k L.length with q | q
  · rw [List.findIdx_eq (by simpa using q)]
    refine ⟨?_, fun j hj => ?_⟩
    · rcases h2 with h2 | h2
      · omega
      · simpa [bad22] using h2
    · have := h j hj
      simpa [bad22] using this
  · have e : (List.range L.length).findIdx (bad22 L n) = (List.range L.length).length := List.findIdx_eq_length.2 fun x hx => by
      have := h x (by have := List.mem_range.1 hx; omega)
      simpa [bad22] using this
    rw [e, List.length_range]; omega
def chV (L : List LkT) (n : Int) : Int := if 400 < L.length then 0 else (fst22 L n : Int)
def chE (L : List LkT) (n : Int) : Int := if 400 < L.length then 3 else if fst22 L n < L.length then wrL (L.take (fst22 L n)) (L.getD (fst22 L n) zL) n else 0
/-- What Add tells. -/
def adE (L : List LkT) (x : LkT) (n : Int) : Int := if 400 ≤ L.length then 3 else wrL L x n
def adL (L : List LkT) (x : LkT) (n : Int) : List LkT := if adE L x n = 0 then L ++ [x] else []
theorem adL_yes {L : List LkT} {x : LkT} {n : Int} (h : adE L x n = 0) : adL L x n = L ++ [x] := if_pos h
theorem adL_no {L : List LkT} {x : LkT} {n : Int} (h : adE L x n ≠ 0) : adL L x n = [] := if_neg h
theorem adE_zero {L : List LkT} {x : LkT} {n : Int} (h : adE L x n = 0) : las L x.1 < x.2 := by
  unfold adE wrL at h
  split at h
  · omega
  · split at h
    · omega
    · split at h
      · omega
      · split at h
        · omega
        · rename_i q; omega
/-- Behind one more that may be. -/
theorem las_own {L : List LkT} {x : LkT} {n : Int} (h : adE L x n = 0) : las (L ++ [x]) x.1 = x.2 := by
  rw [las_app, if_pos rfl]
  have := adE_zero h
  omega
theorem stays_is {L : List LkT} {x : LkT} {n : Int} (h : adE L x n = 0) (e p : Int) : decide (p ≤ las (L ++ [x]) e) = (decide (p ≤ las L e) || (decide (e = x.1) && decide (p ≤ x.2))) := by
  rw [las_app]
  by_cases q : x.1 = e
  · subst q
    have := adE_zero h
    simp only [if_true, decide_true, Bool.true_and]
    by_cases q1 : p ≤ las L x.1
    · simp [q1]; omega
    · by_cases q2 : p ≤ x.2
      · simp [q1, q2]; omega
      · simp [q1, q2]; omega
  · rw [if_neg q]
    have : decide (e = x.1) = false := decide_eq_false (fun h => q h.symm)
    rw [this]; simp
/-- The entities up to m that are not locked in a period. -/
def opn (L : List LkT) (p : Int) (m : Nat) : List Int := ((List.range m).map fun (i : Nat) => ((i : Int) + 1)).filter fun e => !decide (p ≤ las L e)
theorem opn_succ (L : List LkT) (p : Int) (k : Nat) : opn L p (k + 1) = if decide (p ≤ las L ((k : Int) + 1)) then opn L p k else opn L p k ++ [(k : Int) + 1] := by
  unfold opn
  rw [List.range_succ, List.map_append, List.filter_append]
  simp only [List.map_cons, List.map_nil]
  by_cases q : p ≤ las L ((k : Int) + 1) <;> simp [q]
theorem opn_len (L : List LkT) (p : Int) (k : Nat) : (opn L p k).length ≤ k := by
  unfold opn
  exact Nat.le_trans (List.length_filter_le _ _) (by simp)
end Go.Proofs.Ytadbelkckeokjaa
