/-
  What is reached by reading, in plain words: ways of so many steps; the steps of each node; a walk that takes the nearest ones first. No Go function is walked here.
-/
import Derived.Test.YtpjnpmdpabnjkaaGrM
namespace Go.Proofs.Ytpjnpmdpabnjkaa
open Go.RowKit
set_option linter.unusedSimpArgs false
set_option linter.unusedVariables false

/-- A way of k steps from one of L to a node: a step leads from u to one of N u. -/
def Way (n : Nat) (N : Nat → List Int) (L : List Int) : Nat → Nat → Prop
  | 0, v => v < n ∧ (v : Int) ∈ L
  | k + 1, v => v < n ∧ ∃ u, Way n N L k u ∧ (v : Int) ∈ N u
section
variable {n : Nat} {N : Nat → List Int} {L : List Int}
theorem Way.lt : ∀ {k v : Nat}, Way n N L k v → v < n
  | 0, _, h => h.1
  | _ + 1, _, h => h.1
theorem least {P : Nat → Prop} : ∀ {k : Nat}, P k → ∃ d, d ≤ k ∧ P d ∧ ∀ j, P j → d ≤ j := by
  intro k
  induction k using Nat.strongRecOn with
  | ind k ih =>
    intro h
    by_cases e : ∃ j, j < k ∧ P j
    · obtain ⟨j, h1, h2⟩ := e
      obtain ⟨d, q1, q2, q3⟩ := ih j h1 h2
      exact ⟨d, by omega, q2, q3⟩
    · exact ⟨k, Nat.le_refl _, h, fun j hj => Nat.le_of_not_lt fun q => e ⟨j, q, hj⟩⟩
/-- A shortest way's nodes are all different. -/
theorem way_chain : ∀ {d v : Nat}, Way n N L d v → (∀ j, Way n N L j v → d ≤ j) → ∃ Q : List Int, Q.length = d + 1 ∧ Q.Nodup ∧ ∀ x ∈ Q, gnd n x ∧ ∃ j, j ≤ d ∧ Way n N L j x.toNat
  | 0, v, h, _ => ⟨[(v : Int)], rfl, by simp, fun x hx => by
      rw [List.mem_singleton.1 hx]
      exact ⟨⟨by omega, by have := h.lt; omega⟩, 0, Nat.le_refl _, by simpa using h⟩⟩
  | d + 1, v, h, hm => by
    obtain ⟨hv, u, hu, hvu⟩ := h
    obtain ⟨Q, q1, q2, q3⟩ := way_chain hu (fun j hj => by have := hm (j + 1) ⟨hv, u, hj, hvu⟩; omega)
    refine ⟨(v : Int) :: Q, by simp [q1], List.nodup_cons.2 ⟨fun q => ?_, q2⟩, fun x hx => ?_⟩
    · obtain ⟨_, j, hj, hw⟩ := q3 _ q
      have := hm j (by simpa using hw)
      omega
    · rcases List.mem_cons.1 hx with rfl | hx
      · exact ⟨⟨by omega, by omega⟩, d + 1, Nat.le_refl _, by rw [Int.toNat_natCast]; exact ⟨hv, u, hu, hvu⟩⟩
      · obtain ⟨h1, j, hj, hw⟩ := q3 x hx
        exact ⟨h1, j, by omega, hw⟩
theorem way_short {k v : Nat} (h : Way n N L k v) : ∃ d, d < n ∧ d ≤ k ∧ Way n N L d v ∧ ∀ j, Way n N L j v → d ≤ j := by
  obtain ⟨d, h1, h2, h3⟩ := least (P := fun j => Way n N L j v) h
  obtain ⟨Q, q1, q2, q3⟩ := way_chain h2 h3
  have := nodup_len q2 fun x hx => (q3 x hx).1
  exact ⟨d, by omega, h1, h2, h3⟩

/-- S tells the steps of each node. -/
structure IsSt (n : Nat) (N : Nat → List Int) (L : List Int) (S : List Int) : Prop where
  len : S.length = n
  at' : ∀ v, v < n → (S.getD v 0 = -1 ∧ ∀ k, ¬ Way n N L k v) ∨ ∃ d : Nat, S.getD v 0 = (d : Int) ∧ Way n N L d v ∧ ∀ j, Way n N L j v → d ≤ j
theorem IsSt.uniq {S T : List Int} (h : IsSt n N L S) (k : IsSt n N L T) : S = T := by
  refine List.ext_getElem (h.len.trans k.len.symm) fun v h1 h2 => ?_
  have hv : v < n := h.len ▸ h1
  have e1 : S.getD v 0 = S[v] := by simp [List.getD, h1]
  have e2 : T.getD v 0 = T[v] := by simp [List.getD, h2]
  rw [← e1, ← e2]
  rcases h.at' v hv with ⟨p1, p2⟩ | ⟨d, p1, p2, p3⟩ <;> rcases k.at' v hv with ⟨q1, q2⟩ | ⟨c, q1, q2, q3⟩
  · rw [p1, q1]
  · exact absurd q2 (p2 c)
  · exact absurd p2 (q2 d)
  · have := p3 c q2
    have := q3 d p2
    rw [p1, q1]; omega
/-- What is sound, and no further than any way, are the steps. -/
theorem isst_of {S : List Int} (hl : S.length = n) (h1 : ∀ v, v < n → S.getD v 0 = -1 ∨ ∃ d : Nat, S.getD v 0 = (d : Int) ∧ Way n N L d v)
    (h2 : ∀ k v, Way n N L k v → S.getD v 0 ≠ -1 ∧ S.getD v 0 ≤ (k : Int)) : IsSt n N L S :=
  ⟨hl, fun v hv => by
    rcases h1 v hv with e | ⟨d, e, hw⟩
    · exact Or.inl ⟨e, fun k hk => (h2 k v hk).1 e⟩
    · exact Or.inr ⟨d, e, hw, fun j hj => by have := (h2 j v hj).2; omega⟩⟩
theorem IsSt.reached {S : List Int} (h : IsSt n N L S) {v : Nat} (hv : v < n) : S.getD v 0 ≠ -1 ↔ ∃ k, Way n N L k v := by
  rcases h.at' v hv with ⟨p1, p2⟩ | ⟨d, p1, p2, _⟩
  · exact ⟨fun q => absurd p1 q, fun ⟨k, hk⟩ => absurd hk (p2 k)⟩
  · exact ⟨fun _ => ⟨d, p2⟩, fun _ => by omega⟩
/-- The nodes that are reached, rising. -/
def fnd (S : List Int) : List Int := ((List.range S.length).filter fun v => decide (S.getD v 0 ≠ -1)).map fun v => ((v : Nat) : Int)
def lst (I : List Bool) : List Int := ((List.range I.length).filter fun v => I.getD v false).map fun v => ((v : Nat) : Int)
theorem fnd_lst {S : List Int} {I : List Bool} (h : IsSt n N L S) (hl : I.length = n) (hI : ∀ v, v < n → (I.getD v false = true ↔ ∃ k, Way n N L k v)) : fnd S = lst I := by
  unfold fnd lst
  rw [h.len, hl]
  congr 1
  refine List.filter_congr fun v hv => ?_
  have hv := List.mem_range.1 hv
  have h1 := h.reached hv
  have h2 := hI v hv
  cases hb : I.getD v false with
  | true => exact decide_eq_true (h1.2 (h2.1 hb))
  | false => exact decide_eq_false fun q => by have := h2.2 (h1.1 q); rw [hb] at this; cases this
theorem mem_fnd {S : List Int} (x : Int) : x ∈ fnd S ↔ gnd S.length x ∧ S.getD x.toNat 0 ≠ -1 := by
  unfold fnd gnd
  rw [List.mem_map]
  constructor
  · rintro ⟨v, hv, rfl⟩
    obtain ⟨h1, h2⟩ := List.mem_filter.1 hv
    have := List.mem_range.1 h1
    exact ⟨⟨by omega, by omega⟩, by simpa using h2⟩
  · rintro ⟨⟨h1, h2⟩, h3⟩
    exact ⟨x.toNat, List.mem_filter.2 ⟨List.mem_range.2 (by omega), by simpa using h3⟩, by omega⟩
theorem fnd_len (S : List Int) : (fnd S).length ≤ S.length := by
  unfold fnd; rw [List.length_map]
  exact Nat.le_trans (List.length_filter_le _ _) (by simp)
theorem lst_len (I : List Bool) : (lst I).length ≤ I.length := by
  unfold lst; rw [List.length_map]
  exact Nat.le_trans (List.length_filter_le _ _) (by simp)
/-- The first k of them. -/
def fndk (S : List Int) (k : Nat) : List Int := ((List.range k).filter fun v => decide (S.getD v 0 ≠ -1)).map fun v => ((v : Nat) : Int)
def lstk (I : List Bool) (k : Nat) : List Int := ((List.range k).filter fun v => I.getD v false).map fun v => ((v : Nat) : Int)
theorem fndk_step (S : List Int) (k : Nat) : fndk S (k + 1) = if S.getD k 0 = -1 then fndk S k else fndk S k ++ [(k : Int)] := by
  unfold fndk
  rw [List.range_succ, List.filter_append]
  by_cases h : S.getD k 0 = -1
  · rw [if_pos h]; simp only [List.filter_cons, decide_eq_false (fun q : S.getD k 0 ≠ -1 => q h)]; simp
  · rw [if_neg h]; simp only [List.filter_cons, decide_eq_true h]; simp
theorem lstk_step (I : List Bool) (k : Nat) : lstk I (k + 1) = if I.getD k false = true then lstk I k ++ [(k : Int)] else lstk I k := by
  unfold lstk
  rw [List.range_succ, List.filter_append]
  cases h : I.getD k false
  · rw [if_neg (by simp)]; simp only [List.filter_cons, h]; simp
  · rw [if_pos rfl]; simp only [List.filter_cons, h]; simp
theorem fndk_len (S : List Int) (k : Nat) : (fndk S k).length ≤ k := by
  unfold fndk; rw [List.length_map]
  exact Nat.le_trans (List.length_filter_le _ _) (by simp)
theorem lstk_len (I : List Bool) (k : Nat) : (lstk I k).length ≤ k := by
  unfold lstk; rw [List.length_map]
  exact Nat.le_trans (List.length_filter_le _ _) (by simp)

/-- The walk that takes the nearest first: S the steps, Q those that came, none further off than F. -/
structure BP (n : Nat) (N : Nat → List Int) (L S Q : List Int) (F : Nat) : Prop where
  sl : S.length = n
  nodes : ∀ x ∈ Q, gnd n x
  nd : Q.Nodup
  mem : ∀ v, v < n → ((v : Int) ∈ Q ↔ S.getD v 0 ≠ -1)
  way : ∀ v, v < n → S.getD v 0 ≠ -1 → ∃ d : Nat, S.getD v 0 = (d : Int) ∧ Way n N L d v
  mono : ∀ i j, i ≤ j → j < Q.length → S.getD (Q.getD i 0).toNat 0 ≤ S.getD (Q.getD j 0).toNat 0
  top : ∀ j, j < Q.length → S.getD (Q.getD j 0).toNat 0 ≤ (F : Int)
  low : ∀ j, j < Q.length → S.getD (Q.getD j 0).toNat 0 ≤ (j : Int)
/-- One comes. -/
def cS (S : List Int) (x : Int) (F : Nat) : List Int := if gnd S.length x ∧ S.getD x.toNat 0 = -1 then S.set x.toNat (F : Int) else S
def cQ (S Q : List Int) (x : Int) : List Int := if gnd S.length x ∧ S.getD x.toNat 0 = -1 then Q ++ [x] else Q
theorem getD_set {S : List Int} {v : Nat} (hv : v < S.length) (z : Int) (u : Nat) : (S.set v z).getD u 0 = if u = v then z else S.getD u 0 := by
  by_cases e : u = v
  · subst e; simp [List.getD, hv]
  · rw [if_neg e]; simp [List.getD, List.getElem?_set, Ne.symm e]
theorem getD_push (Q : List Int) (x : Int) (i : Nat) : (Q ++ [x]).getD i 0 = if i < Q.length then Q.getD i 0 else if i = Q.length then x else 0 := by
  by_cases h : i < Q.length
  · rw [if_pos h]; simp [List.getD, List.getElem?_append, h]
  · rw [if_neg h]
    by_cases e : i = Q.length
    · rw [if_pos e]; subst e; simp [List.getD]
    · rw [if_neg e]; simp [List.getD, List.getElem?_append, h, show ¬ (i - Q.length < 1) by omega]
theorem mem_getD {Q : List Int} {x : Int} (h : x ∈ Q) : ∃ i, i < Q.length ∧ Q.getD i 0 = x := by
  obtain ⟨i, hi, e⟩ := List.getElem_of_mem h
  exact ⟨i, hi, by simp [List.getD, hi, e]⟩
theorem getD_mem {Q : List Int} {i : Nat} (h : i < Q.length) : Q.getD i 0 ∈ Q := by
  simp [List.getD, h]
theorem BP.at {S Q : List Int} {F : Nat} (h : BP n N L S Q F) {i : Nat} (hi : i < Q.length) : gnd n (Q.getD i 0) ∧ (Q.getD i 0).toNat < n ∧ S.getD (Q.getD i 0).toNat 0 ≠ -1 := by
  have h1 := h.nodes _ (getD_mem hi)
  have h2 : (Q.getD i 0).toNat < n := by unfold gnd at h1; omega
  refine ⟨h1, h2, (h.mem _ h2).1 ?_⟩
  rw [show (((Q.getD i 0).toNat : Nat) : Int) = Q.getD i 0 by unfold gnd at h1; omega]
  exact getD_mem hi
theorem BP.len {S Q : List Int} {F : Nat} (h : BP n N L S Q F) : Q.length ≤ n := nodup_len h.nd h.nodes
theorem BP.up {S Q : List Int} {F G : Nat} (h : BP n N L S Q F) (hFG : F ≤ G) : BP n N L S Q G :=
  ⟨h.sl, h.nodes, h.nd, h.mem, h.way, h.mono, fun j hj => by have := h.top j hj; omega, h.low⟩
theorem BP.begin (n : Nat) (N : Nat → List Int) (L : List Int) : BP n N L (List.replicate n (-1)) [] 0 :=
  ⟨by simp, fun x hx => (by cases hx), List.nodup_nil, fun v hv => ⟨fun q => (by cases q), fun q => absurd (by simp [List.getD, hv]) q⟩, fun v hv q => absurd (by simp [List.getD, hv]) q,
    fun i j _ hj => absurd hj (by simp), fun j hj => absurd hj (by simp), fun j hj => absurd hj (by simp)⟩
/-- What stands stays. -/
theorem cS_old {S : List Int} {x : Int} {F : Nat} {v : Nat} (h : S.getD v 0 ≠ -1) : (cS S x F).getD v 0 = S.getD v 0 := by
  unfold cS
  split
  · rename_i hc
    have hv : x.toNat < S.length := by have := hc.1; unfold gnd at this; omega
    rw [getD_set hv]
    split
    · rename_i e; subst e; exact absurd hc.2 h
    · rfl
  · rfl
theorem cQ_old {S Q : List Int} {x : Int} {i : Nat} (h : i < Q.length) : (cQ S Q x).getD i 0 = Q.getD i 0 := by
  unfold cQ; split
  · rw [getD_push, if_pos h]
  · rfl
theorem cQ_len (S Q : List Int) (x : Int) : Q.length ≤ (cQ S Q x).length := by unfold cQ; split <;> simp
theorem cS_len (S : List Int) (x : Int) (F : Nat) : (cS S x F).length = S.length := by unfold cS; split <;> simp
theorem cS_here {S Q : List Int} {x : Int} {F : Nat} (h : BP n N L S Q F) (hx : gnd n x) : (cS S x F).getD x.toNat 0 ≠ -1 ∧ (cS S x F).getD x.toNat 0 ≤ (F : Int) := by
  have hv : x.toNat < S.length := by rw [h.sl]; unfold gnd at hx; omega
  by_cases e : S.getD x.toNat 0 = -1
  · unfold cS
    rw [if_pos ⟨by rw [h.sl]; exact hx, e⟩, getD_set hv, if_pos rfl]
    omega
  · rw [cS_old e]
    refine ⟨e, ?_⟩
    have hm := (h.mem x.toNat (by rw [← h.sl]; exact hv)).2 e
    obtain ⟨j, hj, hq⟩ := mem_getD hm
    have := h.top j hj
    rw [hq, Int.toNat_natCast] at this
    exact this
theorem BP.come {S Q : List Int} {F : Nat} (h : BP n N L S Q F) {x : Int} (hw : gnd n x → Way n N L F x.toNat) (hF : F ≤ Q.length) : BP n N L (cS S x F) (cQ S Q x) F := by
  by_cases hc : gnd S.length x ∧ S.getD x.toNat 0 = -1
  · have hx := hc.1
    rw [h.sl] at hx
    have hv : x.toNat < S.length := by rw [h.sl]; unfold gnd at hx; omega
    have hxv : ((x.toNat : Nat) : Int) = x := by unfold gnd at hx; omega
    have hnx : x ∉ Q := fun q => by
      have := (h.mem x.toNat (by rw [← h.sl]; exact hv)).1 (by rw [hxv]; exact q)
      exact this hc.2
    have hold : ∀ j, j < Q.length → (S.set x.toNat (F : Int)).getD (Q.getD j 0).toNat 0 = S.getD (Q.getD j 0).toNat 0 := fun j hj => by
      rw [getD_set hv, if_neg fun e => (h.at hj).2.2 (by rw [e]; exact hc.2)]
    have hp : ∀ j, j < (Q ++ [x]).length → (S.set x.toNat (F : Int)).getD ((Q ++ [x]).getD j 0).toNat 0 = if j < Q.length then S.getD (Q.getD j 0).toNat 0 else (F : Int) := fun j hj => by
      rw [getD_push]
      by_cases e : j < Q.length
      · rw [if_pos e, if_pos e, hold j e]
      · have e2 : j = Q.length := by simp at hj; omega
        rw [if_neg e, if_neg e, if_pos e2, getD_set hv, if_pos rfl]
    unfold cS cQ
    rw [if_pos hc, if_pos hc]
    refine ⟨by simp [h.sl], fun y hy => ?_, ?_, fun v hvn => ?_, fun v hvn hne => ?_, fun i j hij hj => ?_, fun j hj => ?_, fun j hj => ?_⟩
    · rcases List.mem_append.1 hy with q | q
      · exact h.nodes y q
      · rw [List.mem_singleton.1 q]; exact hx
    · refine List.nodup_append.2 ⟨h.nd, by simp, fun a ha b hb => ?_⟩
      rw [List.mem_singleton.1 hb]
      exact fun e => hnx (e ▸ ha)
    · rw [getD_set hv, List.mem_append, List.mem_singleton]
      by_cases e : v = x.toNat
      · rw [if_pos e]; exact ⟨fun _ => by omega, fun _ => Or.inr (by omega)⟩
      · rw [if_neg e, ← h.mem v hvn]
        exact ⟨fun q => q.elim id fun r => absurd (by omega) e, Or.inl⟩
    · rw [getD_set hv] at hne ⊢
      by_cases e : v = x.toNat
      · rw [if_pos e]; exact ⟨F, rfl, by rw [e]; exact hw hx⟩
      · rw [if_neg e] at hne ⊢; exact h.way v hvn hne
    · rw [hp i (by omega), hp j hj]
      by_cases e : j < Q.length
      · rw [if_pos e, if_pos (by omega)]; exact h.mono i j hij e
      · rw [if_neg e]
        split
        · rename_i q; exact h.top i q
        · omega
    · rw [hp j hj]
      split
      · rename_i q; exact h.top j q
      · omega
    · rw [hp j hj]
      split
      · rename_i q; exact h.low j q
      · simp at hj; omega
  · unfold cS cQ
    rw [if_neg hc, if_neg hc]
    exact h

/-- What is done: those that the first a of Q lead to. -/
def Done (n : Nat) (N : Nat → List Int) (S Q : List Int) (a : Nat) : Prop := ∀ i, i < a → i < Q.length → ∀ x ∈ N (Q.getD i 0).toNat, gnd n x → S.getD x.toNat 0 ≠ -1 ∧ S.getD x.toNat 0 ≤ S.getD (Q.getD i 0).toNat 0 + 1
theorem Done.come {S Q : List Int} {a F : Nat} (h : Done n N S Q a) (hB : BP n N L S Q F) (ha : a ≤ Q.length) (x : Int) (G : Nat) : Done n N (cS S x G) (cQ S Q x) a := fun i hi hl y hy hg => by
  have hl2 : i < Q.length := by omega
  rw [cQ_old hl2] at hy ⊢
  obtain ⟨h1, h2⟩ := h i hi hl2 y hy hg
  rw [cS_old h1, cS_old (hB.at hl2).2.2]
  exact ⟨h1, h2⟩
/-- The first nodes are 0 steps off. -/
def Zero (n : Nat) (L S : List Int) : Prop := ∀ x ∈ L, gnd n x → S.getD x.toNat 0 = 0
theorem Zero.come {S : List Int} (h : Zero n L S) (x : Int) (G : Nat) : Zero n L (cS S x G) := fun y hy hg => by
  have := h y hy hg
  rw [cS_old (by omega)]; exact this
theorem zero_of {S : List Int} (h1 : Zero n L S) {v : Nat} (hv : v < n) (hm : (v : Int) ∈ L) : S.getD v 0 = 0 := by
  have := h1 _ hm ⟨by omega, by omega⟩
  rwa [Int.toNat_natCast] at this
/-- All that came is done. -/
theorem walk_end {S Q : List Int} {F : Nat} (h : BP n N L S Q F) (hz : Zero n L S) (hd : Done n N S Q Q.length) : IsSt n N L S := by
  refine isst_of h.sl (fun v hv => ?_) ?_
  · by_cases e : S.getD v 0 = -1
    · exact Or.inl e
    · exact Or.inr (h.way v hv e)
  · intro k
    induction k with
    | zero => intro v hw; rw [zero_of hz hw.1 hw.2]; omega
    | succ k ih =>
      rintro v ⟨hv, u, hu, hvu⟩
      obtain ⟨h1, h2⟩ := ih u hu
      obtain ⟨i, hi, e⟩ := mem_getD ((h.mem u hu.lt).2 h1)
      have := hd i hi hi (v : Int) (by rw [e, Int.toNat_natCast]; exact hvu) ⟨by omega, by omega⟩
      rw [e] at this
      simp only [Int.toNat_natCast] at this
      omega
theorem all_in {Q : List Int} (h1 : Q.Nodup) (h2 : ∀ x ∈ Q, gnd n x) (h3 : Q.length = n) {v : Nat} (hv : v < n) : (v : Int) ∈ Q := by
  by_cases e : (v : Int) ∈ Q
  · exact e
  · have := nodup_len (n := n) (l := (v : Int) :: Q) (List.nodup_cons.2 ⟨e, h1⟩) fun x hx => by
      rcases List.mem_cons.1 hx with rfl | q
      · exact ⟨by omega, by omega⟩
      · exact h2 x q
    simp at this; omega
/-- All came: no step leads to another one. -/
theorem walk_stop {S Q : List Int} {a F : Nat} (h : BP n N L S Q F) (hz : Zero n L S) (hd : Done n N S Q a) (ha : a < Q.length) (hF : (F : Int) = S.getD (Q.getD a 0).toNat 0 + 1) (hn : Q.length = n) : IsSt n N L S := by
  refine isst_of h.sl (fun v hv => ?_) ?_
  · by_cases e : S.getD v 0 = -1
    · exact Or.inl e
    · exact Or.inr (h.way v hv e)
  · intro k
    induction k with
    | zero => intro v hw; rw [zero_of hz hw.1 hw.2]; omega
    | succ k ih =>
      rintro v ⟨hv, u, hu, hvu⟩
      obtain ⟨h1, h2⟩ := ih u hu
      obtain ⟨i, hi, e⟩ := mem_getD ((h.mem u hu.lt).2 h1)
      obtain ⟨j, hj, e2⟩ := mem_getD (all_in h.nd h.nodes hn hv)
      have hvn := (h.mem v hv).1 (all_in h.nd h.nodes hn hv)
      have ht := h.top j hj
      rw [e2, Int.toNat_natCast] at ht
      refine ⟨hvn, ?_⟩
      by_cases hia : i < a
      · have := (hd i hia hi (v : Int) (by rw [e, Int.toNat_natCast]; exact hvu) ⟨by omega, by omega⟩).2
        rw [e] at this
        simp only [Int.toNat_natCast] at this
        omega
      · have := h.mono a i (by omega) hi
        rw [e, Int.toNat_natCast] at this
        omega
/-- Ways depend on what each step tells alone. -/
theorem Way.of {N M : Nat → List Int} (h : ∀ u, u < n → ∀ v, v < n → ((v : Int) ∈ N u → (v : Int) ∈ M u)) : ∀ {k v : Nat}, Way n N L k v → Way n M L k v
  | 0, _, hw => hw
  | k + 1, v, ⟨hv, u, hu, hvu⟩ => ⟨hv, u, hu.of h, h u hu.lt v hv hvu⟩
end
end Go.Proofs.Ytpjnpmdpabnjkaa
