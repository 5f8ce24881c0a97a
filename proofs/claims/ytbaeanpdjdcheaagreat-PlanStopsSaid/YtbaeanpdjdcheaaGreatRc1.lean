/-
  What is reached by reading, in plain words: ways of so many steps; the steps of each node; a walk that takes the nearest ones first. No Go function is walked here. The document's own way to what is reached: again and again, until nothing more is. In plain words; no Go function is walked here. What is reached, by ways. No Go function is walked here. Steps that are looked through one by one. No Go function is walked here.
-/
import Derived.Test.YtbaeanpdjdcheaaGreatGrM
import Derived.Test.YtbaeanpdjdcheaaGreatGrT0
namespace Go.Proofs.YtbaeanpdjdcheaaGreat
open Go.RowKit
set_option linter.unusedSimpArgs false
set_option linter.unusedVariables false

/- What is reached by reading, in plain words: ways of so many steps; the steps of each node; a walk that takes the nearest ones first. No Go function is walked here. -/
/-- A way of k steps from one of L to a node: a step leads from u to one of N u. -/
def Way (n : Nat) (N : Nat → List Int) (L : List Int) : Nat → Nat → Prop
  | 0, v => v < n ∧ (v : Int) ∈ L
  | k + 1, v => v < n ∧ ∃ u, Way n N L k u ∧ (v : Int) ∈ N u
section
variable {n : Nat} {N : Nat → List Int} {L : List Int}
theorem Way.lt : ∀ {k v : Nat}, Way n N L k v → v < n
  | 0, _, h => h.1
  | _ + 1, _, h => h.1
theorem least {P : Nat → Prop} : ∀ {k : Nat}, P k → ∃ d, d ≤ k ∧ P d ∧ ∀ j, P j → d ≤ j := by
  intro k
  induction k using Nat.strongRecOn with
  | ind k ih =>
    intro h
    by_cases e : ∃ j, j < k ∧ P j
    · obtain ⟨j, h1, h2⟩ := e
      obtain ⟨d, q1, q2, q3⟩ := ih j h1 h2
      exact ⟨d, by omega, q2, q3⟩
    · exact ⟨k, Nat.le_refl _, h, fun j hj => Nat.le_of_not_lt fun q => e ⟨j, q, hj⟩⟩
/-- A shortest way's nodes are all different. -/
theorem way_chain : ∀ {d v : Nat}, Way n N L d v → (∀ j, Way n N L j v → d ≤ j) → ∃ Q : List Int, Q.length = d + 1 ∧ Q.Nodup ∧ ∀ x ∈ Q, gnd n x ∧ ∃ j, j ≤ d ∧ Way n N L j x.toNat
  | 0, v, h, _ => ⟨[(v : Int)], rfl, by simp, fun x hx => by
      rw [List.mem_singleton.1 hx]
      exact ⟨⟨by omega, by have := h.lt; omega⟩, 0, Nat.le_refl _, by simpa using h⟩⟩
  | d + 1, v, h, hm => by
    obtain ⟨hv, u, hu, hvu⟩ := h
    obtain ⟨Q, q1, q2, q3⟩ := way_chain hu (fun j hj => by have := hm (j + 1) ⟨hv, u, hj, hvu⟩; omega)
    refine ⟨(v : Int) :: Q, by simp [q1], List.nodup_cons.2 ⟨fun q => ?_, q2⟩, fun x hx => ?_⟩
    · obtain ⟨_, j, hj, hw⟩ := q3 _ q
      have := hm j (by simpa using hw)
      omega
    · rcases List.mem_cons.1 hx with rfl | hx
      · exact ⟨⟨by omega, by omega⟩, d + 1, Nat.le_refl _, by rw [Int.toNat_natCast]; exact ⟨hv, u, hu, hvu⟩⟩
      · obtain ⟨h1, j, hj, hw⟩ := q3 x hx
        exact ⟨h1, j, by omega, hw⟩
theorem way_short {k v : Nat} (h : Way n N L k v) : ∃ d, d < n ∧ d ≤ k ∧ Way n N L d v ∧ ∀ j, Way n N L j v → d ≤ j := by
  obtain ⟨d, h1, h2, h3⟩ := least (P := fun j => Way n N L j v) h
  obtain ⟨Q, q1, q2, q3⟩ := way_chain h2 h3
  have := nodup_len q2 fun x hx => (q3 x hx).1
  exact ⟨d, by omega, h1, h2, h3⟩

/-- S tells the steps of each node. -/
structure IsSt (n : Nat) (N : Nat → List Int) (L : List Int) (S : List Int) : Prop where
  len : S.length = n
  at' : ∀ v, v < n → (S.getD v 0 = -1 ∧ ∀ k, ¬ Way n N L k v) ∨ ∃ d : Nat, S.getD v 0 = (d : Int) ∧ Way n N L d v ∧ ∀ j, Way n N L j v → d ≤ j
theorem IsSt.uniq {S T : List Int} (h : IsSt n N L S) (k : IsSt n N L T) : S = T := by
  refine List.ext_getElem (h.len.trans k.len.symm) fun v h1 h2 => ?_
  have hv : v < n := h.len ▸ h1
  have e1 : S.getD v 0 = S[v] := by simp [List.getD, h1]
  have e2 : T.getD v 0 = T[v] := by simp [List.getD, h2]
  rw [← e1, ← e2]
  rcases h.at' v hv with ⟨p1, p2⟩ | ⟨d, p1, p2, p3⟩ <;> rcases k.at' v hv with ⟨q1, q2⟩ | ⟨c, q1, q2, q3⟩
  · rw [p1, q1]
  · exact absurd q2 (p2 c)
  · exact absurd p2 (q2 d)
  · have := p3 c q2
    have := q3 d p2
    rw [p1, q1]; omega
/-- What is sound, and no further than any way, are the steps. -/
theorem isst_of {S : List Int} (hl : S.length = n) (h1 : ∀ v, v < n → S.getD v 0 = -1 ∨ ∃ d : Nat, S.getD v 0 = (d : Int) ∧ Way n N L d v)
    (h2 : ∀ k v, Way n N L k v → S.getD v 0 ≠ -1 ∧ S.getD v 0 ≤ (k : Int)) : IsSt n N L S :=
  ⟨hl, fun v hv => by
    rcases h1 v hv with e | ⟨d, e, hw⟩
    · exact Or.inl ⟨e, fun k hk => (h2 k v hk).1 e⟩
    · exact Or.inr ⟨d, e, hw, fun j hj => by have := (h2 j v hj).2; omega⟩⟩
theorem IsSt.reached {S : List Int} (h : IsSt n N L S) {v : Nat} (hv : v < n) : S.getD v 0 ≠ -1 ↔ ∃ k, Way n N L k v := by
  rcases h.at' v hv with ⟨p1, p2⟩ | ⟨d, p1, p2, _⟩
  · exact ⟨fun q => absurd p1 q, fun ⟨k, hk⟩ => absurd hk (p2 k)⟩
  · exact ⟨fun _ => ⟨d, p2⟩, fun _ => by omega⟩
/-- The nodes that are reached, rising. -/
def fnd (S : List Int) : List Int := ((List.range S.length).filter fun v => decide (S.getD v 0 ≠ -1)).map fun v => ((v : Nat) : Int)
def lst (I : List Bool) : List Int := ((List.range I.length).filter fun v => I.getD v false).map fun v => ((v : Nat) : Int)
theorem fnd_lst {S : List Int} {I : List Bool} (h : IsSt n N L S) (hl : I.length = n) (hI : ∀ v, v < n → (I.getD v false = true ↔ ∃ k, Way n N L k v)) : fnd S = lst I := by
  unfold fnd lst
  rw [h.len, hl]
  congr 1
  refine List.filter_congr fun v hv => ?_
  have hv := List.mem_range.1 hv
  have h1 := h.reached hv
  have h2 := hI v hv
  cases hb : I.getD v false with
  | true => exact decide_eq_true (h1.2 (h2.1 hb))
  | false => exact decide_eq_false fun q => by have := h2.2 (h1.1 q); rw [hb] at this; cases this
theorem mem_fnd {S : List Int} (x : Int) : x ∈ fnd S ↔ gnd S.length x ∧ S.getD x.toNat 0 ≠ -1 := by
  unfold fnd gnd
  rw [List.mem_map]
  constructor
  · rintro ⟨v, hv, rfl⟩
    obtain ⟨h1, h2⟩ := List.mem_filter.1 hv
    have := List.mem_range.1 h1
    exact ⟨⟨by omega, by omega⟩, by simpa using h2⟩
  · rintro ⟨⟨h1, h2⟩, h3⟩
    exact ⟨x.toNat, List.mem_filter.2 ⟨List.mem_range.2 (by omega), by simpa using h3⟩, by omega⟩
theorem fnd_len (S : List Int) : (fnd S).length ≤ S.length := by
  unfold fnd; rw [List.length_map]
  exact Nat.le_trans (List.length_filter_le _ _) (by simp)
theorem lst_len (I : List Bool) : (lst I).length ≤ I.length := by
  unfold lst; rw [List.length_map]
  exact Nat.le_trans (List.length_filter_le _ _) (by simp)
/-- The first k of them. -/
def fndk (S : List Int) (k : Nat) : List Int := ((List.range k).filter fun v => decide (S.getD v 0 ≠ -1)).map fun v => ((v : Nat) : Int)
def lstk (I : List Bool) (k : Nat) : List Int := ((List.range k).filter fun v => I.getD v false).map fun v => ((v : Nat) : Int)
theorem fndk_step (S : List Int) (k : Nat) : fndk S (k + 1) = if S.getD k 0 = -1 then fndk S k else fndk S k ++ [(k : Int)] := by
  unfold fndk
  rw [List.range_succ, List.filter_append]
  by_cases h : S.getD k 0 = -1
  · rw [if_pos h]; simp only [List.filter_cons, decide_eq_false (fun q : S.getD k 0 ≠ -1 => q h)]; simp
  · rw [if_neg h]; simp only [List.filter_cons, decide_eq_true h]; simp
theorem lstk_step (I : List Bool) (k : Nat) : lstk I (k + 1) = if I.getD k false = true then lstk I k ++ [(k : Int)] else lstk I k := by
  unfold lstk
  rw [List.range_succ, List.filter_append]
  cases h : I.getD k false
  · rw [if_neg (by simp)]; simp only [List.filter_cons, h]; simp
  · rw [if_pos rfl]; simp only [List.filter_cons, h]; simp
theorem fndk_len (S : List Int) (k : Nat) : (fndk S k).length ≤ k := by
  unfold fndk; rw [List.length_map]
  exact Nat.le_trans (List.length_filter_le _ _) (by simp)
theorem lstk_len (I : List Bool) (k : Nat) : (lstk I k).length ≤ k := by
  unfold lstk; rw [List.length_map]
  exact Nat.le_trans (List.length_filter_le _ _) (by simp)

/-- The walk that takes the nearest first: S the steps, Q those that came, none further off than F. -/
structure BP (n : Nat) (N : Nat → List Int) (L S Q : List Int) (F : Nat) : Prop where
  sl : S.length = n
  nodes : ∀ x ∈ Q, gnd n x
  nd : Q.Nodup
  mem : ∀ v, v < n → ((v : Int) ∈ Q ↔ S.getD v 0 ≠ -1)
  way : ∀ v, v < n → S.getD v 0 ≠ -1 → ∃ d : Nat, S.getD v 0 = (d : Int) ∧ Way n N L d v
  mono : ∀ i j, i ≤ j → j < Q.length → S.getD (Q.getD i 0).toNat 0 ≤ S.getD (Q.getD j 0).toNat 0
  top : ∀ j, j < Q.length → S.getD (Q.getD j 0).toNat 0 ≤ (F : Int)
  low : ∀ j, j < Q.length → S.getD (Q.getD j 0).toNat 0 ≤ (j : Int)
/-- One comes. -/
def cS (S : List Int) (x : Int) (F : Nat) : List Int := if gnd S.length x ∧ S.getD x.toNat 0 = -1 then S.set x.toNat (F : Int) else S
def cQ (S Q : List Int) (x : Int) : List Int := if gnd S.length x ∧ S.getD x.toNat 0 = -1 then Q ++ [x] else Q
theorem getD_set {S : List Int} {v : Nat} (hv : v < S.length) (z : Int) (u : Nat) : (S.set v z).getD u 0 = if u = v then z else S.getD u 0 := by
  by_cases e : u = v
  · subst e; simp [List.getD, hv]
  · rw [if_neg e]; simp [List.getD, List.getElem?_set, Ne.symm e]
theorem getD_push (Q : List Int) (x : Int) (i : Nat) : (Q ++ [x]).getD i 0 = if i < Q.length then Q.getD i 0 else if i = Q.length then x else 0 := by
  by_cases h : i < Q.length
  · rw [if_pos h]; simp [List.getD, List.getElem?_append, h]
  · rw [if_neg h]
    by_cases e : i = Q.length
    · rw [if_pos e]; subst e; simp [List.getD]
    · rw [if_neg e]; simp [List.getD, List.getElem?_append, h, show ¬ (i - Q.length < 1) by omega]
theorem mem_getD {Q : List Int} {x : Int} (h : x ∈ Q) : ∃ i, i < Q.length ∧ Q.getD i 0 = x := by
  obtain ⟨i, hi, e⟩ := List.getElem_of_mem h
  exact ⟨i, hi, by simp [List.getD, hi, e]⟩
theorem getD_mem {Q : List Int} {i : Nat} (h : i < Q.length) : Q.getD i 0 ∈ Q := by
  simp [List.getD, h]
theorem BP.at {S Q : List Int} {F : Nat} (h : BP n N L S Q F) {i : Nat} (hi : i < Q.length) : gnd n (Q.getD i 0) ∧ (Q.getD i 0).toNat < n ∧ S.getD (Q.getD i 0).toNat 0 ≠ -1 := by
  have h1 := h.nodes _ (getD_mem hi)
  have h2 : (Q.getD i 0).toNat < n := by unfold gnd at h1; omega
  refine ⟨h1, h2, (h.mem _ h2).1 ?_⟩
  rw [show (((Q.getD i 0).toNat : Nat) : Int) = Q.getD i 0 by unfold gnd at h1; omega]
  exact getD_mem hi
theorem BP.len {S Q : List Int} {F : Nat} (h : BP n N L S Q F) : Q.length ≤ n := nodup_len h.nd h.nodes
theorem BP.up {S Q : List Int} {F G : Nat} (h : BP n N L S Q F) (hFG : F ≤ G) : BP n N L S Q G :=
  ⟨h.sl, h.nodes, h.nd, h.mem, h.way, h.mono, fun j hj => by have := h.top j hj; omega, h.low⟩
theorem BP.begin (n : Nat) (N : Nat → List Int) (L : List Int) : BP n N L (List.replicate n (-1)) [] 0 :=
  ⟨by simp, fun x hx => (by cases hx), List.nodup_nil, fun v hv => ⟨fun q => (by cases q), fun q => absurd (by simp [List.getD, hv]) q⟩, fun v hv q => absurd (by simp [List.getD, hv]) q,
    fun i j _ hj => absurd hj (by simp), fun j hj => absurd hj (by simp), fun j hj => absurd hj (by simp)⟩
/-- What stands stays. -/
theorem cS_old {S : List Int} {x : Int} {F : Nat} {v : Nat} (h : S.getD v 0 ≠ -1) : (cS S x F).getD v 0 = S.getD v 0 := by
  unfold cS
  split
  · rename_i hc
    have hv : x.toNat < S.length := by have := hc.1; unfold gnd at this; omega
    rw [getD_set hv]
    split
    · rename_i e; subst e; exact absurd hc.2 h
    · rfl
  · rfl
theorem cQ_old {S Q : List Int} {x : Int} {i : Nat} (h : i < Q.length) : (cQ S Q x).getD i 0 = Q.getD i 0 := by
  unfold cQ; split
  · rw [getD_push, if_pos h]
  · rfl
theorem cQ_len (S Q : List Int) (x : Int) : Q.length ≤ (cQ S Q x).length := by unfold cQ; split <;> simp
theorem cS_len (S : List Int) (x : Int) (F : Nat) : (cS S x F).length = S.length := by unfold cS; split <;> simp
theorem cS_here {S Q : List Int} {x : Int} {F : Nat} (h : BP n N L S Q F) (hx : gnd n x) : (cS S x F).getD x.toNat 0 ≠ -1 ∧ (cS S x F).getD x.toNat 0 ≤ (F : Int) := by
  have hv : x.toNat < S.length := by rw [h.sl]; unfold gnd at hx; omega
  by_cases e : S.getD x.toNat 0 = -1
  · unfold cS
    rw [if_pos ⟨by rw [h.sl]; exact hx, e⟩, getD_set hv, if_pos rfl]
    omega
  · rw [cS_old e]
    refine ⟨e, ?_⟩
    have hm := (h.mem x.toNat (by rw [← h.sl]; exact hv)).2 e
    obtain ⟨j, hj, hq⟩ := mem_getD hm
    have := h.top j hj
    rw [hq, Int.toNat_natCast] at this
    exact this
theorem BP.come {S Q : List Int} {F : Nat} (h : BP n N L S Q F) {x : Int} (hw : gnd n x → Way n N L F x.toNat) (hF : F ≤ Q.length) : BP n N L (cS S x F) (cQ S Q x) F := by
  by_cases hc : gnd S.length x ∧ S.getD x.toNat 0 = -1
  · have hx := hc.1
    rw [h.sl] at hx
    have hv : x.toNat < S.length := by rw [h.sl]; unfold gnd at hx; omega
    have hxv : ((x.toNat : Nat) : Int) = x := by unfold gnd at hx; omega
    have hnx : x ∉ Q := fun q => by
      have := (h.mem x.toNat (by rw [← h.sl]; exact hv)).1 (by rw [hxv]; exact q)
      exact this hc.2
    have hold : ∀ j, j < Q.length → (S.set x.toNat (F : Int)).getD (Q.getD j 0).toNat 0 = S.getD (Q.getD j 0).toNat 0 := fun j hj => by
      rw [getD_set hv, if_neg fun e => (h.at hj).2.2 (by rw [e]; exact hc.2)]
    have hp : ∀ j, j < (Q ++ [x]).length → (S.set x.toNat (F : Int)).getD ((Q ++ [x]).getD j 0).toNat 0 = if j < Q.length then S.getD (Q.getD j 0).toNat 0 else (F : Int) := fun j hj => by
      rw [getD_push]
      by_cases e : j < Q.length
      · rw [if_pos e, if_pos e, hold j e]
      · have e2 : j = Q.length := by simp at hj; omega
        rw [if_neg e, if_neg e, if_pos e2, getD_set hv, if_pos rfl]
    unfold cS cQ
    rw [if_pos hc, if_pos hc]
    refine ⟨by simp [h.sl], fun y hy => ?_, ?_, fun v hvn => ?_, fun v hvn hne => ?_, fun i j hij hj => ?_, fun j hj => ?_, fun j hj => ?_⟩
    · rcases List.mem_append.1 hy with q | q
      · exact h.nodes y q
      · rw [List.mem_singleton.1 q]; exact hx
    · refine List.nodup_append.2 ⟨h.nd, by simp, fun a ha b hb => ?_⟩
      rw [List.mem_singleton.1 hb]
      exact fun e => hnx (e ▸ ha)
    · rw [getD_set hv, List.mem_append, List.mem_singleton]
      by_cases e : v = x.toNat
      · rw [if_pos e]; exact ⟨fun _ => by omega, fun _ => Or.inr (by omega)⟩
      · rw [if_neg e, ← h.mem v hvn]
        exact ⟨fun q => q.elim id fun r => absurd (by omega) e, Or.inl⟩
    · rw [getD_set hv] at hne ⊢
      by_cases e : v = x.toNat
      · rw [if_pos e]; exact ⟨F, rfl, by rw [e]; exact hw hx⟩
      · rw [if_neg e] at hne ⊢; exact h.way v hvn hne
    · rw [hp i (by omega), hp j hj]
      by_cases e : j < Q.length
      · rw [if_pos e, if_pos (by omega)]; exact h.mono i j hij e
      · rw [if_neg e]
        split
        · rename_i q; exact h.top i q
        · omega
    · rw [hp j hj]
      split
      · rename_i q; exact h.top j q
      · omega
    · rw [hp j hj]
      split
      · rename_i q; exact h.low j q
      · simp at hj; omega
  · unfold cS cQ
    rw [if_neg hc, if_neg hc]
    exact h

/-- What is done: those that the first a of Q lead to. -/
def Done (n : Nat) (N : Nat → List Int) (S Q : List Int) (a : Nat) : Prop := ∀ i, i < a → i < Q.length → ∀ x ∈ N (Q.getD i 0).toNat, gnd n x → S.getD x.toNat 0 ≠ -1 ∧ S.getD x.toNat 0 ≤ S.getD (Q.getD i 0).toNat 0 + 1
theorem Done.come {S Q : List Int} {a F : Nat} (h : Done n N S Q a) (hB : BP n N L S Q F) (ha : a ≤ Q.length) (x : Int) (G : Nat) : Done n N (cS S x G) (cQ S Q x) a := fun i hi hl y hy hg => by
  have hl2 : i < Q.length := by omega
  rw [cQ_old hl2] at hy ⊢
  obtain ⟨h1, h2⟩ := h i hi hl2 y hy hg
  rw [cS_old h1, cS_old (hB.at hl2).2.2]
  exact ⟨h1, h2⟩
/-- The first nodes are 0 steps off. -/
def Zero (n : Nat) (L S : List Int) : Prop := ∀ x ∈ L, gnd n x → S.getD x.toNat 0 = 0
theorem Zero.come {S : List Int} (h : Zero n L S) (x : Int) (G : Nat) : Zero n L (cS S x G) := fun y hy hg => by
  have := h y hy hg
  rw [cS_old (by omega)]; exact this
theorem zero_of {S : List Int} (h1 : Zero n L S) {v : Nat} (hv : v < n) (hm : (v : Int) ∈ L) : S.getD v 0 = 0 := by
  have := h1 _ hm ⟨by omega, by omega⟩
  rwa [Int.toNat_natCast] at this
/-- All that came is done. -/
theorem walk_end {S Q : List Int} {F : Nat} (h : BP n N L S Q F) (hz : Zero n L S) (hd : Done n N S Q Q.length) : IsSt n N L S := by
  refine isst_of h.sl (fun v hv => ?_) ?_
  · by_cases e : S.getD v 0 = -1
    · exact Or.inl e
    · exact Or.inr (h.way v hv e)
  · intro k
    induction k with
    | zero => intro v hw; rw [zero_of hz hw.1 hw.2]; omega
    | succ k ih =>
      rintro v ⟨hv, u, hu, hvu⟩
      obtain ⟨h1, h2⟩ := ih u hu
      obtain ⟨i, hi, e⟩ := mem_getD ((h.mem u hu.lt).2 h1)
      have := hd i hi hi (v : Int) (by rw [e, Int.toNat_natCast]; exact hvu) ⟨by omega, by omega⟩
      rw [e] at this
      simp only [Int.toNat_natCast] at this
      omega
theorem all_in {Q : List Int} (h1 : Q.Nodup) (h2 : ∀ x ∈ Q, gnd n x) (h3 : Q.length = n) {v : Nat} (hv : v < n) : (v : Int) ∈ Q := by
  by_cases e : (v : Int) ∈ Q
  · exact e
  · have := nodup_len (n := n) (l := (v : Int) :: Q) (List.nodup_cons.2 ⟨e, h1⟩) fun x hx => by
      rcases List.mem_cons.1 hx with rfl | q
      · exact ⟨by omega, by omega⟩
      · exact h2 x q
    simp at this; omega
/-- All came: no step leads to another one. -/
theorem walk_stop {S Q : List Int} {a F : Nat} (h : BP n N L S Q F) (hz : Zero n L S) (hd : Done n N S Q a) (ha : a < Q.length) (hF : (F : Int) = S.getD (Q.getD a 0).toNat 0 + 1) (hn : Q.length = n) : IsSt n N L S := by
  refine isst_of h.sl (fun v hv => ?_) ?_
  · by_cases e : S.getD v 0 = -1
    · exact Or.inl e
    · exact Or.inr (h.way v hv e)
  · intro k
    induction k with
    | zero => intro v hw; rw [zero_of hz hw.1 hw.2]; omega
    | succ k ih =>
      rintro v ⟨hv, u, hu, hvu⟩
      obtain ⟨h1, h2⟩ := ih u hu
      obtain ⟨i, hi, e⟩ := mem_getD ((h.mem u hu.lt).2 h1)
      obtain ⟨j, hj, e2⟩ := mem_getD (all_in h.nd h.nodes hn hv)
      have hvn := (h.mem v hv).1 (all_in h.nd h.nodes hn hv)
      have ht := h.top j hj
      rw [e2, Int.toNat_natCast] at ht
      refine ⟨hvn, ?_⟩
      by_cases hia : i < a
      · have := (hd i hia hi (v : Int) (by rw [e, Int.toNat_natCast]; exact hvu) ⟨by omega, by omega⟩).2
        rw [e] at this
        simp only [Int.toNat_natCast] at this
        omega
      · have := h.mono a i (by omega) hi
        rw [e, Int.toNat_natCast] at this
        omega
/-- Ways depend on what each step tells alone. -/
theorem Way.of {N M : Nat → List Int} (h : ∀ u, u < n → ∀ v, v < n → ((v : Int) ∈ N u → (v : Int) ∈ M u)) : ∀ {k v : Nat}, Way n N L k v → Way n M L k v
  | 0, _, hw => hw
  | k + 1, v, ⟨hv, u, hu, hvu⟩ => ⟨hv, u, hu.of h, h u hu.lt v hv hvu⟩
end
/- The document's own way to what is reached: again and again, until nothing more is. In plain words; no Go function is walked here. -/
/-- What each node leads to: who reads it; what it reads. -/
def nUp (R : List (List Int)) (v : Nat) : List Int := grdrs R (v : Int)
def nDn (R : List (List Int)) (v : Nat) : List Int := greads R (v : Int)
/-- Read number i of node v. -/
def gY (R : List (List Int)) (v i : Nat) : Nat := ((gR R v).getD i 0).toNat
theorem gY_is {R : List (List Int)} (hI : GrI R) {v i : Nat} (hi : i < (gR R v).length) : (gR R v).getD i 0 = ((gY R v i : Nat) : Int) ∧ gY R v i < R.length := by
  have := hI.nodes v _ (getD_mem hi)
  unfold gnd at this; unfold gY; omega
theorem gY_mem {R : List (List Int)} (hI : GrI R) {v i : Nat} (hi : i < (gR R v).length) : ((gY R v i : Nat) : Int) ∈ gR R v := by
  rw [← (gY_is hI hi).1]; exact getD_mem hi
theorem up_iff {R : List (List Int)} {v : Nat} (hv : v < R.length) (u : Nat) : (v : Int) ∈ nUp R u ↔ (u : Int) ∈ gR R v := mem_grdrs hv _
theorem dn_iff {R : List (List Int)} {u : Nat} (hu : u < R.length) (v : Nat) : (v : Int) ∈ nDn R u ↔ (v : Int) ∈ gR R u := by unfold nDn; rw [greads_nat hu]
theorem gY_of {R : List (List Int)} {v u : Nat} (h : (u : Int) ∈ gR R v) : ∃ i, i < (gR R v).length ∧ gY R v i = u := by
  obtain ⟨i, hi, e⟩ := mem_getD h
  exact ⟨i, hi, by unfold gY; rw [e]; simp⟩
def begn (n : Nat) (L : List Int) : List Bool := (List.range n).map fun v => decide (((v : Nat) : Int) ∈ L)
theorem begn_len (n : Nat) (L : List Int) : (begn n L).length = n := by simp [begn]
theorem begn_at {n : Nat} {L : List Int} (v : Nat) : (begn n L).getD v false = true ↔ v < n ∧ ((v : Nat) : Int) ∈ L := by
  unfold begn
  by_cases h : v < n
  · simp [List.getD, h]
  · simp [List.getD, h]
theorem getD_setB {I : List Bool} {v : Nat} (hv : v < I.length) (b : Bool) (u : Nat) : (I.set v b).getD u false = if u = v then b else I.getD u false := by
  by_cases e : u = v
  · subst e; simp [List.getD, hv]
  · rw [if_neg e]; simp [List.getD, List.getElem?_set, Ne.symm e]
section
variable {R : List (List Int)} {L : List Int} {I : List Bool} {r v k : Nat}
/-- The nodes so far: I; r times round; up to v in this round. -/
structure RchV (R : List (List Int)) (L : List Int) (I : List Bool) (r v : Nat) : Prop where
  len : I.length = R.length
  snd : ∀ u, I.getD u false = true → ∃ k, Way R.length (nUp R) L k u
  cmp : ∀ j u, j ≤ r → Way R.length (nUp R) L j u → I.getD u false = true
  up : ∀ u, u < v → Way R.length (nUp R) L (r + 1) u → I.getD u false = true
structure RchI (R : List (List Int)) (L : List Int) (I : List Bool) (r v k : Nat) : Prop where
  t : RchV R L I r v
  hv : v < R.length
  hd : ∀ i, i < k → i < (gR R v).length → Way R.length (nUp R) L r (gY R v i) → I.getD v false = true
theorem RchI.step (h : RchI R L I r v k) (hI : GrI R) (hk : k < (gR R v).length) : RchI R L (I.set v (I.getD v false || I.getD (gY R v k) false)) r v (k + 1) := by
  have hvl : v < I.length := by rw [h.t.len]; exact h.hv
  have hm : ∀ u, I.getD u false = true → (I.set v (I.getD v false || I.getD (gY R v k) false)).getD u false = true := fun u hu => by
    rw [getD_setB hvl]
    by_cases e : u = v
    · rw [if_pos e, ← e, hu]; rfl
    · rw [if_neg e]; exact hu
  refine ⟨⟨by rw [List.length_set]; exact h.t.len, fun u hu => ?_, fun j u hj hw => hm u (h.t.cmp j u hj hw), fun u hu hw => hm u (h.t.up u hu hw)⟩, h.hv, fun i hi hl hw => ?_⟩
  · rw [getD_setB hvl] at hu
    by_cases e : u = v
    · subst e
      rw [if_pos rfl, Bool.or_eq_true] at hu
      rcases hu with q | q
      · exact h.t.snd u q
      · obtain ⟨j, hj⟩ := h.t.snd _ q
        exact ⟨j + 1, h.hv, _, hj, (up_iff h.hv _).2 (gY_mem hI hk)⟩
    · rw [if_neg e] at hu; exact h.t.snd u hu
  · by_cases e : i = k
    · subst e
      rw [getD_setB hvl, if_pos rfl, h.t.cmp r _ (Nat.le_refl _) hw, Bool.or_true]
    · exact hm v (h.hd i (by omega) hl hw)
theorem RchI.leave (h : RchI R L I r v (gR R v).length) : RchV R L I r (v + 1) :=
  ⟨h.t.len, h.t.snd, h.t.cmp, fun u hu hw => by
    by_cases e : u = v
    · subst e
      obtain ⟨_, y, hy, hm⟩ := hw
      obtain ⟨i, hi, e⟩ := gY_of ((up_iff h.hv _).1 hm)
      exact h.hd i hi hi (by rw [e]; exact hy)
    · exact h.t.up u (by omega) hw⟩
theorem RchV.next (h : RchV R L I r R.length) : RchV R L I (r + 1) 0 :=
  ⟨h.len, h.snd, fun j u hj hw => by
    by_cases e : j = r + 1
    · subst e; exact h.up u hw.lt hw
    · exact h.cmp j u (by omega) hw, fun u hu => absurd hu (Nat.not_lt_zero u)⟩
theorem RchV.begin (R : List (List Int)) (L : List Int) : RchV R L (begn R.length L) 0 0 :=
  ⟨begn_len _ _, fun u hu => ⟨0, (begn_at u).1 hu⟩, fun j u hj hw => by
    obtain rfl : j = 0 := by omega
    exact (begn_at u).2 hw, fun u hu => absurd hu (Nat.not_lt_zero u)⟩
theorem RchV.final (h : RchV R L I R.length v) : ∀ u, u < R.length → (I.getD u false = true ↔ ∃ k, Way R.length (nUp R) L k u) := fun u hu =>
  ⟨h.snd u, fun ⟨k, hk⟩ => by
    obtain ⟨d, h1, _, h3, _⟩ := way_short hk
    exact h.cmp d u (by omega) h3⟩

/-- The same from who reads to what is read. -/
structure NedV (R : List (List Int)) (L : List Int) (I : List Bool) (r v : Nat) : Prop where
  len : I.length = R.length
  snd : ∀ u, I.getD u false = true → ∃ k, Way R.length (nDn R) L k u
  cmp : ∀ j u, j ≤ r → Way R.length (nDn R) L j u → I.getD u false = true
  up : ∀ u, u < v → Way R.length (nDn R) L r u → ∀ i, i < (gR R u).length → I.getD (gY R u i) false = true
structure NedI (R : List (List Int)) (L : List Int) (I : List Bool) (r v k : Nat) : Prop where
  t : NedV R L I r v
  hv : v < R.length
  hd : ∀ i, i < k → i < (gR R v).length → I.getD (gY R v i) false = true
theorem NedI.step (h : NedI R L I r v k) (hI : GrI R) (hk : k < (gR R v).length) (hin : I.getD v false = true) : NedI R L (I.set (gY R v k) true) r v (k + 1) := by
  have hvl : gY R v k < I.length := by rw [h.t.len]; exact (gY_is hI hk).2
  have hm : ∀ u, I.getD u false = true → (I.set (gY R v k) true).getD u false = true := fun u hu => by
    rw [getD_setB hvl]
    split
    · rfl
    · exact hu
  refine ⟨⟨by rw [List.length_set]; exact h.t.len, fun u hu => ?_, fun j u hj hw => hm u (h.t.cmp j u hj hw), fun u hu hw i hi => hm _ (h.t.up u hu hw i hi)⟩, h.hv, fun i hi hl => ?_⟩
  · rw [getD_setB hvl] at hu
    by_cases e : u = gY R v k
    · obtain ⟨j, hj⟩ := h.t.snd _ hin
      refine ⟨j + 1, by rw [e]; exact (gY_is hI hk).2, v, hj, (dn_iff h.hv _).2 ?_⟩
      rw [e]; exact gY_mem hI hk
    · rw [if_neg e] at hu; exact h.t.snd u hu
  · by_cases e : i = k
    · subst e; rw [getD_setB hvl, if_pos rfl]
    · exact hm _ (h.hd i (by omega) hl)
theorem NedI.leave (h : NedI R L I r v k) (he : k = (gR R v).length ∨ I.getD v false = false) : NedV R L I r (v + 1) :=
  ⟨h.t.len, h.t.snd, h.t.cmp, fun u hu hw i hi => by
    by_cases e : u = v
    · subst e
      rcases he with q | q
      · exact h.hd i (by omega) hi
      · rw [h.t.cmp r u (Nat.le_refl _) hw] at q; cases q
    · exact h.t.up u (by omega) hw i hi⟩
theorem NedV.next (h : NedV R L I r R.length) : NedV R L I (r + 1) 0 :=
  ⟨h.len, h.snd, fun j u hj hw => by
    by_cases e : j = r + 1
    · subst e
      obtain ⟨_, y, hy, hm⟩ := hw
      obtain ⟨i, hi, e⟩ := gY_of ((dn_iff hy.lt _).1 hm)
      rw [← e]; exact h.up y hy.lt hy i hi
    · exact h.cmp j u (by omega) hw, fun u hu => absurd hu (Nat.not_lt_zero u)⟩
theorem NedV.begin (R : List (List Int)) (L : List Int) : NedV R L (begn R.length L) 0 0 :=
  ⟨begn_len _ _, fun u hu => ⟨0, (begn_at u).1 hu⟩, fun j u hj hw => by
    obtain rfl : j = 0 := by omega
    exact (begn_at u).2 hw, fun u hu => absurd hu (Nat.not_lt_zero u)⟩
theorem NedV.final (h : NedV R L I R.length v) : ∀ u, u < R.length → (I.getD u false = true ↔ ∃ k, Way R.length (nDn R) L k u) := fun u hu =>
  ⟨h.snd u, fun ⟨k, hk⟩ => by
    obtain ⟨d, h1, _, h3, _⟩ := way_short hk
    exact h.cmp d u (by omega) h3⟩

/-- The steps so far. -/
structure StpV (R : List (List Int)) (L S : List Int) (r v : Nat) : Prop where
  len : S.length = R.length
  snd : ∀ u, u < R.length → S.getD u 0 = -1 ∨ ∃ d : Nat, S.getD u 0 = (d : Int) ∧ Way R.length (nUp R) L d u
  cmp : ∀ j u, j ≤ r → Way R.length (nUp R) L j u → S.getD u 0 ≠ -1 ∧ S.getD u 0 ≤ (j : Int)
  up : ∀ u, u < v → ∀ j, j ≤ r + 1 → Way R.length (nUp R) L j u → S.getD u 0 ≠ -1 ∧ S.getD u 0 ≤ (j : Int)
  few : ∃ Q : List Int, Q.Nodup ∧ (∀ x ∈ Q, gnd R.length x ∧ S.getD x.toNat 0 ≠ -1) ∧ ∀ u, u < R.length → S.getD u 0 < (Q.length : Int)
theorem StpV.lt {S : List Int} (h : StpV R L S r v) {u : Nat} (hu : u < R.length) : S.getD u 0 < (R.length : Int) := by
  obtain ⟨Q, h1, h2, h3⟩ := h.few
  have := nodup_len h1 fun x hx => (h2 x hx).1
  have := h3 u hu
  omega
structure StpI (R : List (List Int)) (L S : List Int) (r v k : Nat) : Prop where
  t : StpV R L S r v
  hv : v < R.length
  hd : ∀ i, i < k → i < (gR R v).length → ∀ j, j ≤ r → Way R.length (nUp R) L j (gY R v i) → S.getD v 0 ≠ -1 ∧ S.getD v 0 ≤ (j : Int) + 1
/-- Whether a node is nearer by what it reads. -/
def nearer (S : List Int) (v : Nat) (z : Int) : Bool := decide (0 ≤ z) && (decide (S.getD v 0 < 0) || decide (z + 1 < S.getD v 0))
theorem StpI.stay {S : List Int} (h : StpI R L S r v k) (hI : GrI R) (hk : k < (gR R v).length) (hn : nearer S v (S.getD (gY R v k) 0) = false) : StpI R L S r v (k + 1) :=
  ⟨h.t, h.hv, fun i hi hl j hj hw => by
    by_cases e : i = k
    · subst e
      obtain ⟨h1, h2⟩ := h.t.cmp j _ hj hw
      unfold nearer at hn
      have h3 : 0 ≤ S.getD (gY R v i) 0 := by
        rcases h.t.snd _ (gY_is hI hk).2 with q | ⟨d, q, _⟩
        · exact absurd q h1
        · omega
      rw [decide_eq_true h3, Bool.true_and, Bool.or_eq_false_iff, decide_eq_false_iff_not, decide_eq_false_iff_not] at hn
      omega
    · exact h.hd i (by omega) hl j hj hw⟩
theorem StpI.turn {S : List Int} (h : StpI R L S r v k) (hI : GrI R) (hk : k < (gR R v).length) (hn : nearer S v (S.getD (gY R v k) 0) = true) : StpI R L (S.set v (S.getD (gY R v k) 0 + 1)) r v (k + 1) := by
  have hvl : v < S.length := by rw [h.t.len]; exact h.hv
  obtain ⟨hy, hyl⟩ := gY_is hI hk
  unfold nearer at hn
  rw [Bool.and_eq_true, Bool.or_eq_true, decide_eq_true_iff, decide_eq_true_iff, decide_eq_true_iff] at hn
  obtain ⟨z, hz, hzw⟩ : ∃ d : Nat, S.getD (gY R v k) 0 = (d : Int) ∧ Way R.length (nUp R) L d (gY R v k) := by
    rcases h.t.snd _ hyl with q | q
    · omega
    · exact q
  rw [hz] at hn ⊢
  have hset : ∀ u, (S.set v ((z : Int) + 1)).getD u 0 = if u = v then (z : Int) + 1 else S.getD u 0 := fun u => getD_set hvl _ u
  have hm : ∀ (j : Nat) u, S.getD u 0 ≠ -1 ∧ S.getD u 0 ≤ (j : Int) → (S.set v ((z : Int) + 1)).getD u 0 ≠ -1 ∧ (S.set v ((z : Int) + 1)).getD u 0 ≤ (j : Int) := fun j u hu => by
    rw [hset]
    by_cases e : u = v
    · subst e
      rw [if_pos rfl]
      rcases h.t.snd u h.hv with q | ⟨d, q, _⟩ <;> omega
    · rw [if_neg e]; exact hu
  have hway : Way R.length (nUp R) L (z + 1) v := ⟨h.hv, _, hzw, (up_iff h.hv _).2 (gY_mem hI hk)⟩
  refine ⟨⟨by rw [List.length_set]; exact h.t.len, fun u hu => ?_, fun j u hj hw => hm j u (h.t.cmp j u hj hw), fun u hu j hj hw => hm j u (h.t.up u hu j hj hw), ?_⟩, h.hv, fun i hi hl j hj hw => ?_⟩
  · rw [hset]
    by_cases e : u = v
    · subst e; rw [if_pos rfl]; exact Or.inr ⟨z + 1, by omega, hway⟩
    · rw [if_neg e]; exact h.t.snd u hu
  · obtain ⟨Q, h1, h2, h3⟩ := h.t.few
    have h4 := h3 _ hyl
    rw [hz] at h4
    by_cases e : S.getD v 0 = -1
    · refine ⟨(v : Int) :: Q, List.nodup_cons.2 ⟨fun q => (h2 _ q).2 (by simpa using e), h1⟩, fun x hx => ?_, fun u hu => ?_⟩
      · rw [hset]
        rcases List.mem_cons.1 hx with rfl | q
        · refine ⟨⟨by omega, by have := h.hv; omega⟩, ?_⟩
          rw [Int.toNat_natCast, if_pos rfl]; omega
        · refine ⟨(h2 x q).1, ?_⟩
          split
          · omega
          · exact (h2 x q).2
      · rw [hset, List.length_cons]
        have := h3 u hu
        split <;> omega
    · refine ⟨Q, h1, fun x hx => ⟨(h2 x hx).1, ?_⟩, fun u hu => ?_⟩
      · rw [hset]
        split
        · omega
        · exact (h2 x hx).2
      · rw [hset]
        have := h3 u hu
        have := h3 v h.hv
        split
        · rcases h.t.snd v h.hv with q | ⟨d, q, _⟩ <;> omega
        · omega
  · by_cases e : i = k
    · subst e
      rw [hset, if_pos rfl]
      have := h.t.cmp j _ hj hw
      rw [hz] at this
      omega
    · have := hm (j + 1) v (by have := h.hd i (by omega) hl j hj hw; omega)
      omega
theorem StpI.leave {S : List Int} (h : StpI R L S r v (gR R v).length) : StpV R L S r (v + 1) :=
  ⟨h.t.len, h.t.snd, h.t.cmp, fun u hu j hj hw => by
    by_cases e : u = v
    · subst e
      by_cases e2 : j ≤ r
      · exact h.t.cmp j u e2 hw
      · obtain rfl : j = r + 1 := by omega
        obtain ⟨_, y, hy, hm⟩ := hw
        obtain ⟨i, hi, e⟩ := gY_of ((up_iff h.hv _).1 hm)
        have := h.hd i hi hi r (Nat.le_refl _) (by rw [e]; exact hy)
        omega
    · exact h.t.up u (by omega) j hj hw, h.t.few⟩
theorem StpV.next {S : List Int} (h : StpV R L S r R.length) : StpV R L S (r + 1) 0 :=
  ⟨h.len, h.snd, fun j u hj hw => h.up u hw.lt j hj hw, fun u hu => absurd hu (Nat.not_lt_zero u), h.few⟩
def stp0 (n : Nat) (L : List Int) : List Int := (List.range n).map fun v => if ((v : Nat) : Int) ∈ L then 0 else -1
theorem stp0_at {n v : Nat} {L : List Int} (hv : v < n) : (stp0 n L).getD v 0 = if ((v : Nat) : Int) ∈ L then 0 else -1 := by simp [stp0, List.getD, hv]
theorem StpV.begin (R : List (List Int)) (L : List Int) : StpV R L (stp0 R.length L) 0 0 := by
  have hl : (stp0 R.length L).length = R.length := by simp [stp0]
  refine ⟨hl, fun u hu => ?_, fun j u hj hw => ?_, fun u hu => absurd hu (Nat.not_lt_zero u), fnd (stp0 R.length L), ?_, fun x hx => ?_, fun u hu => ?_⟩
  · rw [stp0_at hu]
    split
    · rename_i h; exact Or.inr ⟨0, rfl, hu, h⟩
    · exact Or.inl rfl
  · obtain rfl : j = 0 := by omega
    rw [stp0_at hw.1, if_pos hw.2]; simp
  · unfold fnd
    exact List.pairwise_map.2 ((List.Pairwise.filter _ List.nodup_range).imp fun hab e => hab (by exact_mod_cast e))
  · have := (mem_fnd x).1 hx
    rw [hl] at this; exact this
  · have hz := stp0_at (L := L) hu
    by_cases e : ((u : Nat) : Int) ∈ L
    · rw [if_pos e] at hz
      have : ((u : Nat) : Int) ∈ fnd (stp0 R.length L) := (mem_fnd _).2 ⟨by rw [hl]; exact ⟨by omega, by omega⟩, by rw [Int.toNat_natCast, hz]; omega⟩
      have := List.length_pos_of_mem this
      omega
    · rw [if_neg e] at hz; omega
theorem StpV.final {S : List Int} (h : StpV R L S R.length v) : IsSt R.length (nUp R) L S :=
  isst_of h.len h.snd fun k u hw => by
    obtain ⟨d, h1, h2, h3, _⟩ := way_short hw
    have := h.cmp d u (by omega) h3
    omega
end
/- What is reached, by ways. No Go function is walked here. -/
section
variable {n : Nat} {N : Nat → List Int} {L S : List Int}
theorem fnd_inr (h : IsSt n N L S) (hn : n ≤ 20000) : ∀ z ∈ fnd S, InR z := fun z hz => by
  have := ((mem_fnd z).1 hz).1
  rw [h.len] at this
  unfold gnd at this; unfold InR; omega
theorem fnd_le (h : IsSt n N L S) (hn : n ≤ 20000) : (fnd S).length ≤ 20000 := by
  have := fnd_len S
  rw [h.len] at this; omega
theorem fnd_way (h : IsSt n N L S) (v : Nat) : ((v : Nat) : Int) ∈ fnd S ↔ v < n ∧ ∃ k, Way n N L k v := by
  rw [mem_fnd, h.len]
  constructor
  · rintro ⟨h1, h2⟩
    have hv : v < n := by unfold gnd at h1; omega
    rw [Int.toNat_natCast] at h2
    exact ⟨hv, (h.reached hv).1 h2⟩
  · rintro ⟨hv, hk⟩
    refine ⟨⟨by omega, by omega⟩, ?_⟩
    rw [Int.toNat_natCast]
    exact (h.reached hv).2 hk
end
/- Steps that are looked through one by one. No Go function is walked here. -/
/-- Steps that are looked through one by one. -/
theorem isst_check {n : Nat} {N : Nat → List Int} {L : List Int} (S : List Int) (hl : S.length = n) (h0 : ∀ v, v < n → ((v : Nat) : Int) ∈ L → S.getD v 0 = 0) (h1 : ∀ u, u < n → S.getD u 0 ≠ -1 → ∀ x ∈ N u, gnd n x → S.getD x.toNat 0 ≠ -1 ∧ S.getD x.toNat 0 ≤ S.getD u 0 + 1)
    (h2 : ∀ v, v < n → S.getD v 0 = -1 ∨ (S.getD v 0 = 0 ∧ ((v : Nat) : Int) ∈ L) ∨ (0 < S.getD v 0 ∧ ∃ u, u < n ∧ S.getD u 0 = S.getD v 0 - 1 ∧ ((v : Nat) : Int) ∈ N u)) : IsSt n N L S := by
  have hs : ∀ (d : Nat) v, v < n → S.getD v 0 = (d : Int) → Way n N L d v := by
    intro d
    induction d with
    | zero =>
      intro v hv e
      rcases h2 v hv with q | q | q
      · omega
      · exact ⟨hv, q.2⟩
      · omega
    | succ d ih =>
      intro v hv e
      rcases h2 v hv with q | q | ⟨_, u, hu, q, hm⟩
      · omega
      · omega
      · exact ⟨hv, u, ih u hu (by omega), hm⟩
  refine isst_of hl (fun v hv => ?_) ?_
  · rcases h2 v hv with q | q | q
    · exact Or.inl q
    · exact Or.inr ⟨0, q.1, hs 0 v hv q.1⟩
    · exact Or.inr ⟨(S.getD v 0).toNat, by omega, hs _ v hv (by omega)⟩
  · intro k
    induction k with
    | zero => intro v hw; rw [h0 v hw.1 hw.2]; omega
    | succ k ih =>
      rintro v ⟨hv, u, hu, hvu⟩
      have q1 := ih u hu
      have q2 := h1 u hu.lt q1.1 (v : Int) hvu ⟨by omega, by omega⟩
      rw [Int.toNat_natCast] at q2
      omega
end Go.Proofs.YtbaeanpdjdcheaaGreat
