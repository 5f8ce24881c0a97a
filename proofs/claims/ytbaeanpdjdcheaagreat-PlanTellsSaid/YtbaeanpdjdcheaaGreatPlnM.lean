/-
  What is done of an order, in plain words: of the nodes in their order those that are dirty, or read one that was done and changed. No Go function is walked here.
-/
import Derived.Test.YtbaeanpdjdcheaaGreatOr1
import Derived.Test.YtbaeanpdjdcheaaGreatRc1
namespace Go.Proofs.YtbaeanpdjdcheaaGreat
open Go.RowKit
set_option linter.unusedSimpArgs false
set_option linter.unusedVariables false
set_option linter.unusedSectionVars false

/-- Whether a node has to be done, behind those that were. -/
def mst (R : List (List Int)) (D : List Int) (ch : Int → Bool) (out : List Int) (v : Int) : Bool := decide (v ∈ D) || (greads R v).any fun w => decide (w ∈ out) && ch w
def dst (R : List (List Int)) (D : List Int) (ch : Int → Bool) (out : List Int) (v : Int) : List Int := if mst R D ch out v = true then out ++ [v] else out
/-- What is done of a row. -/
def don (R : List (List Int)) (D : List Int) (ch : Int → Bool) (l : List Int) : List Int := l.foldl (dst R D ch) []
section
variable {R : List (List Int)} {D : List Int} {ch : Int → Bool} {l : List Int}
theorem take_getD {k : Nat} (hk : k < l.length) : l.take (k + 1) = l.take k ++ [l.getD k 0] := by
  rw [List.take_succ_eq_append_getElem hk, getD_lt _ _ hk]
theorem don_nil : don R D ch [] = [] := rfl
theorem don_push (m : List Int) (v : Int) : don R D ch (m ++ [v]) = dst R D ch (don R D ch m) v := by simp [don, List.foldl_append]
theorem don_step {k : Nat} (hk : k < l.length) : don R D ch (l.take (k + 1)) = dst R D ch (don R D ch (l.take k)) (l.getD k 0) := by rw [take_getD hk, don_push]
theorem don_yes {k : Nat} (hk : k < l.length) (h : mst R D ch (don R D ch (l.take k)) (l.getD k 0) = true) : don R D ch (l.take (k + 1)) = don R D ch (l.take k) ++ [l.getD k 0] := by
  rw [don_step hk, dst, if_pos h]
theorem don_no {k : Nat} (hk : k < l.length) (h : mst R D ch (don R D ch (l.take k)) (l.getD k 0) = false) : don R D ch (l.take (k + 1)) = don R D ch (l.take k) := by
  rw [don_step hk, dst, if_neg (by rw [h]; simp)]
theorem mem_don {x : Int} : ∀ {k : Nat}, k ≤ l.length → (x ∈ don R D ch (l.take k) ↔ ∃ i, i < k ∧ l.getD i 0 = x ∧ mst R D ch (don R D ch (l.take i)) x = true)
  | 0, _ => by simp [don]
  | k + 1, hk => by
    have ih := mem_don (x := x) (k := k) (by omega)
    cases hm : mst R D ch (don R D ch (l.take k)) (l.getD k 0) with
    | true =>
      rw [don_yes hk hm, List.mem_append, List.mem_singleton, ih]
      constructor
      · rintro (⟨i, h1, h2, h3⟩ | rfl)
        · exact ⟨i, by omega, h2, h3⟩
        · exact ⟨k, by omega, rfl, hm⟩
      · rintro ⟨i, h1, h2, h3⟩
        by_cases e : i = k
        · subst e; exact Or.inr h2.symm
        · exact Or.inl ⟨i, by omega, h2, h3⟩
    | false =>
      rw [don_no hk hm, ih]
      constructor
      · rintro ⟨i, h1, h2, h3⟩
        exact ⟨i, by omega, h2, h3⟩
      · rintro ⟨i, h1, h2, h3⟩
        by_cases e : i = k
        · subst e; rw [h2, h3] at hm; cases hm
        · exact ⟨i, by omega, h2, h3⟩
theorem don_mem {x : Int} : x ∈ don R D ch l ↔ ∃ i, i < l.length ∧ l.getD i 0 = x ∧ mst R D ch (don R D ch (l.take i)) x = true := by
  have := mem_don (R := R) (D := D) (ch := ch) (l := l) (x := x) (k := l.length) (Nat.le_refl _)
  rwa [List.take_length] at this
theorem don_mono {x : Int} {i k : Nat} (hik : i ≤ k) (hk : k ≤ l.length) (h : x ∈ don R D ch (l.take i)) : x ∈ don R D ch (l.take k) := by
  obtain ⟨j, h1, h2, h3⟩ := (mem_don (by omega)).1 h
  exact (mem_don hk).2 ⟨j, by omega, h2, h3⟩
theorem don_up {x : Int} {i : Nat} (hi : i ≤ l.length) (h : x ∈ don R D ch (l.take i)) : x ∈ don R D ch l := by
  have := don_mono hi (Nat.le_refl _) h
  rwa [List.take_length] at this
theorem don_sublist : ∀ {k : Nat}, k ≤ l.length → (don R D ch (l.take k)).Sublist (l.take k)
  | 0, _ => by simp [don]
  | k + 1, hk => by
    have ih := don_sublist (k := k) (by omega)
    cases hm : mst R D ch (don R D ch (l.take k)) (l.getD k 0) with
    | true => rw [don_yes hk hm, take_getD hk]; exact ih.append (List.Sublist.refl _)
    | false => rw [don_no hk hm, take_getD hk]; exact ih.trans (List.sublist_append_left _ _)
theorem don_sub : (don R D ch l).Sublist l := by
  have := don_sublist (R := R) (D := D) (ch := ch) (l := l) (k := l.length) (Nat.le_refl _)
  rwa [List.take_length] at this
theorem don_of {x : Int} (h : x ∈ don R D ch l) : x ∈ l := don_sub.subset h
theorem don_len : (don R D ch l).length ≤ l.length := don_sub.length_le
theorem don_lenk {k : Nat} (hk : k ≤ l.length) : (don R D ch (l.take k)).length ≤ k := by
  have := (don_sublist (R := R) (D := D) (ch := ch) hk).length_le
  rw [List.length_take] at this
  omega
/-- If none changes, only dirty ones are done. -/
theorem don_none {x : Int} (h : x ∈ don R D (fun _ => false) l) : x ∈ D := by
  obtain ⟨i, h1, h2, h3⟩ := don_mem.1 h
  simpa [mst] using h3
end
section
variable {R : List (List Int)} {D : List Int} {ch : Int → Bool} {l S : List Int}
/-- In an order each stands behind what it reads. -/
theorem ord_pair {A : List Int} (hA : ∀ x ∈ A, gnd R.length x) (h : OrdP R A l) : l.Pairwise fun a b => ghas R a b = false := by
  refine List.pairwise_iff_getElem.2 fun i j hi hj hij => ?_
  obtain ⟨h1, h2, h3⟩ := h.at hi
  obtain ⟨k1, k2, k3⟩ := h.at hj
  rw [getD_lt _ _ hi] at h1 h2 h3
  rw [getD_lt _ _ hj] at k1 k2 k3
  obtain ⟨x, hx, hxn⟩ := gnd_natV (hA _ h1)
  rw [hx] at h3 ⊢
  refine ghas_no hxn fun q => k2 ?_
  have := h3 l[j] (by rw [Int.toNat_natCast]; exact q) k1
  exact (List.take_sublist_take_left (by omega)).subset this
/-- What is done, node by node. -/
def StdD (R : List (List Int)) (l d : List Int) : Prop := ∀ k, k < d.length → ∃ x : Nat, d.getD k 0 = ((x : Nat) : Int) ∧ x < R.length ∧ ((x : Nat) : Int) ∈ l ∧ ((x : Nat) : Int) ∉ d.take k ∧ ∀ j, k ≤ j → j < d.length → ghas R ((x : Nat) : Int) (d.getD j 0) = false
theorem std_d {A : List Int} (hI : GrI R) (hA : ∀ x ∈ A, gnd R.length x) (h : OrdP R A l) : StdD R l (don R D ch l) := fun k hk => by
  have hm : (don R D ch l).getD k 0 ∈ don R D ch l := by rw [getD_lt _ _ hk]; exact List.getElem_mem hk
  have hl := don_of hm
  have hp := (ord_pair hA h).sublist (don_sub (R := R) (D := D) (ch := ch) (l := l))
  have hn := h.nodup.sublist (don_sub (R := R) (D := D) (ch := ch) (l := l))
  obtain ⟨x, hx, hxn⟩ := gnd_natV (hA _ (h.sub _ hl))
  refine ⟨x, hx, hxn, by rw [← hx]; exact hl, fun q => ?_, fun j hj hjl => ?_⟩
  · rw [← hx] at q
    obtain ⟨i, hi, e⟩ := List.mem_iff_getElem.1 q
    rw [List.length_take] at hi
    have := getD_inj hn (i := i) (k := k) (by omega) hk (by rw [getD_lt _ _ (show i < (don R D ch l).length by omega), ← e, List.getElem_take])
    omega
  · rcases Nat.lt_or_eq_of_le hj with q | q
    · have := List.pairwise_iff_getElem.1 hp k j hk hjl q
      rw [← hx, getD_lt _ _ hk, getD_lt _ _ hjl]
      exact this
    · subst q
      rw [hx]
      exact ghas_no hxn fun r => hI.self x r
section
variable (hS : IsSt R.length (nUp R) D S) (hO : IsOrd R (sel R.length (fnd S)) l)
include hS hO
theorem pl_node {x : Int} (h : x ∈ l) : ∃ v : Nat, x = ((v : Nat) : Int) ∧ v < R.length ∧ ((v : Nat) : Int) ∈ fnd S := by
  have h1 := mem_sel.1 (hO.step.sub x h)
  obtain ⟨v, rfl, hv⟩ := gnd_natV h1.1
  exact ⟨v, rfl, hv, h1.2⟩
/-- If all change, all are done. -/
theorem don_all : ∀ {k : Nat}, k ≤ l.length → don R D (fun _ => true) (l.take k) = l.take k
  | 0, _ => by simp [don]
  | k + 1, hk => by
    have ih := don_all (k := k) (by omega)
    obtain ⟨h1, h2, h3⟩ := hO.step.at hk
    have hl : l.getD k 0 ∈ l := by rw [getD_lt _ _ hk]; exact List.getElem_mem hk
    obtain ⟨v, hv, hvn, hvS⟩ := pl_node hS hO hl
    rw [don_yes hk ?_, ih, take_getD hk]
    rw [ih, hv]
    obtain ⟨_, q, hq⟩ := (fnd_way hS v).1 hvS
    unfold mst
    rw [Bool.or_eq_true, decide_eq_true_iff, List.any_eq_true]
    cases q with
    | zero => exact Or.inl hq.2
    | succ q =>
      obtain ⟨_, u, hu, hm⟩ := hq
      have hg := (up_iff hvn u).1 hm
      refine Or.inr ⟨u, by rw [greads_nat hvn]; exact hg, ?_⟩
      have hA : ((u : Nat) : Int) ∈ sel R.length (fnd S) := mem_sel.2 ⟨gnd_nat hu.lt, (fnd_way hS u).2 ⟨hu.lt, q, hu⟩⟩
      rw [hv, Int.toNat_natCast] at h3
      rw [Bool.and_true, decide_eq_true_iff]
      exact h3 _ hg hA
theorem don_whole : don R D (fun _ => true) l = l := by
  have := don_all hS hO (k := l.length) (Nat.le_refl _)
  rwa [List.take_length] at this
/-- Whether a node reads one of the first x that was done and changed. -/
def rdd (R : List (List Int)) (d : List Int) (ch : Int → Bool) (v x : Nat) : Bool := (List.range x).any fun w => ghas R ((v : Nat) : Int) ((w : Nat) : Int) && decide (((w : Nat) : Int) ∈ d) && ch ((w : Nat) : Int)
omit hS hO in
theorem rdd_step (R : List (List Int)) (d : List Int) (ch : Int → Bool) (v x : Nat) : rdd R d ch v (x + 1) = (rdd R d ch v x || (ghas R ((v : Nat) : Int) ((x : Nat) : Int) && decide (((x : Nat) : Int) ∈ d) && ch ((x : Nat) : Int))) := by
  unfold rdd
  rw [List.range_succ, List.any_append]
  simp
/-- A node is done just if it is dirty, or reads one that was done and changed. -/
theorem stops_eq (hI : GrI R) (hs : ∀ x ∈ sel R.length (fnd S), x ∈ l) {v : Nat} (hv : v < R.length) :
    (decide (((v : Nat) : Int) ∈ D) || rdd R (don R D ch l) ch v R.length) = decide (((v : Nat) : Int) ∈ don R D ch l) := by
  have key : ∀ {k w : Nat}, Way R.length (nUp R) D k w → ((w : Nat) : Int) ∈ l := fun {k w} h => hs _ (mem_sel.2 ⟨gnd_nat h.lt, (fnd_way hS w).2 ⟨h.lt, k, h⟩⟩)
  have place : ∀ {x : Int}, x ∈ l → ∃ i, i < l.length ∧ l.getD i 0 = x := fun {x} h => by
    obtain ⟨i, hi, e⟩ := List.mem_iff_getElem.1 h
    exact ⟨i, hi, by rw [getD_lt _ _ hi]; exact e⟩
  rw [Bool.eq_iff_iff, Bool.or_eq_true, decide_eq_true_iff, decide_eq_true_iff, rdd, List.any_eq_true]
  constructor
  · rintro (h | ⟨w, hw, h⟩)
    · obtain ⟨i, hi, e⟩ := place (key (k := 0) ⟨hv, h⟩)
      exact don_mem.2 ⟨i, hi, e, by unfold mst; rw [decide_eq_true h]; rfl⟩
    · rw [Bool.and_eq_true, Bool.and_eq_true, decide_eq_true_iff] at h
      obtain ⟨⟨h1, h2⟩, h3⟩ := h
      have hw := List.mem_range.1 hw
      have hg : ((w : Nat) : Int) ∈ gR R v := Classical.byContradiction fun q => by rw [ghas_no hv q] at h1; cases h1
      have hl := don_of h2
      obtain ⟨w2, hww, hwS⟩ := pl_node hS hO hl
      have ew : w2 = w := by omega
      subst ew
      obtain ⟨_, q, hq⟩ := (fnd_way hS w2).1 hwS.2
      obtain ⟨i, hi, e⟩ := place (key (k := q + 1) ⟨hv, w2, hq, (up_iff hv w2).2 hg⟩)
      obtain ⟨_, _, k3⟩ := hO.step.at hi
      rw [e, Int.toNat_natCast] at k3
      have ht := k3 _ hg (hO.step.sub _ hl)
      refine don_mem.2 ⟨i, hi, e, ?_⟩
      unfold mst
      rw [Bool.or_eq_true, List.any_eq_true]
      refine Or.inr ⟨((w2 : Nat) : Int), by rw [greads_nat hv]; exact hg, ?_⟩
      rw [Bool.and_eq_true, decide_eq_true_iff]
      refine ⟨?_, h3⟩
      obtain ⟨j, j1, j2, j3⟩ := don_mem.1 h2
      obtain ⟨z, hz, e2⟩ := List.mem_iff_getElem.1 ht
      rw [List.length_take] at hz
      have : z = j := getD_inj hO.step.nodup (by omega) j1 (by rw [getD_lt _ _ (show z < l.length by omega), j2, ← e2, List.getElem_take])
      exact (mem_don (by omega)).2 ⟨j, by omega, j2, j3⟩
  · intro h
    obtain ⟨i, hi, e, hm⟩ := don_mem.1 h
    unfold mst at hm
    rw [Bool.or_eq_true, decide_eq_true_iff, List.any_eq_true] at hm
    rcases hm with hm | ⟨x, hx, hm⟩
    · exact Or.inl hm
    · rw [Bool.and_eq_true, decide_eq_true_iff] at hm
      rw [greads_nat hv] at hx
      obtain ⟨w, rfl, hw⟩ := gnd_natV (hI.nodes v x hx)
      refine Or.inr ⟨w, List.mem_range.2 hw, ?_⟩
      rw [ghas_yes hv hx, decide_eq_true (don_up (by omega) hm.1), hm.2]
      rfl
end
end
end Go.Proofs.YtbaeanpdjdcheaaGreat
