/-
  Graphs in plain words: a row of reads for each node; why a node can't read some others; what is added and dropped; who reads a node; how many edges there are. No Go function is walked here.
-/
import Derived.Test.YtbaeanpdjdcheaaGreatGrW
namespace Go.Proofs.YtbaeanpdjdcheaaGreat
open Go.RowKit
set_option linter.unusedSimpArgs false
set_option linter.unusedVariables false

/-- One of so many nodes. -/
def gnd (n : Nat) (v : Int) : Prop := 0 ≤ v ∧ v < (n : Int)
instance (n : Nat) (v : Int) : Decidable (gnd n v) := by unfold gnd; infer_instance
def gR (R : List (List Int)) (v : Nat) : List Int := R.getD v []
def gok (n : Nat) (v : Int) (l : List Int) : Prop := gnd n v ∧ ∀ w ∈ l, gnd n w
instance (n : Nat) (v : Int) (l : List Int) : Decidable (gok n v l) := by unfold gok; infer_instance
def gfault (n : Nat) (v : Int) (l : List Int) : Int := if gok n v l then (if v ∈ l then 26 else if l.Nodup then 0 else 35) else 2
def gset (R : List (List Int)) (v : Int) (l : List Int) : List (List Int) := if gfault R.length v l = 0 then R.set v.toNat l else R
def gmiss (l m : List Int) : Nat := (l.filter fun w => decide (w ∉ m)).length
def gadd (R : List (List Int)) (v : Int) (l : List Int) : Int := if gfault R.length v l = 0 then (gmiss l (gR R v.toNat) : Int) else 0
def gdrop (R : List (List Int)) (v : Int) (l : List Int) : Int := if gfault R.length v l = 0 then (gmiss (gR R v.toNat) l : Int) else 0
def greads (R : List (List Int)) (v : Int) : List Int := if gnd R.length v then gR R v.toNat else []
def ghas (R : List (List Int)) (v w : Int) : Bool := decide (w ∈ greads R v)
def grdrs (R : List (List Int)) (w : Int) : List Int := ((List.range R.length).filter fun u => decide (w ∈ gR R u)).map fun u => ((u : Nat) : Int)
def gedges (R : List (List Int)) : Nat := (R.map List.length).sum

/-- What a graph's rows always are. -/
structure GrI (R : List (List Int)) : Prop where
  lo : 1 ≤ R.length
  hi : R.length ≤ 20000
  nd : ∀ v, (gR R v).Nodup
  nodes : ∀ v, ∀ w ∈ gR R v, gnd R.length w
  self : ∀ v : Nat, ((v : Nat) : Int) ∉ gR R v
theorem gR_out {R : List (List Int)} {v : Nat} (h : R.length ≤ v) : gR R v = [] := by simp [gR, List.getD, List.getElem?_eq_none h]
theorem gR_rep (n v : Nat) : gR (List.replicate n []) v = [] := by
  unfold gR
  by_cases h : v < n <;> simp [List.getD, List.getElem?_replicate, h]
theorem gR_set {R : List (List Int)} {v : Nat} (hv : v < R.length) (l : List Int) (u : Nat) : gR (R.set v l) u = if u = v then l else gR R u := by
  unfold gR
  by_cases e : u = v
  · subst e; simp [List.getD, hv]
  · rw [if_neg e]; simp [List.getD, List.getElem?_set, Ne.symm e]
theorem GrI.new {n : Nat} (h1 : 1 ≤ n) (h2 : n ≤ 20000) : GrI (List.replicate n []) :=
  ⟨by simpa using h1, by simpa using h2, fun v => by rw [gR_rep]; exact List.nodup_nil, fun v w hw => absurd hw (by rw [gR_rep]; simp), fun v => by rw [gR_rep]; simp⟩
theorem gfault_ok {n : Nat} {v : Int} {l : List Int} (h : gfault n v l = 0) : gnd n v ∧ (∀ w ∈ l, gnd n w) ∧ v ∉ l ∧ l.Nodup := by
  unfold gfault at h
  split at h
  · rename_i hk
    split at h
    · cases h
    · rename_i h1
      split at h
      · rename_i h2; exact ⟨hk.1, hk.2, h1, h2⟩
      · cases h
  · cases h
theorem gfault_is {n : Nat} {v : Int} {l : List Int} (h1 : gnd n v) (h2 : ∀ w ∈ l, gnd n w) (h3 : v ∉ l) (h4 : l.Nodup) : gfault n v l = 0 := by
  unfold gfault
  rw [if_pos ⟨h1, h2⟩, if_neg h3, if_pos h4]
theorem gfault_cases (n : Nat) (v : Int) (l : List Int) : gfault n v l = 0 ∨ gfault n v l = 2 ∨ gfault n v l = 26 ∨ gfault n v l = 35 := by
  unfold gfault
  split
  · split
    · simp
    · split <;> simp
  · simp
theorem gset_len (R : List (List Int)) (v : Int) (l : List Int) : (gset R v l).length = R.length := by unfold gset; split <;> simp
theorem GrI.set {R : List (List Int)} (h : GrI R) (v : Int) (l : List Int) : GrI (gset R v l) := by
  unfold gset
  split
  · rename_i hf
    obtain ⟨h1, h2, h3, h4⟩ := gfault_ok hf
    have hv : v.toNat < R.length := by unfold gnd at h1; omega
    refine ⟨by simpa using h.lo, by simpa using h.hi, fun u => ?_, fun u w hw => ?_, fun u => ?_⟩
    · rw [gR_set hv]; split
      · exact h4
      · exact h.nd u
    · rw [gR_set hv] at hw
      rw [List.length_set]
      split at hw
      · exact h2 w hw
      · exact h.nodes u w hw
    · rw [gR_set hv]; split
      · rename_i e; subst e
        have : ((v.toNat : Nat) : Int) = v := by unfold gnd at h1; omega
        rw [this]; exact h3
      · exact h.self u
  · exact h
/-- A row without a double, all of it nodes, is no longer than there are nodes. -/
theorem nodup_len {n : Nat} {l : List Int} (h1 : l.Nodup) (h2 : ∀ w ∈ l, gnd n w) : l.length ≤ n := by
  have := MapSets.perm_range (N := n) (f := fun x => decide (x ∈ l)) h1 (fun x => by simp) (fun x hx => h2 x (by simpa using hx))
  rw [this.length_eq, List.length_map]
  exact Nat.le_trans (List.length_filter_le _ _) (by simp)
theorem GrI.len {R : List (List Int)} (h : GrI R) (v : Nat) : (gR R v).length ≤ R.length := nodup_len (h.nd v) (h.nodes v)
theorem sum_le {L : List Nat} {n : Nat} (h : ∀ x ∈ L, x ≤ n) : L.sum ≤ L.length * n := by
  induction L with
  | nil => simp
  | cons x l ih =>
    have h1 := h x (by simp)
    have h2 := ih fun y hy => h y (by simp [hy])
    simp only [List.sum_cons, List.length_cons]
    rw [Nat.add_mul, Nat.one_mul]; omega
theorem GrI.edges {R : List (List Int)} (h : GrI R) : gedges R ≤ 400000000 := by
  have h1 : gedges R ≤ R.length * R.length := by
    have := sum_le (L := R.map List.length) (n := R.length) (fun x hx => by
      obtain ⟨l, hl, rfl⟩ := List.mem_map.1 hx
      obtain ⟨v, hv, rfl⟩ := List.getElem_of_mem hl
      have := h.len v
      unfold gR at this
      simpa [List.getD, hv] using this)
    simpa [gedges] using this
  have h2 : R.length * R.length ≤ 20000 * 20000 := Nat.mul_le_mul h.hi h.hi
  omega
theorem gmiss_le (l m : List Int) : gmiss l m ≤ l.length := List.length_filter_le _ _
/-- What is new here and what is old there balance. -/
theorem gmiss_both {l m : List Int} (hl : l.Nodup) (hm : m.Nodup) : gmiss l m + m.length = gmiss m l + l.length := by
  have split_len : ∀ (p : Int → Bool) (L : List Int), (L.filter p).length + (L.filter fun x => !p x).length = L.length := fun p L => by
    induction L with
    | nil => rfl
    | cons x L ih => cases hp : p x <;> simp [hp] <;> omega
  have e1 := split_len (fun w => decide (w ∉ m)) l
  have e2 := split_len (fun w => decide (w ∉ l)) m
  have hp : (l.filter fun x => !decide (x ∉ m)).Perm (m.filter fun x => !decide (x ∉ l)) := by
    refine (List.perm_ext_iff_of_nodup (hl.filter _) (hm.filter _)).2 fun x => ?_
    simp [and_comm]
  have e3 := hp.length_eq
  unfold gmiss
  omega
theorem sum_set : ∀ (R : List (List Int)) (v : Nat) (l : List Int), v < R.length → ((R.set v l).map List.length).sum + (R.getD v []).length = (R.map List.length).sum + l.length
  | [], _, _, h => by cases h
  | a :: R, 0, l, _ => by simp; omega
  | a :: R, v + 1, l, h => by
    have := sum_set R v l (by simpa using h)
    simp [List.getD] at this ⊢
    omega
theorem gedges_set {R : List (List Int)} (h : GrI R) {v : Int} {l : List Int} (hf : gfault R.length v l = 0) : (gedges (gset R v l) : Int) = (gedges R : Int) + (gadd R v l - gdrop R v l) := by
  obtain ⟨h1, h2, h3, h4⟩ := gfault_ok hf
  have hv : v.toNat < R.length := by unfold gnd at h1; omega
  have e1 := sum_set R v.toNat l hv
  have e2 := gmiss_both h4 (h.nd v.toNat)
  unfold gset gadd gdrop gedges
  rw [if_pos hf, if_pos hf, if_pos hf]
  unfold gR at *
  omega
/-- Who reads whom, from the readers' side. -/
def gq (R : List (List Int)) (w : Nat) (u : Int) : Bool := decide (gnd R.length u ∧ ((w : Nat) : Int) ∈ gR R u.toNat)
theorem gq_sup {R : List (List Int)} {w : Nat} {u : Int} (h : gq R w u = true) : 0 ≤ u ∧ u < (R.length : Int) := (of_decide_eq_true h).1
theorem gq_has {R : List (List Int)} (w : Nat) (v : Int) : gq R w v = ghas R v ((w : Nat) : Int) := by
  unfold gq ghas greads
  by_cases h : gnd R.length v
  · rw [if_pos h]; exact decide_eq_decide.2 ⟨fun q => q.2, fun q => ⟨h, q⟩⟩
  · rw [if_neg h]; simp [h]
theorem ghas_node {R : List (List Int)} (hI : GrI R) (v w : Int) : ghas R v w = (decide (gnd R.length w) && gq R w.toNat v) := by
  by_cases h : gnd R.length w
  · rw [gq_has]
    have : ((w.toNat : Nat) : Int) = w := by unfold gnd at h; omega
    simp [h, this]
  · have : ghas R v w = false := decide_eq_false fun q => h (by
      unfold greads at q
      split at q
      · exact hI.nodes _ _ q
      · cases q)
    simp [h, this]
theorem grdrs_out {R : List (List Int)} (hI : GrI R) {w : Int} (h : ¬ gnd R.length w) : grdrs R w = [] := by
  unfold grdrs
  rw [List.map_eq_nil_iff, List.filter_eq_nil_iff]
  intro u _ q
  exact h (hI.nodes u w (of_decide_eq_true q))
theorem grdrs_q {R : List (List Int)} (w : Nat) (hN : R.length ≤ 20000) : (((List.range R.length).filter fun u => gq R w ((u : Nat) : Int) && decide (InR ((u : Nat) : Int))).map fun u => ((u : Nat) : Int)) = grdrs R ((w : Nat) : Int) := by
  unfold grdrs
  congr 1
  refine List.filter_congr fun u hu => ?_
  have hu' := List.mem_range.1 hu
  have h1 : decide (InR ((u : Nat) : Int)) = true := decide_eq_true (by unfold InR; omega)
  rw [h1, Bool.and_true]
  unfold gq
  exact decide_eq_decide.2 ⟨fun q => by simpa using q.2, fun q => ⟨by unfold gnd; omega, by simpa using q⟩⟩
/-- A rising row stays as it is when it is sorted. -/
theorem range_sorted (n : Nat) (p : Nat → Bool) : ((((List.range n).filter p).map fun u => ((u : Nat) : Int)).mergeSort fun x y => decide (x ≤ y)) = ((List.range n).filter p).map fun u => ((u : Nat) : Int) := by
  refine List.mergeSort_of_pairwise (List.pairwise_map.2 ?_)
  refine (List.Pairwise.filter _ (List.pairwise_lt_range (n := n))).imp fun {a b} h => decide_eq_true (by omega)
end Go.Proofs.YtbaeanpdjdcheaaGreat
