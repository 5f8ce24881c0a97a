/-
  The document's own way to what is reached: again and again, until nothing more is. In plain words; no Go function is walked here.
-/
import Derived.Test.YtpjnpmdpabnjkaaRchM
import Derived.Test.YtpjnpmdpabnjkaaGrT0
namespace Go.Proofs.Ytpjnpmdpabnjkaa
open Go.RowKit
set_option linter.unusedSimpArgs false
set_option linter.unusedVariables false

/-- What each node leads to: who reads it; what it reads. -/
def nUp (R : List (List Int)) (v : Nat) : List Int := grdrs R (v : Int)
def nDn (R : List (List Int)) (v : Nat) : List Int := greads R (v : Int)
/-- Read number i of node v. -/
def gY (R : List (List Int)) (v i : Nat) : Nat := ((gR R v).getD i 0).toNat
theorem gY_is {R : List (List Int)} (hI : GrI R) {v i : Nat} (hi : i < (gR R v).length) : (gR R v).getD i 0 = ((gY R v i : Nat) : Int) ∧ gY R v i < R.length := by
  have := hI.nodes v _ (getD_mem hi)
  unfold gnd at this; unfold gY; omega
theorem gY_mem {R : List (List Int)} (hI : GrI R) {v i : Nat} (hi : i < (gR R v).length) : ((gY R v i : Nat) : Int) ∈ gR R v := by
  rw [← (gY_is hI hi).1]; exact getD_mem hi
theorem up_iff {R : List (List Int)} {v : Nat} (hv : v < R.length) (u : Nat) : (v : Int) ∈ nUp R u ↔ (u : Int) ∈ gR R v := mem_grdrs hv _
theorem dn_iff {R : List (List Int)} {u : Nat} (hu : u < R.length) (v : Nat) : (v : Int) ∈ nDn R u ↔ (v : Int) ∈ gR R u := by unfold nDn; rw [greads_nat hu]
theorem gY_of {R : List (List Int)} {v u : Nat} (h : (u : Int) ∈ gR R v) : ∃ i, i < (gR R v).length ∧ gY R v i = u := by
  obtain ⟨i, hi, e⟩ := mem_getD h
  exact ⟨i, hi, by unfold gY; rw [e]; simp⟩
def begn (n : Nat) (L : List Int) : List Bool := (List.range n).map fun v => decide (((v : Nat) : Int) ∈ L)
theorem begn_len (n : Nat) (L : List Int) : (begn n L).length = n := by simp [begn]
theorem begn_at {n : Nat} {L : List Int} (v : Nat) : (begn n L).getD v false = true ↔ v < n ∧ ((v : Nat) : Int) ∈ L := by
  unfold begn
  by_cases h : v < n
  · simp [List.getD, h]
  · simp [List.getD, h]
theorem getD_setB {I : List Bool} {v : Nat} (hv : v < I.length) (b : Bool) (u : Nat) : (I.set v b).getD u false = if u = v then b else I.getD u false := by
  by_cases e : u = v
  · subst e; simp [List.getD, hv]
  · rw [if_neg e]; simp [List.getD, List.getElem?_set, Ne.symm e]
section
variable {R : List (List Int)} {L : List Int} {I : List Bool} {r v k : Nat}
/-- The nodes so far: I; r times round; up to v in this round. -/
structure RchV (R : List (List Int)) (L : List Int) (I : List Bool) (r v : Nat) : Prop where
  len : I.length = R.length
  snd : ∀ u, I.getD u false = true → ∃ k, Way R.length (nUp R) L k u
  cmp : ∀ j u, j ≤ r → Way R.length (nUp R) L j u → I.getD u false = true
  up : ∀ u, u < v → Way R.length (nUp R) L (r + 1) u → I.getD u false = true
structure RchI (R : List (List Int)) (L : List Int) (I : List Bool) (r v k : Nat) : Prop where
  t : RchV R L I r v
  hv : v < R.length
  hd : ∀ i, i < k → i < (gR R v).length → Way R.length (nUp R) L r (gY R v i) → I.getD v false = true
theorem RchI.step (h : RchI R L I r v k) (hI : GrI R) (hk : k < (gR R v).length) : RchI R L (I.set v (I.getD v false || I.getD (gY R v k) false)) r v (k + 1) := by
  have hvl : v < I.length := by rw [h.t.len]; exact h.hv
  have hm : ∀ u, I.getD u false = true → (I.set v (I.getD v false || I.getD (gY R v k) false)).getD u false = true := fun u hu => by
    rw [getD_setB hvl]
    by_cases e : u = v
    · rw [if_pos e, ← e, hu]; rfl
    · rw [if_neg e]; exact hu
  refine ⟨⟨by rw [List.length_set]; exact h.t.len, fun u hu => ?_, fun j u hj hw => hm u (h.t.cmp j u hj hw), fun u hu hw => hm u (h.t.up u hu hw)⟩, h.hv, fun i hi hl hw => ?_⟩
  · rw [getD_setB hvl] at hu
    by_cases e : u = v
    · subst e
      rw [if_pos rfl, Bool.or_eq_true] at hu
      rcases hu with q | q
      · exact h.t.snd u q
      · obtain ⟨j, hj⟩ := h.t.snd _ q
        exact ⟨j + 1, h.hv, _, hj, (up_iff h.hv _).2 (gY_mem hI hk)⟩
    · rw [if_neg e] at hu; exact h.t.snd u hu
  · by_cases e : i = k
    · subst e
      rw [getD_setB hvl, if_pos rfl, h.t.cmp r _ (Nat.le_refl _) hw, Bool.or_true]
    · exact hm v (h.hd i (by omega) hl hw)
theorem RchI.leave (h : RchI R L I r v (gR R v).length) : RchV R L I r (v + 1) :=
  ⟨h.t.len, h.t.snd, h.t.cmp, fun u hu hw => by
    by_cases e : u = v
    · subst e
      obtain ⟨_, y, hy, hm⟩ := hw
      obtain ⟨i, hi, e⟩ := gY_of ((up_iff h.hv _).1 hm)
      exact h.hd i hi hi (by rw [e]; exact hy)
    · exact h.t.up u (by omega) hw⟩
theorem RchV.next (h : RchV R L I r R.length) : RchV R L I (r + 1) 0 :=
  ⟨h.len, h.snd, fun j u hj hw => by
    by_cases e : j = r + 1
    · subst e; exact h.up u hw.lt hw
    · exact h.cmp j u (by omega) hw, fun u hu => absurd hu (Nat.not_lt_zero u)⟩
theorem RchV.begin (R : List (List Int)) (L : List Int) : RchV R L (begn R.length L) 0 0 :=
  ⟨begn_len _ _, fun u hu => ⟨0, (begn_at u).1 hu⟩, fun j u hj hw => by
    obtain rfl : j = 0 := by omega
    exact (begn_at u).2 hw, fun u hu => absurd hu (Nat.not_lt_zero u)⟩
theorem RchV.final (h : RchV R L I R.length v) : ∀ u, u < R.length → (I.getD u false = true ↔ ∃ k, Way R.length (nUp R) L k u) := fun u hu =>
  ⟨h.snd u, fun ⟨k, hk⟩ => by
    obtain ⟨d, h1, _, h3, _⟩ := way_short hk
    exact h.cmp d u (by omega) h3⟩

/-- The same from who reads to what is read. -/
structure NedV (R : List (List Int)) (L : List Int) (I : List Bool) (r v : Nat) : Prop where
  len : I.length = R.length
  snd : ∀ u, I.getD u false = true → ∃ k, Way R.length (nDn R) L k u
  cmp : ∀ j u, j ≤ r → Way R.length (nDn R) L j u → I.getD u false = true
  up : ∀ u, u < v → Way R.length (nDn R) L r u → ∀ i, i < (gR R u).length → I.getD (gY R u i) false = true
structure NedI (R : List (List Int)) (L : List Int) (I : List Bool) (r v k : Nat) : Prop where
  t : NedV R L I r v
  hv : v < R.length
  hd : ∀ i, i < k → i < (gR R v).length → I.getD (gY R v i) false = true
theorem NedI.step (h : NedI R L I r v k) (hI : GrI R) (hk : k < (gR R v).length) (hin : I.getD v false = true) : NedI R L (I.set (gY R v k) true) r v (k + 1) := by
  have hvl : gY R v k < I.length := by rw [h.t.len]; exact (gY_is hI hk).2
  have hm : ∀ u, I.getD u false = true → (I.set (gY R v k) true).getD u false = true := fun u hu => by
    rw [getD_setB hvl]
    split
    · rfl
    · exact hu
  refine ⟨⟨by rw [List.length_set]; exact h.t.len, fun u hu => ?_, fun j u hj hw => hm u (h.t.cmp j u hj hw), fun u hu hw i hi => hm _ (h.t.up u hu hw i hi)⟩, h.hv, fun i hi hl => ?_⟩
  · rw [getD_setB hvl] at hu
    by_cases e : u = gY R v k
    · obtain ⟨j, hj⟩ := h.t.snd _ hin
      refine ⟨j + 1, by rw [e]; exact (gY_is hI hk).2, v, hj, (dn_iff h.hv _).2 ?_⟩
      rw [e]; exact gY_mem hI hk
    · rw [if_neg e] at hu; exact h.t.snd u hu
  · by_cases e : i = k
    · subst e; rw [getD_setB hvl, if_pos rfl]
    · exact hm _ (h.hd i (by omega) hl)
theorem NedI.leave (h : NedI R L I r v k) (he : k = (gR R v).length ∨ I.getD v false = false) : NedV R L I r (v + 1) :=
  ⟨h.t.len, h.t.snd, h.t.cmp, fun u hu hw i hi => by
    by_cases e : u = v
    · subst e
      rcases he with q | q
      · exact h.hd i (by omega) hi
      · rw [h.t.cmp r u (Nat.le_refl _) hw] at q; cases q
    · exact h.t.up u (by omega) hw i hi⟩
theorem NedV.next (h : NedV R L I r R.length) : NedV R L I (r + 1) 0 :=
  ⟨h.len, h.snd, fun j u hj hw => by
    by_cases e : j = r + 1
    · subst e
      obtain ⟨_, y, hy, hm⟩ := hw
      obtain ⟨i, hi, e⟩ := gY_of ((dn_iff hy.lt _).1 hm)
      rw [← e]; exact h.up y hy.lt hy i hi
    · exact h.cmp j u (by omega) hw, fun u hu => absurd hu (Nat.not_lt_zero u)⟩
theorem NedV.begin (R : List (List Int)) (L : List Int) : NedV R L (begn R.length L) 0 0 :=
  ⟨begn_len _ _, fun u hu => ⟨0, (begn_at u).1 hu⟩, fun j u hj hw => by
    obtain rfl : j = 0 := by omega
    exact (begn_at u).2 hw, fun u hu => absurd hu (Nat.not_lt_zero u)⟩
theorem NedV.final (h : NedV R L I R.length v) : ∀ u, u < R.length → (I.getD u false = true ↔ ∃ k, Way R.length (nDn R) L k u) := fun u hu =>
  ⟨h.snd u, fun ⟨k, hk⟩ => by
    obtain ⟨d, h1, _, h3, _⟩ := way_short hk
    exact h.cmp d u (by omega) h3⟩

/-- The steps so far. -/
structure StpV (R : List (List Int)) (L S : List Int) (r v : Nat) : Prop where
  len : S.length = R.length
  snd : ∀ u, u < R.length → S.getD u 0 = -1 ∨ ∃ d : Nat, S.getD u 0 = (d : Int) ∧ Way R.length (nUp R) L d u
  cmp : ∀ j u, j ≤ r → Way R.length (nUp R) L j u → S.getD u 0 ≠ -1 ∧ S.getD u 0 ≤ (j : Int)
  up : ∀ u, u < v → ∀ j, j ≤ r + 1 → Way R.length (nUp R) L j u → S.getD u 0 ≠ -1 ∧ S.getD u 0 ≤ (j : Int)
  few : ∃ Q : List Int, Q.Nodup ∧ (∀ x ∈ Q, gnd R.length x ∧ S.getD x.toNat 0 ≠ -1) ∧ ∀ u, u < R.length → S.getD u 0 < (Q.length : Int)
theorem StpV.lt {S : List Int} (h : StpV R L S r v) {u : Nat} (hu : u < R.length) : S.getD u 0 < (R.length : Int) := by
  obtain ⟨Q, h1, h2, h3⟩ := h.few
  have := nodup_len h1 fun x hx => (h2 x hx).1
  have := h3 u hu
  omega
structure StpI (R : List (List Int)) (L S : List Int) (r v k : Nat) : Prop where
  t : StpV R L S r v
  hv : v < R.length
  hd : ∀ i, i < k → i < (gR R v).length → ∀ j, j ≤ r → Way R.length (nUp R) L j (gY R v i) → S.getD v 0 ≠ -1 ∧ S.getD v 0 ≤ (j : Int) + 1
/-- Whether a node is nearer by what it reads. -/
def nearer (S : List Int) (v : Nat) (z : Int) : Bool := decide (0 ≤ z) && (decide (S.getD v 0 < 0) || decide (z + 1 < S.getD v 0))
theorem StpI.stay {S : List Int} (h : StpI R L S r v k) (hI : GrI R) (hk : k < (gR R v).length) (hn : nearer S v (S.getD (gY R v k) 0) = false) : StpI R L S r v (k + 1) :=
  ⟨h.t, h.hv, fun i hi hl j hj hw => by
    by_cases e : i = k
    · subst e
      obtain ⟨h1, h2⟩ := h.t.cmp j _ hj hw
      unfold nearer at hn
      have h3 : 0 ≤ S.getD (gY R v i) 0 := by
        rcases h.t.snd _ (gY_is hI hk).2 with q | ⟨d, q, _⟩
        · exact absurd q h1
        · omega
      rw [decide_eq_true h3, Bool.true_and, Bool.or_eq_false_iff, decide_eq_false_iff_not, decide_eq_false_iff_not] at hn
      omega
    · exact h.hd i (by omega) hl j hj hw⟩
theorem StpI.turn {S : List Int} (h : StpI R L S r v k) (hI : GrI R) (hk : k < (gR R v).length) (hn : nearer S v (S.getD (gY R v k) 0) = true) : StpI R L (S.set v (S.getD (gY R v k) 0 + 1)) r v (k + 1) := by
  have hvl : v < S.length := by rw [h.t.len]; exact h.hv
  obtain ⟨hy, hyl⟩ := gY_is hI hk
  unfold nearer at hn
  rw [Bool.and_eq_true, Bool.or_eq_true, decide_eq_true_iff, decide_eq_true_iff, decide_eq_true_iff] at hn
  obtain ⟨z, hz, hzw⟩ : ∃ d : Nat, S.getD (gY R v k) 0 = (d : Int) ∧ Way R.length (nUp R) L d (gY R v k) := by
    rcases h.t.snd _ hyl with q | q
    · omega
    · exact q
  rw [hz] at hn ⊢
  have hset : ∀ u, (S.set v ((z : Int) + 1)).getD u 0 = if u = v then (z : Int) + 1 else S.getD u 0 := fun u => getD_set hvl _ u
  have hm : ∀ (j : Nat) u, S.getD u 0 ≠ -1 ∧ S.getD u 0 ≤ (j : Int) → (S.set v ((z : Int) + 1)).getD u 0 ≠ -1 ∧ (S.set v ((z : Int) + 1)).getD u 0 ≤ (j : Int) := fun j u hu => by
    rw [hset]
    by_cases e : u = v
    · subst e
      rw [if_pos rfl]
      rcases h.t.snd u h.hv with q | ⟨d, q, _⟩ <;> omega
    · rw [if_neg e]; exact hu
  have hway : Way R.length (nUp R) L (z + 1) v := ⟨h.hv, _, hzw, (up_iff h.hv _).2 (gY_mem hI hk)⟩
  refine ⟨⟨by rw [List.length_set]; exact h.t.len, fun u hu => ?_, fun j u hj hw => hm j u (h.t.cmp j u hj hw), fun u hu j hj hw => hm j u (h.t.up u hu j hj hw), ?_⟩, h.hv, fun i hi hl j hj hw => ?_⟩
  · rw [hset]
    by_cases e : u = v
    · subst e; rw [if_pos rfl]; exact Or.inr ⟨z + 1, by omega, hway⟩
    · rw [if_neg e]; exact h.t.snd u hu
  · obtain ⟨Q, h1, h2, h3⟩ := h.t.few
    have h4 := h3 _ hyl
    rw [hz] at h4
    by_cases e : S.getD v 0 = -1
    · refine ⟨(v : Int) :: Q, List.nodup_cons.2 ⟨fun q => (h2 _ q).2 (by simpa using e), h1⟩, fun x hx => ?_, fun u hu => ?_⟩
      · rw [hset]
        rcases List.mem_cons.1 hx with rfl | q
        · refine ⟨⟨by omega, by have := h.hv; omega⟩, ?_⟩
          rw [Int.toNat_natCast, if_pos rfl]; omega
        · refine ⟨(h2 x q).1, ?_⟩
          split
          · omega
          · exact (h2 x q).2
      · rw [hset, List.length_cons]
        have := h3 u hu
        split <;> omega
    · refine ⟨Q, h1, fun x hx => ⟨(h2 x hx).1, ?_⟩, fun u hu => ?_⟩
      · rw [hset]
        split
        · omega
        · exact (h2 x hx).2
      · rw [hset]
        have := h3 u hu
        have := h3 v h.hv
        split
        · rcases h.t.snd v h.hv with q | ⟨d, q, _⟩ <;> omega
        · omega
  · by_cases e : i = k
    · subst e
      rw [hset, if_pos rfl]
      have := h.t.cmp j _ hj hw
      rw [hz] at this
      omega
    · have := hm (j + 1) v (by have := h.hd i (by omega) hl j hj hw; omega)
      omega
theorem StpI.leave {S : List Int} (h : StpI R L S r v (gR R v).length) : StpV R L S r (v + 1) :=
  ⟨h.t.len, h.t.snd, h.t.cmp, fun u hu j hj hw => by
    by_cases e : u = v
    · subst e
      by_cases e2 : j ≤ r
      · exact h.t.cmp j u e2 hw
      · obtain rfl : j = r + 1 := by omega
        obtain ⟨_, y, hy, hm⟩ := hw
        obtain ⟨i, hi, e⟩ := gY_of ((up_iff h.hv _).1 hm)
        have := h.hd i hi hi r (Nat.le_refl _) (by rw [e]; exact hy)
        omega
    · exact h.t.up u (by omega) j hj hw, h.t.few⟩
theorem StpV.next {S : List Int} (h : StpV R L S r R.length) : StpV R L S (r + 1) 0 :=
  ⟨h.len, h.snd, fun j u hj hw => h.up u hw.lt j hj hw, fun u hu => absurd hu (Nat.not_lt_zero u), h.few⟩
def stp0 (n : Nat) (L : List Int) : List Int := (List.range n).map fun v => if ((v : Nat) : Int) ∈ L then 0 else -1
theorem stp0_at {n v : Nat} {L : List Int} (hv : v < n) : (stp0 n L).getD v 0 = if ((v : Nat) : Int) ∈ L then 0 else -1 := by simp [stp0, List.getD, hv]
theorem StpV.begin (R : List (List Int)) (L : List Int) : StpV R L (stp0 R.length L) 0 0 := by
  have hl : (stp0 R.length L).length = R.length := by simp [stp0]
  refine ⟨hl, fun u hu => ?_, fun j u hj hw => ?_, fun u hu => absurd hu (Nat.not_lt_zero u), fnd (stp0 R.length L), ?_, fun x hx => ?_, fun u hu => ?_⟩
  · rw [stp0_at hu]
    split
    · rename_i h; exact Or.inr ⟨0, rfl, hu, h⟩
    · exact Or.inl rfl
  · obtain rfl : j = 0 := by omega
    rw [stp0_at hw.1, if_pos hw.2]; simp
  · unfold fnd
    exact List.pairwise_map.2 ((List.Pairwise.filter _ List.nodup_range).imp fun hab e => hab (by exact_mod_cast e))
  · have := (mem_fnd x).1 hx
    rw [hl] at this; exact this
  · have hz := stp0_at (L := L) hu
    by_cases e : ((u : Nat) : Int) ∈ L
    · rw [if_pos e] at hz
      have : ((u : Nat) : Int) ∈ fnd (stp0 R.length L) := (mem_fnd _).2 ⟨by rw [hl]; exact ⟨by omega, by omega⟩, by rw [Int.toNat_natCast, hz]; omega⟩
      have := List.length_pos_of_mem this
      omega
    · rw [if_neg e] at hz; omega
theorem StpV.final {S : List Int} (h : StpV R L S R.length v) : IsSt R.length (nUp R) L S :=
  isst_of h.len h.snd fun k u hw => by
    obtain ⟨d, h1, h2, h3, _⟩ := way_short hw
    have := h.cmp d u (by omega) h3
    omega
end
end Go.Proofs.Ytpjnpmdpabnjkaa
