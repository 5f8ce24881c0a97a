/-
  What OrderStands needs of orders and waves, in plain words. No Go function is walked here.
-/
import Derived.Test.YthaepdkeakmfaaaOrdA
namespace Go.Proofs.Ythaepdkeakmfaaa
open Go.RowKit
set_option linter.unusedSimpArgs false
set_option linter.unusedVariables false

/-- What an order is told of, node by node. -/
def StdA (R : List (List Int)) (L l : List Int) : Prop := ∀ i, i < l.length → ∃ x : Nat, l.getD i 0 = ((x : Nat) : Int) ∧ x < R.length ∧ ((x : Nat) : Int) ∈ L ∧ ((x : Nat) : Int) ∉ l.take i ∧ ∀ k, i ≤ k → k < l.length → ghas R ((x : Nat) : Int) (l.getD k 0) = false
/-- .. and waves. -/
def StdW (R : List (List Int)) (l : List Int) (rs : List (List Int)) : Prop := ∀ q, q < rs.length → ∀ k, k < (rAt rs q).length → ∃ x : Nat, (rAt rs q).getD k 0 = ((x : Nat) : Int) ∧ x < R.length ∧ ((x : Nat) : Int) ∈ l ∧ (∀ p, q = p + 1 → ∃ t, t < (rAt rs p).length ∧ ghas R ((x : Nat) : Int) ((rAt rs p).getD t 0) = true) ∧ (∀ j, k = j + 1 → (rAt rs q).getD j 0 < ((x : Nat) : Int)) ∧ ∀ j, q ≤ j → j < rs.length → ∀ m, m < (rAt rs j).length → ghas R ((x : Nat) : Int) ((rAt rs j).getD m 0) = false
/-- Does a node read one of the first ones of a row? -/
def rdj (R : List (List Int)) (x : Int) (row : List Int) (j : Nat) : Bool := (List.range j).any fun t => ghas R x (row.getD t 0)
theorem rdj_step (R : List (List Int)) (x : Int) (row : List Int) (j : Nat) : rdj R x row (j + 1) = (rdj R x row j || ghas R x (row.getD j 0)) := by
  unfold rdj; rw [List.range_succ, List.any_append]; simp
theorem rdj_all {R : List (List Int)} {x : Int} {row : List Int} {t : Nat} (ht : t < row.length) (h : ghas R x (row.getD t 0) = true) : rdj R x row row.length = true :=
  List.any_eq_true.2 ⟨t, List.mem_range.2 ht, h⟩
theorem ghas_no {R : List (List Int)} {x : Nat} (hx : x < R.length) {y : Int} (hy : y ∉ gR R x) : ghas R ((x : Nat) : Int) y = false := by
  unfold ghas; rw [greads_nat hx]; exact decide_eq_false hy
theorem ghas_yes {R : List (List Int)} {x : Nat} (hx : x < R.length) {y : Int} (hy : y ∈ gR R x) : ghas R ((x : Nat) : Int) y = true := by
  unfold ghas; rw [greads_nat hx]; exact decide_eq_true hy
theorem gnd_natV {n : Nat} {z : Int} (h : gnd n z) : ∃ x : Nat, z = ((x : Nat) : Int) ∧ x < n := ⟨z.toNat, by unfold gnd at h; omega, by unfold gnd at h; omega⟩
theorem getD_inj {l : List Int} (h : l.Nodup) {i k : Nat} (hi : i < l.length) (hk : k < l.length) (e : l.getD i 0 = l.getD k 0) : i = k := by
  rw [getD_lt _ _ hi, getD_lt _ _ hk] at e
  rcases Nat.lt_trichotomy i k with q | q | q
  · exact absurd e (List.pairwise_iff_getElem.1 h i k hi hk q)
  · exact q
  · exact absurd e.symm (List.pairwise_iff_getElem.1 h k i hk hi q)
theorem std_a {R : List (List Int)} {L l : List Int} (h : IsOrd R (sel R.length L) l) : StdA R L l := fun i hi => by
  obtain ⟨h1, h2, h3⟩ := h.step.at hi
  obtain ⟨x, hx, hl⟩ := gnd_natV (mem_sel.1 h1).1
  rw [hx] at h1 h2 h3
  rw [Int.toNat_natCast] at h3
  refine ⟨x, hx, hl, (mem_sel.1 h1).2, h2, fun k hk hkl => ghas_no hl fun q => ?_⟩
  have h4 := h3 _ q (h.step.sub _ (by rw [getD_lt _ _ hkl]; exact List.getElem_mem hkl))
  obtain ⟨j, hj, e⟩ := List.getElem_of_mem h4
  rw [List.length_take] at hj
  rw [List.getElem_take] at e
  have := getD_inj h.step.nodup (i := j) (k := k) (by omega) hkl (by rw [getD_lt _ _ (show j < l.length by omega)]; exact e)
  omega
theorem std_s {R : List (List Int)} {L l : List Int} (hs : ¬ ∃ x ∈ sel R.length L, x ∉ l) {z : Int} (h1 : 0 ≤ z) (h2 : z < (R.length : Int)) (h3 : z ∈ L) : z ∈ l :=
  Classical.byContradiction fun q => hs ⟨z, mem_sel.2 ⟨by unfold gnd; omega, h3⟩, q⟩
theorem flat_take {rows : List (List Int)} {q : Nat} {x : Int} (hq : q ≤ rows.length) (h : x ∈ (rows.take q).flatten) : x ∈ rows.flatten := by
  obtain ⟨j, hj, hx⟩ := mem_flat hq h
  have := flat_mem (rows := rows) (i := rows.length) (j := j) (by omega) (Nat.le_refl _) hx
  rwa [List.take_length] at this
theorem flat_twice {rows : List (List Int)} (hn : ∀ i, i ≤ rows.length → (rows.take i).flatten.Nodup) {q j : Nat} (hqj : q ≤ j) (hj : j < rows.length) {y : Int} (h1 : y ∈ (rows.take q).flatten) (h2 : y ∈ rAt rows j) : False := by
  obtain ⟨p, hp, hy⟩ := mem_flat (by omega) h1
  have h3 := hn (j + 1) hj
  rw [flat_step hj] at h3
  exact (List.nodup_append.1 h3).2.2 y (flat_mem (i := j) (by omega) (by omega) hy) y h2 rfl
theorem std_w {R : List (List Int)} {L l : List Int} {rs : List (List Int)} (hk : IsWav R (sel R.length L) rs) (hs : ¬ ∃ x ∈ sel R.length L, x ∉ l) : StdW R l rs := fun q hq k hkl => by
  have hm : (rAt rs q).getD k 0 ∈ rAt rs q := by rw [getD_lt _ _ hkl]; exact List.getElem_mem hkl
  obtain ⟨h1, h2, h3⟩ := hk.step.at hq hm
  obtain ⟨x, hx, hl⟩ := gnd_natV (mem_sel.1 h1).1
  have hnd := hk.step.nodup (sel_rises R.length L).nodup
  refine ⟨x, hx, hl, ?_, fun p hp => ?_, fun j hj => ?_, fun j hqj hjl m hm2 => ?_⟩
  · rw [← hx]; exact Classical.byContradiction fun r => hs ⟨_, h1, r⟩
  · subst hp
    obtain ⟨w, hw1, hw2⟩ := hk.step.ahead hq hm
    obtain ⟨t, ht, e⟩ := List.getElem_of_mem hw2
    refine ⟨t, ht, ghas_yes hl ?_⟩
    rw [hx, Int.toNat_natCast] at hw1
    rw [getD_lt _ _ ht, e]; exact hw1
  · subst hj
    have hr : Rises (rAt rs q) := by rw [(hk.step q hq).1]; exact wrow_rises (sel_rises _ _) _
    have := List.pairwise_iff_getElem.1 hr j (j + 1) (by omega) hkl (by omega)
    rw [← hx, getD_lt _ _ hkl, getD_lt _ _ (by omega)]; exact this
  · refine ghas_no hl fun r => ?_
    rw [hx, Int.toNat_natCast] at h3
    have hy : (rAt rs j).getD m 0 ∈ rAt rs j := by rw [getD_lt _ _ hm2]; exact List.getElem_mem hm2
    exact flat_twice hnd hqj hjl (h3 _ r (hk.step.at hjl hy).1) hy
theorem std_n {R : List (List Int)} {L l : List Int} {rs : List (List Int)} (h : IsOrd R (sel R.length L) l) (hk : IsWav R (sel R.length L) rs) (hs : ¬ ∃ x ∈ sel R.length L, x ∉ l) : rs.flatten.length = l.length := by
  have ha : ∀ x ∈ sel R.length L, x ∈ l := fun x hx => Classical.byContradiction fun q => hs ⟨x, hx, q⟩
  have hb := (left_same h hk).1 ha
  have hnd := hk.step.nodup (sel_rises R.length L).nodup rs.length (Nat.le_refl _)
  rw [List.take_length] at hnd
  have e1 := (sub_len h.step.nodup (sel_rises R.length L).nodup h.step.sub).2.2 ha
  have e2 := (sub_len hnd (sel_rises R.length L).nodup hk.step.sub).2.2 hb
  omega
theorem std_len {R : List (List Int)} {L l : List Int} (hI : GrI R) (h : IsOrd R (sel R.length L) l) : l.length ≤ 20000 := by
  have := nodup_len (n := R.length) h.step.nodup fun x hx => (mem_sel.1 (h.step.sub x hx)).1
  have := hI.hi
  omega
/-- Some are left. -/
def StkP (s : Bool) (R : List (List Int)) (L l : List Int) : Prop := s = true ↔ ∃ x ∈ sel R.length L, x ∉ l
theorem StkP.no {R : List (List Int)} {L l : List Int} (h : StkP false R L l) : ¬ ∃ x ∈ sel R.length L, x ∉ l := fun q => Bool.noConfusion (h.2 q)
theorem std_same {R : List (List Int)} {L l : List Int} {rs : List (List Int)} {s t : Bool} (h : IsOrd R (sel R.length L) l) (hk : IsWav R (sel R.length L) rs) (hs : StkP s R L l) (ht : t = true ↔ ∃ x ∈ sel R.length L, x ∉ rs.flatten) : s = t := by
  refine Bool.eq_iff_iff.2 (hs.trans (Iff.trans ?_ ht.symm))
  have := left_same h hk
  constructor
  · rintro ⟨x, hx, q⟩
    exact Classical.byContradiction fun r => q (this.2 (fun y hy => Classical.byContradiction fun c => r ⟨y, hy, c⟩) x hx)
  · rintro ⟨x, hx, q⟩
    exact Classical.byContradiction fun r => q (this.1 (fun y hy => Classical.byContradiction fun c => r ⟨y, hy, c⟩) x hx)
theorem flat_len {rs : List (List Int)} {q : Nat} (h : q < rs.length) : (rs.take (q + 1)).flatten.length = (rs.take q).flatten.length + (rAt rs q).length := by rw [flat_step h, List.length_append]
theorem flat_le (rs : List (List Int)) (q : Nat) : (rs.take q).flatten.length ≤ rs.flatten.length := by
  have := congrArg List.length (congrArg List.flatten (List.take_append_drop q rs))
  rw [List.flatten_append, List.length_append] at this
  omega
theorem reads_takeV {w : World} {a : Option Addr} {L : List Int} (h : Reads w a L) (k : Nat) : Reads w a (L.take k) := by
  refine ⟨fun z hz => h.1 z (List.mem_of_mem_take hz), fun i hi => ?_⟩
  rw [List.length_take] at hi
  obtain ⟨b, off, e, hc⟩ := h.2 i (by omega)
  refine ⟨b, off, e, ?_⟩
  rw [hc, getD_lt _ _ (by omega), getD_lt _ _ (by rw [List.length_take]; omega), List.getElem_take]
theorem row_el {w : World} {base g n cap : Nat} {rs : List (List Int)} (h : RowsR w base (.slice (some ⟨g, 0, none⟩) n cap) rs) {q : Nat} (hq : q < rs.length) : ∃ a c, w.cell? ⟨g, q, none⟩ = some (.slice a (rAt rs q).length c) ∧ (rAt rs q).length ≤ c ∧ Reads w a (rAt rs q) := by
  obtain ⟨us, h1, h2, h3⟩ := h
  obtain ⟨g', cap', e0⟩ := ownI_some h1 (by omega)
  cases e0
  obtain ⟨a, c, e, h4, h5, h6⟩ := h3 q hq
  refine ⟨a, c, ?_, h4, h6⟩
  rw [World.ownsRow.cellAt h1 q (by omega), ← e]
  simp [List.getD, show q < us.length by omega]
theorem row_g {w : World} {base : Nat} {u : Value} {rs : List (List Int)} (h : RowsR w base u rs) (hq : 0 < rs.length) : ∃ g cap, u = .slice (some ⟨g, 0, none⟩) rs.length cap := by
  obtain ⟨us, h1, h2, h3⟩ := h
  exact ownI_some h1 (by omega)
end Go.Proofs.Ythaepdkeakmfaaa
