/-
  Orders in which all stand behind what they read, in plain words: the nodes of a list; the next one; rows of those that may come; what can never come. No Go function is walked here. Of orders and what graphs tell, in plain words. No Go function is walked here. Which nodes are left, ready, waiting: what each step of the landed walk keeps; a way that goes on among some comes into a circle. No Go function is walked here.
-/
import Derived.Test.YtbaeanpdjdcheaaGreatGrJ
import Derived.Test.YtbaeanpdjdcheaaGreatBitW
namespace Go.Proofs.YtbaeanpdjdcheaaGreat
open Go.RowKit
set_option linter.unusedSimpArgs false
set_option linter.unusedVariables false

/- Orders in which all stand behind what they read, in plain words: the nodes of a list; the next one; rows of those that may come; what can never come. No Go function is walked here. -/
/-- The nodes of a list, rising. -/
def sel (n : Nat) (L : List Int) : List Int := ((List.range n).filter fun v => decide (((v : Nat) : Int) ∈ L)).map fun v => ((v : Nat) : Int)
theorem mem_sel {n : Nat} {L : List Int} {x : Int} : x ∈ sel n L ↔ gnd n x ∧ x ∈ L := by
  unfold sel gnd
  rw [List.mem_map]
  constructor
  · rintro ⟨v, hv, rfl⟩
    obtain ⟨h1, h2⟩ := List.mem_filter.1 hv
    have := List.mem_range.1 h1
    exact ⟨⟨by omega, by omega⟩, of_decide_eq_true h2⟩
  · rintro ⟨⟨h1, h2⟩, h3⟩
    have e : ((x.toNat : Nat) : Int) = x := by omega
    exact ⟨x.toNat, List.mem_filter.2 ⟨List.mem_range.2 (by omega), decide_eq_true (by rw [e]; exact h3)⟩, e⟩
theorem sel_rises (n : Nat) (L : List Int) : Rises (sel n L) := by
  unfold sel Rises
  refine List.pairwise_map.2 ?_
  exact (List.Pairwise.filter _ (List.pairwise_lt_range (n := n))).imp fun {a b} h => by omega
theorem Rises.nodup {L : List Int} (h : Rises L) : L.Nodup := List.Pairwise.imp (fun {a b} q => by omega) h
theorem o_mem_wth (n z : Int) : ∀ L : List Int, z ∈ wth L n ↔ z = n ∨ z ∈ L
  | [] => by simp [wth]
  | x :: l => by
    unfold wth
    split
    · rw [List.mem_cons, o_mem_wth n z l, List.mem_cons]
      constructor
      · rintro (q | q | q)
        · exact Or.inr (Or.inl q)
        · exact Or.inl q
        · exact Or.inr (Or.inr q)
      · rintro (q | q | q)
        · exact Or.inr (Or.inl q)
        · exact Or.inl q
        · exact Or.inr (Or.inr q)
    · split
      · rename_i e
        subst e
        simp
      · simp
theorem o_rises_wth (n : Int) : ∀ L : List Int, Rises L → Rises (wth L n)
  | [], _ => by simp [wth, Rises]
  | x :: l, h => by
    have h1 := List.pairwise_cons.1 h
    unfold wth
    split
    · refine List.pairwise_cons.2 ⟨fun z hz => ?_, o_rises_wth n l h1.2⟩
      rcases (o_mem_wth n z l).1 hz with rfl | q
      · assumption
      · exact h1.1 z q
    · split
      · exact h
      · refine List.pairwise_cons.2 ⟨fun z hz => ?_, h⟩
        rcases List.mem_cons.1 hz with rfl | q
        · omega
        · have := h1.1 z q; omega
theorem o_mem_rise (z : Int) : ∀ (L : List Int) (A : List Int), z ∈ L.foldl wth A ↔ z ∈ L ∨ z ∈ A
  | [], A => by simp
  | x :: L, A => by
    rw [List.foldl_cons, o_mem_rise z L, o_mem_wth, List.mem_cons]
    constructor
    · rintro (q | q | q)
      · exact Or.inl (Or.inr q)
      · exact Or.inl (Or.inl q)
      · exact Or.inr q
    · rintro ((q | q) | q)
      · exact Or.inr (Or.inl q)
      · exact Or.inl q
      · exact Or.inr (Or.inr q)
theorem o_rises_rise : ∀ (L : List Int) (A : List Int), Rises A → Rises (L.foldl wth A)
  | [], _, h => h
  | x :: L, A, h => o_rises_rise L _ (o_rises_wth x A h)
theorem sel_rise (n : Nat) (L : List Int) : (rise L).filter (fun x => decide (gnd n x)) = sel n L := by
  refine rises_ext (List.Pairwise.filter _ (o_rises_rise L [] List.Pairwise.nil)) (sel_rises n L) fun z => ?_
  rw [List.mem_filter, mem_sel]
  unfold rise
  rw [o_mem_rise]
  simp [and_comm]

/-- Do all reads of a node among A stand in a row? -/
def fre (R : List (List Int)) (A row : List Int) (v : Int) : Bool := decide (∀ w ∈ gR R v.toNat, w ∈ A → w ∈ row)
/-- May a node come now? -/
def cand (R : List (List Int)) (A out : List Int) (v : Int) : Bool := decide (v ∉ out) && fre R A out v
def nxt (R : List (List Int)) (A out : List Int) : Option Int := A.find? (cand R A out)
def wrow (R : List (List Int)) (A ahead : List Int) : List Int := A.filter (cand R A ahead)
section
variable {R : List (List Int)} {A out l m : List Int} {x : Int}
theorem cand_iff : cand R A out x = true ↔ x ∉ out ∧ ∀ w ∈ gR R x.toNat, w ∈ A → w ∈ out := by
  unfold cand fre
  rw [Bool.and_eq_true, decide_eq_true_iff, decide_eq_true_iff]
theorem find_least : ∀ {A : List Int} {p : Int → Bool} {x : Int}, Rises A → A.find? p = some x → ∀ y ∈ A, p y = true → x ≤ y
  | [], _, _, _, h, _, hy, _ => by cases hy
  | a :: A, p, x, hA, h, y, hy, hp => by
    have h1 := List.pairwise_cons.1 hA
    rw [List.find?_cons] at h
    cases hpa : p a with
    | true =>
      rw [hpa] at h
      injection h with h
      subst h
      rcases List.mem_cons.1 hy with rfl | q
      · omega
      · have := h1.1 y q; omega
    | false =>
      rw [hpa] at h
      rcases List.mem_cons.1 hy with rfl | q
      · rw [hpa] at hp; cases hp
      · exact find_least h1.2 h y q hp
theorem nxt_some (h : nxt R A out = some x) : x ∈ A ∧ x ∉ out ∧ ∀ w ∈ gR R x.toNat, w ∈ A → w ∈ out := by
  have h1 := List.mem_of_find?_eq_some h
  have h2 := List.find?_some h
  exact ⟨h1, cand_iff.1 h2⟩
theorem nxt_none (h : nxt R A out = none) : ∀ y ∈ A, y ∉ out → ∃ w ∈ gR R y.toNat, w ∈ A ∧ w ∉ out := fun y hy ho => by
  have h1 := List.find?_eq_none.1 h y hy
  refine Classical.byContradiction fun q => h1 ?_
  exact cand_iff.2 ⟨ho, fun w hw ha => Classical.byContradiction fun r => q ⟨w, hw, ha, r⟩⟩
/-- The least one that may come is the next one. -/
theorem nxt_is (hA : Rises A) (h1 : x ∈ A) (h2 : cand R A out x = true) (h3 : ∀ y ∈ A, cand R A out y = true → x ≤ y) : nxt R A out = some x := by
  cases h : nxt R A out with
  | none => exact absurd h2 (List.find?_eq_none.1 h x h1)
  | some y =>
    have q1 := find_least hA h x h1 h2
    have q2 := h3 y (List.mem_of_find?_eq_some h) (List.find?_some h)
    rw [show y = x by omega]
theorem nxt_no (h : ∀ y ∈ A, cand R A out y = false) : nxt R A out = none := List.find?_eq_none.2 fun y hy => by rw [h y hy]; simp
/-- A row of which each one is the next one behind those ahead of it. -/
def OrdP (R : List (List Int)) (A l : List Int) : Prop := ∀ i, i < l.length → nxt R A (l.take i) = some (l.getD i 0)
theorem OrdP.nil : OrdP R A [] := fun i h => by cases h
theorem OrdP.push (h : OrdP R A l) (hn : nxt R A l = some x) : OrdP R A (l ++ [x]) := fun i hi => by
  rw [List.length_append, List.length_singleton] at hi
  by_cases q : i < l.length
  · rw [List.take_append_of_le_length (by omega), h i q]
    simp [List.getD, List.getElem?_append_left q, q]
  · obtain rfl : i = l.length := by omega
    rw [List.take_append_of_le_length (by omega), List.take_length, hn]
    simp [List.getD]
theorem ord_pre (h : OrdP R A l) (k : OrdP R A m) : ∀ i, i ≤ l.length → i ≤ m.length → l.take i = m.take i
  | 0, _, _ => by simp
  | i + 1, h1, h2 => by
    have e := ord_pre h k i (by omega) (by omega)
    have q1 := h i h1
    rw [e, k i h2] at q1
    injection q1 with q1
    rw [getD_lt _ _ h1, getD_lt _ _ h2] at q1
    rw [List.take_succ_eq_append_getElem h1, List.take_succ_eq_append_getElem h2, e, q1]
/-- The order of A: till none is next. -/
structure IsOrd (R : List (List Int)) (A l : List Int) : Prop where
  step : OrdP R A l
  fin : nxt R A l = none
theorem IsOrd.uniq (h : IsOrd R A l) (k : IsOrd R A m) : l = m := by
  rcases Nat.lt_trichotomy l.length m.length with q | q | q
  · have e := ord_pre h.step k.step l.length (Nat.le_refl _) (by omega)
    rw [List.take_length] at e
    have := k.step l.length q
    rw [← e, h.fin] at this; cases this
  · have e := ord_pre h.step k.step l.length (Nat.le_refl _) (by omega)
    rw [List.take_length, q, List.take_length] at e; exact e
  · have e := ord_pre h.step k.step m.length (by omega) (Nat.le_refl _)
    rw [List.take_length] at e
    have := h.step m.length q
    rw [e, k.fin] at this; cases this
theorem OrdP.at (h : OrdP R A l) {i : Nat} (hi : i < l.length) : l.getD i 0 ∈ A ∧ l.getD i 0 ∉ l.take i ∧ ∀ w ∈ gR R (l.getD i 0).toNat, w ∈ A → w ∈ l.take i := nxt_some (h i hi)
theorem OrdP.sub (h : OrdP R A l) : ∀ y ∈ l, y ∈ A := fun y hy => by
  obtain ⟨i, hi, rfl⟩ := List.getElem_of_mem hy
  have := (h.at hi).1
  rwa [getD_lt _ _ hi] at this
theorem nodup_of {l : List Int} (h : ∀ i, i < l.length → l.getD i 0 ∉ l.take i) : l.Nodup := by
  refine List.pairwise_iff_getElem.2 fun i j hi hj hij e => h j hj ?_
  rw [getD_lt _ _ hj, ← e]
  exact List.mem_iff_getElem.2 ⟨i, by rw [List.length_take]; omega, by simp⟩
theorem OrdP.nodup (h : OrdP R A l) : l.Nodup := nodup_of fun i hi => (h.at hi).2.1
theorem filter_all {p : Int → Bool} : ∀ {A : List Int}, (A.filter p).length = A.length → ∀ x ∈ A, p x = true
  | [], _, x, hx => by cases hx
  | a :: A, h, x, hx => by
    cases hp : p a with
    | true =>
      rw [List.filter_cons, if_pos hp] at h
      rcases List.mem_cons.1 hx with rfl | q
      · exact hp
      · exact filter_all (by simpa using h) x q
    | false =>
      rw [List.filter_cons, if_neg (by rw [hp]; simp)] at h
      have := List.length_filter_le p A
      simp at h; omega
theorem sub_len (hl : l.Nodup) (hA : A.Nodup) (hs : ∀ x ∈ l, x ∈ A) : l.length ≤ A.length ∧ (l.length = A.length ↔ ∀ x ∈ A, x ∈ l) := by
  have hp : l.Perm (A.filter fun x => decide (x ∈ l)) := (List.perm_ext_iff_of_nodup hl (hA.filter _)).2 fun x => by
    rw [List.mem_filter, decide_eq_true_iff]
    exact ⟨fun q => ⟨hs x q, q⟩, fun q => q.2⟩
  have e := hp.length_eq
  have hle := List.length_filter_le (fun x => decide (x ∈ l)) A
  refine ⟨by omega, fun q x hx => ?_, fun q => ?_⟩
  · exact of_decide_eq_true (filter_all (p := fun x => decide (x ∈ l)) (by omega) x hx)
  · rw [e, List.filter_eq_self.2 fun x hx => decide_eq_true (q x hx)]
/-- What waits for its own kind never comes. -/
theorem OrdP.never (h : OrdP R A l) {T : Int → Prop} (hT : ∀ v, T v → v ∈ A ∧ ∃ w ∈ gR R v.toNat, T w) : ∀ y ∈ l, ¬ T y := by
  have key : ∀ i, i ≤ l.length → ∀ y ∈ l.take i, ¬ T y := by
    intro i
    induction i with
    | zero => intro _ y hy; simp at hy
    | succ i ih =>
      intro hi y hy ht
      rw [List.take_succ_eq_append_getElem hi] at hy
      rcases List.mem_append.1 hy with q | q
      · exact ih (by omega) y q ht
      · rw [List.mem_singleton] at q
        have ha := h.at hi
        rw [getD_lt _ _ hi, ← q] at ha
        obtain ⟨_, w, hw, hw2⟩ := hT y ht
        exact ih (by omega) w (ha.2.2 w hw (hT w hw2).1) hw2
  intro y hy
  exact key l.length (Nat.le_refl _) y (by rw [List.take_length]; exact hy)
end
section
variable {R : List (List Int)} {A : List Int} {rows sows : List (List Int)}
abbrev rAt (rows : List (List Int)) (i : Nat) : List Int := rows.getD i []
theorem rAt_lt {rows : List (List Int)} {i : Nat} (h : i < rows.length) : rAt rows i = rows[i] := by simp [rAt, List.getD, h]
theorem flat_step {rows : List (List Int)} {i : Nat} (h : i < rows.length) : (rows.take (i + 1)).flatten = (rows.take i).flatten ++ rAt rows i := by
  rw [List.take_succ_eq_append_getElem h, List.flatten_append, rAt_lt h]; simp
/-- Rows, in each of which all stand that may come behind the rows ahead of it. -/
def WavP (R : List (List Int)) (A : List Int) (rows : List (List Int)) : Prop := ∀ i, i < rows.length → rAt rows i = wrow R A (rows.take i).flatten ∧ rAt rows i ≠ []
theorem WavP.nil : WavP R A [] := fun i h => by cases h
theorem WavP.push (h : WavP R A rows) (hn : wrow R A rows.flatten ≠ []) : WavP R A (rows ++ [wrow R A rows.flatten]) := fun i hi => by
  rw [List.length_append, List.length_singleton] at hi
  by_cases q : i < rows.length
  · rw [List.take_append_of_le_length (by omega)]
    have e : rAt (rows ++ [wrow R A rows.flatten]) i = rAt rows i := by simp [rAt, List.getD, List.getElem?_append_left q]
    rw [e]; exact h i q
  · obtain rfl : i = rows.length := by omega
    have e : rAt (rows ++ [wrow R A rows.flatten]) rows.length = wrow R A rows.flatten := by simp [rAt, List.getD]
    rw [List.take_append_of_le_length (by omega), List.take_length, e]
    exact ⟨rfl, hn⟩
theorem wav_pre (h : WavP R A rows) (k : WavP R A sows) : ∀ i, i ≤ rows.length → i ≤ sows.length → rows.take i = sows.take i
  | 0, _, _ => by simp
  | i + 1, h1, h2 => by
    have e := wav_pre h k i (by omega) (by omega)
    have q1 := (h i h1).1
    have q2 := (k i h2).1
    rw [e, ← q2, rAt_lt h1, rAt_lt h2] at q1
    rw [List.take_succ_eq_append_getElem h1, List.take_succ_eq_append_getElem h2, e, q1]
structure IsWav (R : List (List Int)) (A : List Int) (rows : List (List Int)) : Prop where
  step : WavP R A rows
  fin : wrow R A rows.flatten = []
theorem IsWav.uniq (h : IsWav R A rows) (k : IsWav R A sows) : rows = sows := by
  rcases Nat.lt_trichotomy rows.length sows.length with q | q | q
  · have e := wav_pre h.step k.step rows.length (Nat.le_refl _) (by omega)
    rw [List.take_length] at e
    have := k.step rows.length q
    rw [← e, h.fin] at this; exact absurd this.1 this.2
  · have e := wav_pre h.step k.step rows.length (Nat.le_refl _) (by omega)
    rw [List.take_length, q, List.take_length] at e; exact e
  · have e := wav_pre h.step k.step sows.length (by omega) (Nat.le_refl _)
    rw [List.take_length] at e
    have := h.step sows.length q
    rw [e, k.fin] at this; exact absurd this.1 this.2
theorem WavP.at (h : WavP R A rows) {i : Nat} (hi : i < rows.length) {x : Int} (hx : x ∈ rAt rows i) : x ∈ A ∧ x ∉ (rows.take i).flatten ∧ ∀ w ∈ gR R x.toNat, w ∈ A → w ∈ (rows.take i).flatten := by
  rw [(h i hi).1] at hx
  obtain ⟨h1, h2⟩ := List.mem_filter.1 hx
  exact ⟨h1, cand_iff.1 h2⟩
theorem wrow_rises (hA : Rises A) (a : List Int) : Rises (wrow R A a) := List.Pairwise.filter _ hA
theorem mem_flat {i : Nat} (hi : i ≤ rows.length) {x : Int} (hx : x ∈ (rows.take i).flatten) : ∃ j, j < i ∧ x ∈ rAt rows j := by
  obtain ⟨r, hr, hx⟩ := List.mem_flatten.1 hx
  obtain ⟨j, hj, e⟩ := List.getElem_of_mem hr
  rw [List.length_take] at hj
  rw [List.getElem_take] at e
  exact ⟨j, by omega, by rw [rAt_lt (by omega), e]; exact hx⟩
theorem flat_mem {i j : Nat} (hj : j < i) (hi : i ≤ rows.length) {x : Int} (hx : x ∈ rAt rows j) : x ∈ (rows.take i).flatten := by
  refine List.mem_flatten.2 ⟨rAt rows j, ?_, hx⟩
  rw [rAt_lt (by omega)]
  exact List.mem_iff_getElem.2 ⟨j, by rw [List.length_take]; omega, by simp⟩
theorem WavP.nodup (h : WavP R A rows) (hA : A.Nodup) : ∀ i, i ≤ rows.length → (rows.take i).flatten.Nodup
  | 0, _ => by simp
  | i + 1, hi => by
    rw [flat_step hi]
    refine List.nodup_append.2 ⟨WavP.nodup h hA i (by omega), by rw [(h i hi).1]; exact hA.filter _, fun a ha b hb e => ?_⟩
    subst e
    exact (h.at hi hb).2.1 ha
theorem WavP.sub (h : WavP R A rows) : ∀ x ∈ rows.flatten, x ∈ A := fun x hx => by
  have hx' : x ∈ (rows.take rows.length).flatten := by rw [List.take_length]; exact hx
  obtain ⟨j, hj, hx⟩ := mem_flat (Nat.le_refl _) hx'
  exact (h.at hj hx).1
theorem WavP.never (h : WavP R A rows) {T : Int → Prop} (hT : ∀ v, T v → v ∈ A ∧ ∃ w ∈ gR R v.toNat, T w) : ∀ y ∈ rows.flatten, ¬ T y := by
  have key : ∀ i, i ≤ rows.length → ∀ y ∈ (rows.take i).flatten, ¬ T y := by
    intro i
    induction i with
    | zero => intro _ y hy; simp at hy
    | succ i ih =>
      intro hi y hy ht
      rw [flat_step hi] at hy
      rcases List.mem_append.1 hy with q | q
      · exact ih (by omega) y q ht
      · have ha := h.at hi q
        obtain ⟨_, w, hw, hw2⟩ := hT y ht
        exact ih (by omega) w (ha.2.2 w hw (hT w hw2).1) hw2
  intro y hy
  exact key rows.length (Nat.le_refl _) y (by rw [List.take_length]; exact hy)
/-- Each one that is not in the first row reads one of the row ahead. -/
theorem WavP.ahead (h : WavP R A rows) {i : Nat} (hi : i + 1 < rows.length) {x : Int} (hx : x ∈ rAt rows (i + 1)) : ∃ w ∈ gR R x.toNat, w ∈ rAt rows i := by
  obtain ⟨h1, h2, h3⟩ := h.at hi hx
  rw [flat_step (by omega)] at h2 h3
  have h4 : x ∉ rAt rows i := fun q => h2 (List.mem_append.2 (Or.inr q))
  have h5 : x ∉ (rows.take i).flatten := fun q => h2 (List.mem_append.2 (Or.inl q))
  refine Classical.byContradiction fun q => h4 ?_
  rw [(h i (by omega)).1]
  refine List.mem_filter.2 ⟨h1, cand_iff.2 ⟨h5, fun w hw ha => ?_⟩⟩
  rcases List.mem_append.1 (h3 w hw ha) with r | r
  · exact r
  · exact absurd ⟨w, hw, r⟩ q
theorem wrow_none {a : List Int} (h : wrow R A a = []) : ∀ y ∈ A, y ∉ a → ∃ w ∈ gR R y.toNat, w ∈ A ∧ w ∉ a := fun y hy ho => by
  have h1 := List.filter_eq_nil_iff.1 h y hy
  refine Classical.byContradiction fun q => h1 ?_
  exact cand_iff.2 ⟨ho, fun w hw ha => Classical.byContradiction fun r => q ⟨w, hw, ha, r⟩⟩
/-- What is left by one is left by the other. -/
theorem left_same {l : List Int} (h : IsOrd R A l) (k : IsWav R A rows) : (∀ x ∈ A, x ∈ l) ↔ ∀ x ∈ A, x ∈ rows.flatten := by
  constructor
  · intro ha x hx
    refine Classical.byContradiction fun q => ?_
    exact h.step.never (T := fun v => v ∈ A ∧ v ∉ rows.flatten) (fun v hv => ⟨hv.1, by obtain ⟨w, h1, h2⟩ := wrow_none k.fin v hv.1 hv.2; exact ⟨w, h1, h2⟩⟩) x (ha x hx) ⟨hx, q⟩
  · intro ha x hx
    refine Classical.byContradiction fun q => ?_
    exact k.step.never (T := fun v => v ∈ A ∧ v ∉ l) (fun v hv => ⟨hv.1, by obtain ⟨w, h1, h2⟩ := nxt_none h.fin v hv.1 hv.2; exact ⟨w, h1, h2⟩⟩) x (ha x hx) ⟨hx, q⟩
end
/- Of orders and what graphs tell, in plain words. No Go function is walked here. -/
theorem ghas_no {R : List (List Int)} {x : Nat} (hx : x < R.length) {y : Int} (hy : y ∉ gR R x) : ghas R ((x : Nat) : Int) y = false := by
  unfold ghas; rw [greads_nat hx]; exact decide_eq_false hy
theorem ghas_yes {R : List (List Int)} {x : Nat} (hx : x < R.length) {y : Int} (hy : y ∈ gR R x) : ghas R ((x : Nat) : Int) y = true := by
  unfold ghas; rw [greads_nat hx]; exact decide_eq_true hy
theorem gnd_natV {n : Nat} {z : Int} (h : gnd n z) : ∃ x : Nat, z = ((x : Nat) : Int) ∧ x < n := ⟨z.toNat, by unfold gnd at h; omega, by unfold gnd at h; omega⟩
theorem getD_inj {l : List Int} (h : l.Nodup) {i k : Nat} (hi : i < l.length) (hk : k < l.length) (e : l.getD i 0 = l.getD k 0) : i = k := by
  rw [getD_lt _ _ hi, getD_lt _ _ hk] at e
  rcases Nat.lt_trichotomy i k with q | q | q
  · exact absurd e (List.pairwise_iff_getElem.1 h i k hi hk q)
  · exact q
  · exact absurd e.symm (List.pairwise_iff_getElem.1 h k i hk hi q)
theorem std_len {R : List (List Int)} {L l : List Int} (hI : GrI R) (h : IsOrd R (sel R.length L) l) : l.length ≤ 20000 := by
  have := nodup_len (n := R.length) h.step.nodup fun x hx => (mem_sel.1 (h.step.sub x hx)).1
  have := hI.hi
  omega
/-- Some are left. -/
def StkP (s : Bool) (R : List (List Int)) (L l : List Int) : Prop := s = true ↔ ∃ x ∈ sel R.length L, x ∉ l
theorem StkP.no {R : List (List Int)} {L l : List Int} (h : StkP false R L l) : ¬ ∃ x ∈ sel R.length L, x ∉ l := fun q => Bool.noConfusion (h.2 q)
theorem reads_takeV {w : World} {a : Option Addr} {L : List Int} (h : Reads w a L) (k : Nat) : Reads w a (L.take k) := by
  refine ⟨fun z hz => h.1 z (List.mem_of_mem_take hz), fun i hi => ?_⟩
  rw [List.length_take] at hi
  obtain ⟨b, off, e, hc⟩ := h.2 i (by omega)
  refine ⟨b, off, e, ?_⟩
  rw [hc, getD_lt _ _ (by omega), getD_lt _ _ (by rw [List.length_take]; omega), List.getElem_take]
/- Which nodes are left, ready, waiting: what each step of the landed walk keeps; a way that goes on among some comes into a circle. No Go function is walked here. -/
/-- Where each node is: -1: told, or none of these; -2: ready; -3: in hand; else: it waits at that node. -/
def upd1 (f : Nat → Int) (v : Nat) (z : Int) : Nat → Int := fun u => if u = v then z else f u
def updL (f : Nat → List Int) (v : Nat) (z : List Int) : Nat → List Int := fun u => if u = v then z else f u
def updN (f : Nat → Nat) (v : Nat) (z : Nat) : Nat → Nat := fun u => if u = v then z else f u
def updV (f : Nat → Value) (v : Nat) (z : Value) : Nat → Value := fun u => if u = v then z else f u
def tellP (pos : Nat → Int) (v : Nat) : Nat → Int := fun u => if u = v then -1 else if pos u = (v : Int) then -3 else pos u
structure HI (R : List (List Int)) (A : List Int) (pos : Nat → Int) (out P : List Int) (W : Nat → List Int) (D : Nat → Nat) : Prop where
  lf : ∀ v, v < R.length → (pos v ≠ -1 ↔ (((v : Nat) : Int) ∈ A ∧ ((v : Nat) : Int) ∉ out))
  an : ∀ x ∈ A, gnd R.length x
  pn : P.Nodup
  pp : ∀ x, x ∈ P ↔ gnd R.length x ∧ pos x.toNat = -2
  wn : ∀ w, w < R.length → (W w).Nodup
  ww : ∀ w, w < R.length → pos w ≠ -1 → ∀ x, x ∈ W w ↔ gnd R.length x ∧ pos x.toNat = (w : Int)
  aw : ∀ v, v < R.length → 0 ≤ pos v → pos v < (R.length : Int) ∧ pos (pos v).toNat ≠ -1 ∧ pos v ∈ gR R v
  rd : ∀ v, v < R.length → pos v = -2 → ∀ x ∈ gR R v, pos x.toNat = -1
  dr : ∀ v, v < R.length → D v ≤ (gR R v).length ∧ ∀ x ∈ (gR R v).take (D v), pos x.toNat = -1
  wd : ∀ w, w < R.length → ∀ x ∈ W w, gnd R.length x
  rg : ∀ v, v < R.length → -3 ≤ pos v
section
variable {R : List (List Int)} {A out P : List Int} {pos : Nat → Int} {W : Nat → List Int} {D : Nat → Nat}
theorem HI.plen (h : HI R A pos out P W D) : P.length ≤ R.length := nodup_len h.pn fun w hw => ((h.pp w).1 hw).1
theorem HI.push_len (h : HI R A pos out P W D) {v : Nat} (hv : v < R.length) (hp : pos v = -3) : P.length < R.length := by
  have h1 : ((v : Nat) : Int) ∉ P := fun q => by
    have := ((h.pp _).1 q).2
    rw [Int.toNat_natCast, hp] at this; omega
  have := nodup_len (n := R.length) (l := ((v : Nat) : Int) :: P) (List.nodup_cons.2 ⟨h1, h.pn⟩) fun w hw => by
    rcases List.mem_cons.1 hw with rfl | q
    · exact gnd_nat hv
    · exact ((h.pp w).1 q).1
  simp at this; omega
theorem HI.wlen (h : HI R A pos out P W D) {w : Nat} (hw : w < R.length) : (W w).length ≤ R.length := nodup_len (h.wn w hw) (h.wd w hw)
theorem HI.left (h : HI R A pos out P W D) {x : Int} (hx : gnd R.length x) : pos x.toNat ≠ -1 ↔ (x ∈ A ∧ x ∉ out) := by
  have e : ((x.toNat : Nat) : Int) = x := by unfold gnd at hx; omega
  have := h.lf x.toNat (by unfold gnd at hx; omega)
  rwa [e] at this
/-- A read that is not left is gone by. -/
theorem HI.drop (h : HI R A pos out P W D) {v : Nat} (hv : v < R.length) (hd : D v < (gR R v).length) (hx : pos ((gR R v).getD (D v) 0).toNat = -1) : HI R A pos out P W (updN D v (D v + 1)) := by
  refine ⟨h.lf, h.an, h.pn, h.pp, h.wn, h.ww, h.aw, h.rd, fun u hu => ?_, h.wd, h.rg⟩
  unfold updN
  by_cases e : u = v
  · subst e
    rw [if_pos rfl]
    refine ⟨hd, fun x q => ?_⟩
    rw [List.take_succ_eq_append_getElem hd] at q
    rcases List.mem_append.1 q with q | q
    · exact (h.dr u hu).2 x q
    · rw [List.mem_singleton] at q
      rw [getD_lt _ _ hd] at hx
      rw [q]; exact hx
  · rw [if_neg e]; exact h.dr u hu
theorem toNat_ne {x : Int} {n v : Nat} (hx : gnd n x) (h : x ≠ (v : Int)) : x.toNat ≠ v := by unfold gnd at hx; omega
/-- One in hand is ready. -/
theorem HI.push (h : HI R A pos out P W D) (hI : GrI R) {v : Nat} (hv : v < R.length) (hp : pos v = -3) (hr : ∀ x ∈ gR R v, pos x.toNat = -1) : HI R A (upd1 pos v (-2)) out (P ++ [((v : Nat) : Int)]) W D := by
  have hne : ∀ x, pos x = -1 → upd1 pos v (-2) x = -1 := fun x q => by unfold upd1; rw [if_neg (fun r => by rw [r, hp] at q; omega)]; exact q
  have hnp : ((v : Nat) : Int) ∉ P := fun q => by
    have := ((h.pp _).1 q).2
    rw [Int.toNat_natCast, hp] at this; omega
  refine ⟨fun u hu => ?_, h.an, ?_, fun x => ?_, h.wn, fun w hw hl x => ?_, fun u hu h0 => ?_, fun u hu h2 x hx => ?_, fun u hu => ⟨(h.dr u hu).1, fun x q => hne _ ((h.dr u hu).2 x q)⟩, h.wd, fun u hu => by unfold upd1; split; omega; exact h.rg u hu⟩
  · unfold upd1
    by_cases e : u = v
    · subst e
      rw [if_pos rfl]
      have := h.lf u hu
      rw [hp] at this
      exact ⟨fun _ => this.1 (by omega), fun _ => by omega⟩
    · rw [if_neg e]; exact h.lf u hu
  · exact List.nodup_append.2 ⟨h.pn, by simp, fun a ha b hb e => by rw [List.mem_singleton] at hb; subst hb; subst e; exact hnp ha⟩
  · rw [List.mem_append, List.mem_singleton, h.pp]
    unfold upd1
    constructor
    · rintro (⟨q1, q2⟩ | rfl)
      · refine ⟨q1, ?_⟩
        split
        · rfl
        · exact q2
      · exact ⟨gnd_nat hv, by rw [Int.toNat_natCast, if_pos rfl]⟩
    · rintro ⟨q1, q2⟩
      by_cases e : x = (v : Int)
      · exact Or.inr e
      · rw [if_neg (toNat_ne q1 e)] at q2; exact Or.inl ⟨q1, q2⟩
  · have hl' : pos w ≠ -1 := fun q => hl (hne w q)
    rw [h.ww w hw hl']
    unfold upd1
    constructor
    · rintro ⟨q1, q2⟩
      refine ⟨q1, ?_⟩
      rw [if_neg (fun r => by rw [r, hp] at q2; omega)]; exact q2
    · rintro ⟨q1, q2⟩
      refine ⟨q1, ?_⟩
      split at q2
      · omega
      · exact q2
  · have e : u ≠ v := fun r => by subst r; unfold upd1 at h0; rw [if_pos rfl] at h0; omega
    have e1 : upd1 pos v (-2) u = pos u := by unfold upd1; rw [if_neg e]
    rw [e1] at h0 ⊢
    obtain ⟨q1, q2, q3⟩ := h.aw u hu h0
    refine ⟨q1, ?_, q3⟩
    unfold upd1
    split
    · omega
    · exact q2
  · refine hne _ ?_
    by_cases e : u = v
    · subst e; exact hr x hx
    · have e1 : upd1 pos v (-2) u = pos u := by unfold upd1; rw [if_neg e]
      rw [e1] at h2
      exact h.rd u hu h2 x hx
/-- One in hand waits. -/
theorem HI.wait (h : HI R A pos out P W D) (hI : GrI R) {v w : Nat} (hv : v < R.length) (hp : pos v = -3) (hw : w < R.length) (hl : pos w ≠ -1) (hr : ((w : Nat) : Int) ∈ gR R v) : HI R A (upd1 pos v (w : Int)) out P (updL W w (W w ++ [((v : Nat) : Int)])) D := by
  have hwv : w ≠ v := fun r => by subst r; exact hI.self w hr
  have hne : ∀ x, pos x = -1 ↔ upd1 pos v (w : Int) x = -1 := fun x => by
    unfold upd1
    split
    · rename_i e; subst e; rw [hp]; omega
    · exact Iff.rfl
  have hnw : ((v : Nat) : Int) ∉ W w := fun q => by
    have := ((h.ww w hw hl _).1 q).2
    rw [Int.toNat_natCast, hp] at this; omega
  refine ⟨fun u hu => ?_, h.an, h.pn, fun x => ?_, fun u hu => ?_, fun u hu hl2 x => ?_, fun u hu h0 => ?_, fun u hu h2 x hx => ?_, fun u hu => ⟨(h.dr u hu).1, fun x q => (hne _).1 ((h.dr u hu).2 x q)⟩, fun u hu x hx => ?_, fun u hu => by unfold upd1; split; omega; exact h.rg u hu⟩
  · rw [← h.lf u hu]; exact not_congr (hne u).symm
  · rw [h.pp]
    unfold upd1
    constructor
    · rintro ⟨q1, q2⟩
      exact ⟨q1, by rw [if_neg (fun r => by rw [r, hp] at q2; omega)]; exact q2⟩
    · rintro ⟨q1, q2⟩
      refine ⟨q1, ?_⟩
      split at q2
      · omega
      · exact q2
  · unfold updL
    split
    · exact List.nodup_append.2 ⟨h.wn w hw, by simp, fun a ha b hb e => by rw [List.mem_singleton] at hb; subst hb; subst e; exact hnw ha⟩
    · exact h.wn u hu
  · have hl' : pos u ≠ -1 := fun q => hl2 ((hne u).1 q)
    unfold updL upd1
    by_cases e : u = w
    · subst e
      rw [if_pos rfl, List.mem_append, List.mem_singleton, h.ww u hu hl']
      constructor
      · rintro (⟨q1, q2⟩ | rfl)
        · refine ⟨q1, ?_⟩
          split
          · rfl
          · exact q2
        · exact ⟨gnd_nat hv, by rw [Int.toNat_natCast, if_pos rfl]⟩
      · rintro ⟨q1, q2⟩
        by_cases e : x = (v : Int)
        · exact Or.inr e
        · rw [if_neg (toNat_ne q1 e)] at q2; exact Or.inl ⟨q1, q2⟩
    · rw [if_neg e, h.ww u hu hl']
      constructor
      · rintro ⟨q1, q2⟩
        exact ⟨q1, by rw [if_neg (fun r => by rw [r, hp] at q2; omega)]; exact q2⟩
      · rintro ⟨q1, q2⟩
        refine ⟨q1, ?_⟩
        split at q2
        · omega
        · exact q2
  · by_cases e : u = v
    · subst e
      have e1 : upd1 pos u (w : Int) u = (w : Int) := by unfold upd1; rw [if_pos rfl]
      rw [e1, Int.toNat_natCast]
      exact ⟨by omega, fun q => hl ((hne w).2 q), hr⟩
    · have e1 : upd1 pos v (w : Int) u = pos u := by unfold upd1; rw [if_neg e]
      rw [e1] at h0 ⊢
      obtain ⟨q1, q2, q3⟩ := h.aw u hu h0
      exact ⟨q1, fun q => q2 ((hne _).2 q), q3⟩
  · refine (hne _).1 ?_
    by_cases e : u = v
    · subst e
      unfold upd1 at h2
      rw [if_pos rfl] at h2; omega
    · have e1 : upd1 pos v (w : Int) u = pos u := by unfold upd1; rw [if_neg e]
      rw [e1] at h2
      exact h.rd u hu h2 x hx
  · unfold updL at hx
    split at hx
    · rcases List.mem_append.1 hx with q | q
      · exact h.wd w hw x q
      · rw [List.mem_singleton.1 q]; exact gnd_nat hv
    · exact h.wd u hu x hx
/-- A ready one comes in hand. -/
theorem HI.pop (h : HI R A pos out P W D) {x : Int} (hx : x ∈ P) : HI R A (upd1 pos x.toNat (-3)) out (P.erase x) W D := by
  obtain ⟨hg, hp⟩ := (h.pp x).1 hx
  have hv : x.toNat < R.length := by unfold gnd at hg; omega
  have ex : ((x.toNat : Nat) : Int) = x := by unfold gnd at hg; omega
  generalize x.toNat = v at *
  subst ex
  have hne : ∀ y, pos y = -1 ↔ upd1 pos v (-3) y = -1 := fun y => by
    unfold upd1
    split
    · rename_i e; subst e; rw [hp]; omega
    · exact Iff.rfl
  refine ⟨fun u hu => ?_, h.an, h.pn.erase _, fun y => ?_, h.wn, fun u hu hl2 y => ?_, fun u hu h0 => ?_, fun u hu h2 y hy => ?_, fun u hu => ⟨(h.dr u hu).1, fun y q => (hne _).1 ((h.dr u hu).2 y q)⟩, h.wd, fun u hu => by unfold upd1; split; omega; exact h.rg u hu⟩
  · rw [← h.lf u hu]; exact not_congr (hne u).symm
  · rw [List.Nodup.mem_erase_iff h.pn, h.pp]
    unfold upd1
    constructor
    · rintro ⟨q0, q1, q2⟩
      exact ⟨q1, by rw [if_neg (toNat_ne q1 q0)]; exact q2⟩
    · rintro ⟨q1, q2⟩
      split at q2
      · omega
      · rename_i e
        refine ⟨fun r => e (by rw [r]; simp), q1, q2⟩
  · have hl' : pos u ≠ -1 := fun q => hl2 ((hne u).1 q)
    rw [h.ww u hu hl']
    unfold upd1
    constructor
    · rintro ⟨q1, q2⟩
      exact ⟨q1, by rw [if_neg (fun r => by rw [r, hp] at q2; omega)]; exact q2⟩
    · rintro ⟨q1, q2⟩
      refine ⟨q1, ?_⟩
      split at q2
      · omega
      · exact q2
  · have e : u ≠ v := fun r => by subst r; unfold upd1 at h0; rw [if_pos rfl] at h0; omega
    have e1 : upd1 pos v (-3) u = pos u := by unfold upd1; rw [if_neg e]
    rw [e1] at h0 ⊢
    obtain ⟨q1, q2, q3⟩ := h.aw u hu h0
    exact ⟨q1, fun q => q2 ((hne _).2 q), q3⟩
  · refine (hne _).1 ?_
    have e : u ≠ v := fun r => by subst r; unfold upd1 at h2; rw [if_pos rfl] at h2; omega
    have e1 : upd1 pos v (-3) u = pos u := by unfold upd1; rw [if_neg e]
    rw [e1] at h2
    exact h.rd u hu h2 y hy
/-- One in hand is told: what waits at it comes in hand. -/
theorem HI.tell (h : HI R A pos out P W D) {v : Nat} (hv : v < R.length) (hp : pos v = -3) : HI R A (tellP pos v) (out ++ [((v : Nat) : Int)]) P W D := by
  have hne : ∀ y, pos y = -1 → tellP pos v y = -1 := fun y q => by
    unfold tellP
    split
    · rfl
    · rw [if_neg (by omega)]; exact q
  have hne2 : ∀ y, y ≠ v → tellP pos v y = -1 → pos y = -1 := fun y e q => by
    unfold tellP at q
    rw [if_neg e] at q
    split at q
    · omega
    · exact q
  refine ⟨fun u hu => ?_, h.an, h.pn, fun x => ?_, h.wn, fun u hu hl2 x => ?_, fun u hu h0 => ?_, fun u hu h2 x hx => ?_, fun u hu => ⟨(h.dr u hu).1, fun x q => hne _ ((h.dr u hu).2 x q)⟩, h.wd, fun u hu => by unfold tellP; split; omega; split; omega; exact h.rg u hu⟩
  · by_cases e : u = v
    · subst e
      refine ⟨fun q => absurd (by unfold tellP; rw [if_pos rfl]) q, fun q => absurd (List.mem_append.2 (Or.inr (by simp))) q.2⟩
    · have q1 := h.lf u hu
      have q2 : tellP pos v u = -1 ↔ pos u = -1 := ⟨hne2 u e, hne u⟩
      refine (not_congr q2).trans (q1.trans ?_)
      rw [List.mem_append, List.mem_singleton]
      constructor
      · rintro ⟨r1, r2⟩
        exact ⟨r1, fun r => r.elim r2 (fun r => e (by omega))⟩
      · rintro ⟨r1, r2⟩
        exact ⟨r1, fun r => r2 (Or.inl r)⟩
  · rw [h.pp]
    unfold tellP
    constructor
    · rintro ⟨q1, q2⟩
      exact ⟨q1, by rw [if_neg (fun r => by rw [r, hp] at q2; omega), if_neg (by omega)]; exact q2⟩
    · rintro ⟨q1, q2⟩
      refine ⟨q1, ?_⟩
      split at q2
      · omega
      · split at q2
        · omega
        · exact q2
  · have e : u ≠ v := fun r => by subst r; exact hl2 (by unfold tellP; rw [if_pos rfl])
    have hl' : pos u ≠ -1 := fun q => hl2 (hne u q)
    rw [h.ww u hu hl']
    unfold tellP
    constructor
    · rintro ⟨q1, q2⟩
      exact ⟨q1, by rw [if_neg (fun r => by rw [r, hp] at q2; omega), if_neg (by omega)]; exact q2⟩
    · rintro ⟨q1, q2⟩
      refine ⟨q1, ?_⟩
      split at q2
      · omega
      · split at q2
        · omega
        · exact q2
  · have e : u ≠ v := fun r => by subst r; unfold tellP at h0; rw [if_pos rfl] at h0; omega
    have e0 : ¬ pos u = (v : Int) := fun r => by unfold tellP at h0; rw [if_neg e, if_pos r] at h0; omega
    have e1 : tellP pos v u = pos u := by unfold tellP; rw [if_neg e, if_neg e0]
    rw [e1] at h0 ⊢
    obtain ⟨q1, q2, q3⟩ := h.aw u hu h0
    exact ⟨q1, fun q => q2 (hne2 _ (by omega) q), q3⟩
  · refine hne _ ?_
    have e : u ≠ v := fun r => by subst r; unfold tellP at h2; rw [if_pos rfl] at h2; omega
    have e0 : ¬ pos u = (v : Int) := fun r => by unfold tellP at h2; rw [if_neg e, if_pos r] at h2; omega
    have e1 : tellP pos v u = pos u := by unfold tellP; rw [if_neg e, if_neg e0]
    rw [e1] at h2
    exact h.rd u hu h2 x hx
/-- Where none is in hand, those are ready that may come. -/
theorem HI.ready (h : HI R A pos out P W D) (hI : GrI R) (hn : ∀ v, v < R.length → pos v ≠ -3) (x : Int) : x ∈ P ↔ x ∈ A ∧ cand R A out x = true := by
  rw [h.pp, cand_iff]
  constructor
  · rintro ⟨hg, hp⟩
    have hv : x.toNat < R.length := by unfold gnd at hg; omega
    obtain ⟨h1, h2⟩ := (h.left hg).1 (by rw [hp]; omega)
    refine ⟨h1, h2, fun w hw ha => Classical.byContradiction fun q => ?_⟩
    exact (h.left (hI.nodes _ w hw)).2 ⟨ha, q⟩ (h.rd _ hv hp w hw)
  · rintro ⟨h1, h2, h3⟩
    have hg := h.an x h1
    have hv : x.toNat < R.length := by unfold gnd at hg; omega
    refine ⟨hg, ?_⟩
    have q1 := (h.left hg).2 ⟨h1, h2⟩
    have q2 := hn _ hv
    have q3 := h.rg _ hv
    by_cases q : 0 ≤ pos x.toNat
    · obtain ⟨r1, r2, r3⟩ := h.aw _ hv q
      obtain ⟨s1, s2⟩ := (h.left (hI.nodes _ _ r3)).1 r2
      exact absurd (h3 _ r3 s1) s2
    · omega
/-- What holds a node back. -/
def hf (R : List (List Int)) (pos : Nat → Int) (v : Nat) : Option Int := (gR R v).find? fun x => decide (pos x.toNat ≠ -1)
theorem hf_at (h : HI R A pos out P W D) {v : Nat} (hv : v < R.length) (hd : D v < (gR R v).length) (hx : pos ((gR R v).getD (D v) 0).toNat ≠ -1) : hf R pos v = some ((gR R v).getD (D v) 0) := by
  unfold hf
  have e : gR R v = (gR R v).take (D v) ++ (gR R v).getD (D v) 0 :: (gR R v).drop (D v + 1) := by
    rw [getD_lt _ _ hd, List.getElem_cons_drop, List.take_append_drop]
  generalize (gR R v).getD (D v) 0 = z at *
  rw [e, List.find?_append, List.find?_eq_none.2 fun x q => by simp [(h.dr v hv).2 x q]]
  simp [hx]
theorem hf_no (h : HI R A pos out P W D) {v : Nat} (hv : v < R.length) (hd : D v = (gR R v).length) : hf R pos v = none := by
  unfold hf
  refine List.find?_eq_none.2 fun x q => ?_
  have := (h.dr v hv).2 x (by rw [hd, List.take_length]; exact q)
  simp [this]
theorem hf_some {v : Nat} {x : Int} (h : hf R pos v = some x) : x ∈ gR R v ∧ pos x.toNat ≠ -1 := by
  refine ⟨List.mem_of_find?_eq_some h, ?_⟩
  have := List.find?_some h
  exact of_decide_eq_true this
theorem hf_none {v : Nat} (h : hf R pos v = none) : ∀ x ∈ gR R v, pos x.toNat = -1 := fun x q => by
  have := List.find?_eq_none.1 h x q
  simpa using this
end
/-- So many steps. -/
def it (f : Nat → Nat) : Nat → Nat → Nat
  | 0, x => x
  | k + 1, x => f (it f k x)
theorem it_add (f : Nat → Nat) (i : Nat) (x : Nat) : ∀ j, it f (j + i) x = it f j (it f i x)
  | 0 => by rw [Nat.zero_add]; rfl
  | j + 1 => by rw [show j + 1 + i = (j + i) + 1 by omega]; show f _ = f _; rw [it_add f i x j]
theorem leastO {P : Nat → Prop} : ∀ {k : Nat}, P k → ∃ d, d ≤ k ∧ P d ∧ ∀ j, P j → d ≤ j := by
  intro k
  induction k using Nat.strongRecOn with
  | ind k ih =>
    intro h
    by_cases e : ∃ j, j < k ∧ P j
    · obtain ⟨j, h1, h2⟩ := e
      obtain ⟨d, q1, q2, q3⟩ := ih j h1 h2
      exact ⟨d, by omega, q2, q3⟩
    · exact ⟨k, Nat.le_refl _, h, fun j hj => Nat.le_of_not_lt fun q => e ⟨j, q, hj⟩⟩
theorem it_in {f : Nat → Nat} {T : Nat → Prop} (hT : ∀ x, T x → T (f x)) {x : Nat} (hx : T x) : ∀ k, T (it f k x)
  | 0 => hx
  | k + 1 => hT _ (it_in hT hx k)
/-- A way that goes on among n nodes is in a circle behind n steps. -/
theorem comes_round {f : Nat → Nat} {T : Nat → Prop} {n : Nat} (hT : ∀ x, T x → T (f x)) (hn : ∀ x, T x → x < n) {x : Nat} (hx : T x) :
    ∃ p, 0 < p ∧ p ≤ n ∧ it f p (it f n x) = it f n x ∧ ∀ q, 0 < q → q < p → it f q (it f n x) ≠ it f n x := by
  have h1 : ∃ i j, i < j ∧ j ≤ n ∧ it f i x = it f j x := by
    refine Classical.byContradiction fun q => ?_
    have hnd : ((List.range (n + 1)).map fun k => ((it f k x : Nat) : Int)).Nodup := by
      refine List.pairwise_iff_getElem.2 fun i j hi hj hij e => q ⟨i, j, hij, ?_, ?_⟩
      · simp at hj; omega
      · simp at e; omega
    have := nodup_len (n := n) hnd fun w hw => by
      obtain ⟨k, _, rfl⟩ := List.mem_map.1 hw
      exact gnd_nat (hn _ (it_in hT hx k))
    simp at this; omega
  obtain ⟨i, j, hij, hj, e⟩ := h1
  have h2 : it f (j - i) (it f n x) = it f n x := by
    have a1 : it f n x = it f (n - i) (it f i x) := by rw [← it_add]; congr 1; omega
    have a2 : it f (j - i) (it f n x) = it f (n - i) (it f j x) := by rw [← it_add, ← it_add]; congr 1; omega
    rw [a2, ← e, ← a1]
  obtain ⟨p, p1, ⟨p2, p3⟩, p4⟩ := leastO (P := fun p => 0 < p ∧ it f p (it f n x) = it f n x) (k := j - i) ⟨by omega, h2⟩
  exact ⟨p, p2, by omega, p3, fun q q1 q2 q3 => by have := p4 q ⟨q1, q3⟩; omega⟩
/-- A circle among A. -/
structure IsCyc (R : List (List Int)) (A c : List Int) : Prop where
  nd : c.Nodup
  sub : ∀ x ∈ c, x ∈ A
  pos : 0 < c.length
  rd : ∀ i, i < c.length → c.getD (if i + 1 < c.length then i + 1 else 0) 0 ∈ gR R (c.getD i 0).toNat
def cycl (f : Nat → Nat) (v : Nat) (k : Nat) : List Int := (List.range k).map fun i => ((it f i v : Nat) : Int)
theorem cycl_len (f : Nat → Nat) (v k : Nat) : (cycl f v k).length = k := by simp [cycl]
theorem cycl_step (f : Nat → Nat) (v k : Nat) : cycl f v (k + 1) = cycl f v k ++ [((it f k v : Nat) : Int)] := by
  unfold cycl; rw [List.range_succ, List.map_append]; rfl
theorem cycl_at (f : Nat → Nat) (v : Nat) {k i : Nat} (h : i < k) : (cycl f v k).getD i 0 = ((it f i v : Nat) : Int) := by
  simp [cycl, List.getD, h]
theorem cycl_is {R : List (List Int)} {A : List Int} {f : Nat → Nat} {v p : Nat} (h0 : 0 < p) (h1 : it f p v = v) (h2 : ∀ q, 0 < q → q < p → it f q v ≠ v)
    (hA : ∀ k, ((it f k v : Nat) : Int) ∈ A) (hR : ∀ k, ((it f (k + 1) v : Nat) : Int) ∈ gR R (it f k v)) : IsCyc R A (cycl f v p) := by
  refine ⟨?_, fun x hx => ?_, by rw [cycl_len]; exact h0, fun i hi => ?_⟩
  · refine List.pairwise_iff_getElem.2 fun i j hi hj hij e => ?_
    rw [cycl_len] at hi hj
    have e' : it f i v = it f j v := by simp [cycl] at e; omega
    have a1 : it f (p - j + i) v = v := by
      rw [it_add, e', ← it_add, show p - j + j = p by omega, h1]
    exact h2 (p - j + i) (by omega) (by omega) a1
  · obtain ⟨k, _, rfl⟩ := List.mem_map.1 hx
    exact hA k
  · rw [cycl_len] at hi ⊢
    rw [cycl_at f v hi, Int.toNat_natCast]
    by_cases q : i + 1 < p
    · rw [if_pos q, cycl_at f v q]; exact hR i
    · obtain rfl : p = i + 1 := by omega
      rw [if_neg q, cycl_at f v h0]
      have := hR i
      rw [h1] at this; exact this
end Go.Proofs.YtbaeanpdjdcheaaGreat
