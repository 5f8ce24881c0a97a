/-
  Appends to a slice of numbers that the call owns. No Go function is walked here. Rising rows of numbers in plain words, without any Go function: one number more, what was put in, what both have. No conditions. Rising rows of numbers: two with the same numbers are one. No Go function is walked here. No conditions.
-/
import Derived.Test.YtebjmnppeohdiaaRow0
namespace Go.Proofs.Ytebjmnppeohdiaa
open Go.RowKit
set_option linter.unusedSimpArgs false
set_option linter.unusedVariables false

/- Appends to a slice of numbers that the call owns. No Go function is walked here. -/
/-- append of one number. -/
theorem wp_push {ops : Array Oper} {rest : List Oper} {o : Oper} {a : Act} {Q : Exit → Act → World → Prop} (w : World) (hgd : o.guard = none) (s x : Operand)
    (ho : o.op = .call { callee := .builtin .append, args := #[s, x], argTypes := #[35, 35] })
    (base : Nat) (v : Value) (L : List Int) (z : Int) (hs : a.eval s = v) (hown : Own w base v L) (hx : a.eval x = .slice (some ⟨w.heap.size, 0, none⟩) 1 1)
    (hlen : L.length ≤ 1000000000) (hbase : base ≤ w.heap.size)
    (h : ∀ v' w', Own w' base v' (L ++ [z]) → Below base w w' → wpList Try.prog ops Q rest (a.put o.dst v') w') :
    wpList Try.prog ops Q (o :: rest) a (w.alloc (.cells #[.int .i64 z] 3)) := by
  obtain ⟨i0, hi, hz0, hz1, hz2⟩ := info_parts int_info
  refine wpList_append_own _ hgd s x 35 ho base 3 i0 (.int .i64 0) 1 8 Try.underlying35 hi hz0 hz1 hz2 rfl (by decide) v L.length _ hs (World.ownsRow.alloc hown _)
    ⟨w.heap.size, 0, none⟩ 1 1 [.int .i64 z] hx rfl ?_ ?_ (by unfold maxLen; omega) (by omega) (by simp; omega) ?_
  · intro j u hj
    match j, hj with
    | 0, hj => simp at hj; subst hj; simp [Addr.add]
  · intro u hu; simp at hu; subst hu; rfl
  · intro v' w' hown' hgrow _
    refine h v' w' ?_ (((Below.refl _ _).alloc hbase _).trans (grown_below (hown.alloc _) (by simp; omega) hgrow))
    unfold Own
    simpa using hown'

/-- append of a whole list that lies somewhere. -/
theorem wp_cat {ops : Array Oper} {rest : List Oper} {o : Oper} {a : Act} {Q : Exit → Act → World → Prop} (w : World) (hgd : o.guard = none) (s x : Operand)
    (ho : o.op = .call { callee := .builtin .append, args := #[s, x], argTypes := #[35, 35] })
    (base : Nat) (v : Value) (L M : List Int) (A : Option Addr) (c : Nat) (hs : a.eval s = v) (hown : Own w base v L) (hx : a.eval x = .slice A M.length c) (hr : Reads w A M) (hc : A = none → c = 0)
    (hlen : L.length + M.length ≤ 1000000000) (hbase : base ≤ w.heap.size)
    (h : ∀ v' w', Own w' base v' (L ++ M) → Below base w w' → wpList Try.prog ops Q rest (a.put o.dst v') w') :
    wpList Try.prog ops Q (o :: rest) a w := by
  obtain ⟨i0, hi, hz0, hz1, hz2⟩ := info_parts int_info
  rcases A with _ | ad
  · have hM : M = [] := by
      rcases M with _ | ⟨m, M⟩
      · rfl
      · obtain ⟨_, _, hh, _⟩ := hr.2 0 (by simp)
        cases hh
    subst hM
    rw [hc rfl] at hx
    refine wpList_append_own_none hgd s x 35 ho base 3 i0 1 Try.underlying35 hi v L.length _ hs hown hx ?_
    exact h v w (by simpa using hown) (Below.refl _ _)
  · refine wpList_append_own _ hgd s x 35 ho base 3 i0 (.int .i64 0) 1 8 Try.underlying35 hi hz0 hz1 hz2 rfl (by decide) v L.length _ hs hown
      ad M.length c (M.map (Value.int .i64)) hx (by simp) ?_ (one_cell M) (by unfold maxLen; omega) (by omega) hbase ?_
    · intro j u hj
      rw [List.getElem?_map] at hj
      have hjl : j < M.length := by
        rcases Nat.lt_or_ge j M.length with hh | hh
        · exact hh
        · rw [List.getElem?_eq_none hh] at hj; cases hj
      obtain ⟨b, off, hh, hcell⟩ := hr.2 j hjl
      cases hh
      rw [List.getElem?_eq_getElem hjl] at hj
      simp at hj
      rw [← hj, ← getD_lt M j hjl]
      by_cases h0 : j = 0
      · subst h0; simpa [Addr.add] using hcell
      · simpa [Addr.add, h0] using hcell
    · intro v' w' hown' hgrow _
      refine h v' w' ?_ (grown_below hown hbase hgrow)
      unfold Own
      simpa using hown'

/- Rising rows of numbers in plain words, without any Go function: one number more, what was put in, what both have. No conditions. -/
/-- A row with one number more, unless it is there. -/
def wth : List Int → Int → List Int
  | [], n => [n]
  | x :: l, n => if x < n then x :: wth l n else if x = n then x :: l else n :: x :: l
theorem wth_at (n : Int) : ∀ (L : List Int) (k : Nat), k ≤ L.length → (∀ s ∈ L.take k, s < n) → (k < L.length → ¬ L.getD k 0 < n) →
    wth L n = if k < L.length ∧ L.getD k 0 = n then L else L.take k ++ n :: L.drop k
  | [], k, hk, _, _ => by
    have : k = 0 := by simp at hk; exact hk
    subst this; rfl
  | x :: l, 0, _, _, h => by
    have h0 := h (by simp)
    simp at h0
    unfold wth
    rw [if_neg (by omega)]
    by_cases e : x = n
    · rw [if_pos e, if_pos ⟨by simp, by simpa using e⟩]
    · rw [if_neg e, if_neg (fun q => e (by simpa using q.2))]; rfl
  | x :: l, k + 1, hk, ht, h => by
    have hx : x < n := ht x (by simp)
    unfold wth
    rw [if_pos hx, wth_at n l k (by simpa using hk) (fun s hs => ht s (by simp [hs])) (fun q => by simpa using h (by simp; exact q))]
    have e : (k < l.length ∧ l.getD k 0 = n) ↔ (k + 1 < (x :: l).length ∧ (x :: l).getD (k + 1) 0 = n) := by simp
    by_cases q : k < l.length ∧ l.getD k 0 = n
    · rw [if_pos q, if_pos (e.mp q)]
    · rw [if_neg q, if_neg (fun r => q (e.mpr r))]; rfl
theorem wth_in (n : Int) (hn : InR n) : ∀ L : List Int, (∀ z ∈ L, InR z) → ∀ z ∈ wth L n, InR z
  | [], _, z, hz => by simp [wth] at hz; rw [hz]; exact hn
  | x :: l, h, z, hz => by
    unfold wth at hz
    split at hz
    · rcases List.mem_cons.mp hz with rfl | q
      · exact h _ (by simp)
      · exact wth_in n hn l (fun y hy => h y (by simp [hy])) z q
    · split at hz
      · exact h z hz
      · rcases List.mem_cons.mp hz with rfl | q
        · exact hn
        · exact h z q
theorem wth_len (n : Int) : ∀ L : List Int, (wth L n).length ≤ L.length + 1
  | [] => by simp [wth]
  | x :: l => by
    have := wth_len n l
    unfold wth
    split
    · simp; omega
    · split <;> simp
/-- Numbers as a rising row. -/
def rise (L : List Int) : List Int := L.foldl wth []
/-- A number of a set. -/
def OkB (n : Int) : Prop := 0 ≤ n ∧ n ≤ 65535
instance instDecOkB (n : Int) : Decidable (OkB n) := by unfold OkB; infer_instance
def bputK (L : List Int) (n : Int) : List Int := if OkB n then (if n ∈ L then L else wth L n) else L
def bputE (L : List Int) (n : Int) : Int := if OkB n then (if n ∈ L then 35 else 0) else 2
def bdropK (L : List Int) (n : Int) : List Int := if OkB n then L.filter (· ≠ n) else L
def bdropE (L : List Int) (n : Int) : Int := if OkB n then (if n ∈ L then 0 else 35) else 2
/-- What both have. -/
def both (L M : List Int) : List Int := L.filter (· ∈ M)
/- Rising rows of numbers: two with the same numbers are one. No Go function is walked here. No conditions. -/
/-- A rising row. -/
def Rises (L : List Int) : Prop := L.Pairwise (· < ·)
theorem rises_ext : ∀ {L M : List Int}, Rises L → Rises M → (∀ z, z ∈ L ↔ z ∈ M) → L = M
  | [], [], _, _, _ => rfl
  | [], y :: M, _, _, h => by have := (h y).mpr (by simp); cases this
  | x :: L, [], _, _, h => by have := (h x).mp (by simp); cases this
  | x :: L, y :: M, hL, hM, h => by
    have h1 := List.pairwise_cons.1 hL
    have h2 := List.pairwise_cons.1 hM
    have e : x = y := by
      rcases List.mem_cons.1 ((h x).mp (by simp)) with q | q
      · exact q
      · rcases List.mem_cons.1 ((h y).mpr (by simp)) with r | r
        · exact r.symm
        · have := h1.1 y r; have := h2.1 x q; omega
    subst e
    refine congrArg (x :: ·) (rises_ext h1.2 h2.2 fun z => ?_)
    constructor
    · intro q
      rcases List.mem_cons.1 ((h z).mp (by simp [q])) with r | r
      · subst r; have := h1.1 z q; omega
      · exact r
    · intro q
      rcases List.mem_cons.1 ((h z).mpr (by simp [q])) with r | r
      · subst r; have := h2.1 z q; omega
      · exact r
theorem o_mem_wth (n z : Int) : ∀ L : List Int, z ∈ wth L n ↔ z = n ∨ z ∈ L
  | [] => by simp [wth]
  | x :: l => by
    unfold wth
    split
    · rw [List.mem_cons, o_mem_wth n z l, List.mem_cons]
      constructor
      · rintro (q | q | q)
        · exact Or.inr (Or.inl q)
        · exact Or.inl q
        · exact Or.inr (Or.inr q)
      · rintro (q | q | q)
        · exact Or.inr (Or.inl q)
        · exact Or.inl q
        · exact Or.inr (Or.inr q)
    · split
      · rename_i e
        subst e
        simp
      · simp
theorem o_rises_wth (n : Int) : ∀ L : List Int, Rises L → Rises (wth L n)
  | [], _ => by simp [wth, Rises]
  | x :: l, h => by
    have h1 := List.pairwise_cons.1 h
    unfold wth
    split
    · refine List.pairwise_cons.2 ⟨fun z hz => ?_, o_rises_wth n l h1.2⟩
      rcases (o_mem_wth n z l).1 hz with rfl | q
      · assumption
      · exact h1.1 z q
    · split
      · exact h
      · refine List.pairwise_cons.2 ⟨fun z hz => ?_, h⟩
        rcases List.mem_cons.1 hz with rfl | q
        · omega
        · have := h1.1 z q; omega
theorem o_mem_rise (z : Int) : ∀ (L : List Int) (A : List Int), z ∈ L.foldl wth A ↔ z ∈ L ∨ z ∈ A
  | [], A => by simp
  | x :: L, A => by
    rw [List.foldl_cons, o_mem_rise z L, o_mem_wth, List.mem_cons]
    constructor
    · rintro (q | q | q)
      · exact Or.inl (Or.inr q)
      · exact Or.inl (Or.inl q)
      · exact Or.inr q
    · rintro ((q | q) | q)
      · exact Or.inr (Or.inl q)
      · exact Or.inl q
      · exact Or.inr (Or.inr q)
theorem o_rises_rise : ∀ (L : List Int) (A : List Int), Rises A → Rises (L.foldl wth A)
  | [], _, h => h
  | x :: L, A, h => o_rises_rise L _ (o_rises_wth x A h)
end Go.Proofs.Ytebjmnppeohdiaa
