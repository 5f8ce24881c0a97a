/-
  The library's slices.Compact of a sorted row of the call's own. The condition: a row of at most 1000000.
-/
import Derived.Test.YtogckefmmjbapaaSrt
import Derived.Test.YtogckefmmjbapaaRise
namespace Go.Proofs.Ytogckefmmjbapaa
open Go.RowKit Go.Sort
set_option linter.unusedSimpArgs false
set_option linter.unusedVariables false

theorem cmp_up (d : Array Int) (n : Nat) (hs : ∀ i j, i ≤ j → j < n → d[i]! ≤ d[j]!) : ∀ m, m ≤ n → Rises (Lib.compactUpTo d m) ∧ ∀ z, z ∈ Lib.compactUpTo d m ↔ ∃ j, j < m ∧ d[j]! = z
  | 0, _ => by
    have e : Lib.compactUpTo d 0 = [] := rfl
    rw [e]
    exact ⟨List.Pairwise.nil, fun z => ⟨fun q => (by cases q), fun ⟨j, h, _⟩ => by omega⟩⟩
  | m + 1, h => by
    obtain ⟨h1, h2⟩ := cmp_up d n hs m (by omega)
    rw [Lib.compactUpTo_succ]
    by_cases k : Lib.keeps d m = true
    · rw [if_pos k]
      have hk : m = 0 ∨ d[m]! ≠ d[m - 1]! := by simpa [Lib.keeps] using k
      refine ⟨List.pairwise_append.2 ⟨h1, by simp, fun a ha b hb => ?_⟩, fun z => ?_⟩
      · rw [List.mem_singleton.1 hb]
        obtain ⟨j, hj, rfl⟩ := (h2 a).1 ha
        rcases hk with q | q
        · omega
        · have := hs j (m - 1) (by omega) (by omega)
          have := hs (m - 1) m (by omega) (by omega)
          omega
      · rw [List.mem_append, h2, List.mem_singleton]
        constructor
        · rintro (⟨j, hj, e⟩ | e)
          · exact ⟨j, by omega, e⟩
          · exact ⟨m, by omega, e.symm⟩
        · rintro ⟨j, hj, e⟩
          rcases Nat.lt_or_ge j m with q | q
          · exact Or.inl ⟨j, q, e⟩
          · right; rw [← e, show j = m by omega]
    · rw [if_neg k, List.append_nil]
      have hk : ¬ (m = 0 ∨ d[m]! ≠ d[m - 1]!) := by simpa [Lib.keeps] using k
      have hm : m ≠ 0 := fun q => hk (Or.inl q)
      have he : d[m]! = d[m - 1]! := Classical.byContradiction fun q => hk (Or.inr q)
      refine ⟨h1, fun z => ?_⟩
      rw [h2]
      constructor
      · rintro ⟨j, hj, e⟩; exact ⟨j, by omega, e⟩
      · rintro ⟨j, hj, e⟩
        rcases Nat.lt_or_ge j m with q | q
        · exact ⟨j, q, e⟩
        · exact ⟨m - 1, by omega, by rw [← he, ← e, show j = m by omega]⟩
theorem arr_get (L : List Int) {j : Nat} (h : j < L.length) : L.toArray[j]! = L.getD j 0 := by simp [List.getD, h]
theorem compact_is {L : List Int} (hs : L.Pairwise (· ≤ ·)) : Rises (Lib.compact L) ∧ (∀ z, z ∈ Lib.compact L ↔ z ∈ L) ∧ (Lib.compact L).length ≤ L.length := by
  have h := cmp_up L.toArray L.length (fun i j h1 h2 => by
    rw [arr_get L (by omega), arr_get L h2]
    rcases Nat.lt_or_ge i j with q | q
    · rw [getD_lt _ _ (by omega), getD_lt _ _ h2]; exact List.pairwise_iff_getElem.1 hs i j (by omega) h2 q
    · rw [show i = j by omega]; exact Int.le_refl _) L.length (Nat.le_refl _)
  refine ⟨h.1, fun z => ?_, ?_⟩
  · show z ∈ Lib.compactUpTo L.toArray L.length ↔ _
    rw [h.2]
    constructor
    · rintro ⟨j, hj, e⟩
      rw [arr_get L hj, getD_lt _ _ hj] at e
      rw [← e]; exact List.getElem_mem hj
    · intro hz
      obtain ⟨j, hj, e⟩ := List.getElem_of_mem hz
      exact ⟨j, hj, by rw [arr_get L hj, getD_lt _ _ hj, e]⟩
  · unfold Lib.compact Lib.compactUpTo
    rw [List.length_map]
    exact Nat.le_trans (List.length_filter_le _ _) (by simp)
/-- Sorted, then compacted, is rising. -/
theorem compact_rise (M : List Int) : Lib.compact (M.mergeSort fun x y => decide (x ≤ y)) = rise M := by
  obtain ⟨h1, h2, _⟩ := compact_is (sorted_sort M)
  refine rises_ext h1 (o_rises_rise M [] List.Pairwise.nil) fun z => ?_
  rw [h2, (perm_sort M).mem_iff]
  show _ ↔ z ∈ M.foldl wth []
  rw [o_mem_rise]; simp
set_option maxHeartbeats 1000000 in
theorem compact_own {w1 : World} {base : Nat} {v : Value} {L : List Int} (ho : Own w1 base v L) (hl : L.length ≤ 1000000) (hin : ∀ z ∈ L, InR z) (hs : L.Pairwise (· ≤ ·)) (hb0 : base ≤ w1.heap.size) :
    Calls Try.prog 34 #[v] w1 fun e w' => ∃ v', e = .returned v' ∧ Sl w' v' (Lib.compact L) ∧ Below base w1 w' := by
  obtain ⟨_, hmem, hlen⟩ := compact_is hs
  rcases ho.2 with ⟨rfl, hz⟩ | ⟨g, cap, cur, rfl, hbase, hgb, r1, r2, r3, r4⟩
  · have hss : L = [] := List.eq_nil_of_length_eq_zero hz
    subst hss
    refine (Try.compact_none none 0 w1).mono ?_; rintro e w' ⟨rfl, rfl⟩
    exact ⟨_, rfl, ⟨none, 0, rfl, Nat.le_refl _, fun _ => rfl, fun z hz => (by cases hz), fun i hi => (by cases hi)⟩, Below.refl _ _⟩
  · have hH : Holds (Value.int .i64) w1 g 0 L.toArray := holds_of_block_i hgb (by simpa using r4)
    refine (Try.compact_row g 0 cap L w1 hH (by omega) r1).mono ?_; rintro e w' ⟨rfl, q, rfl⟩
    have hsz : (Lib.compact L ++ List.replicate (L.length - (Lib.compact L).length) 0).toArray.size = L.toArray.size := by simp; omega
    refine ⟨_, rfl, ⟨some ⟨g, 0, none⟩, cap, rfl, by omega, fun q => (by cases q), fun z hz => hin z ((hmem z).1 hz), fun i hi => ⟨g, 0, rfl, ?_⟩⟩, ?_⟩
    · rw [cell?_putRow (Value.int .i64) (Sort.ahead w1 q) g 0 L.toArray _ (holds_ahead _ _ _ _ _ _ hH) hsz i (by simp; omega)]
      rw [arr_get _ (by simp; omega), getD_lt _ _ (by simp; omega), getD_lt _ _ hi, List.getElem_append_left]
    · exact (Below.refl _ _).grown (row := some g) ⟨rfl, rfl, rfl, by simp, fun k hk hne => by
        have : g ≠ k := fun e => hne (by rw [e])
        simp [putRow, mapBlock, Sort.ahead, Array.getElem?_modify, this]⟩ hb0 (fun j hj => by cases hj; exact hbase)
end Go.Proofs.Ytogckefmmjbapaa
