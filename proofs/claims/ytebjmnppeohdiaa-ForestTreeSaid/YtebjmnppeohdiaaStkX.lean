/-
  Layer 18's laws in words: of stakes that may be nobody comes back to itself; one more stake changes its own entity alone, from its period on. No Go function is walked here. No conditions.
-/
import Derived.Test.YtebjmnppeohdiaaStkM
namespace Go.Proofs.Ytebjmnppeohdiaa
open Go.RowKit
set_option linter.unusedSimpArgs false
set_option linter.unusedVariables false

theorem fst18_no {L : List K4} {n : Int} (h : fst18 L n < L.length) : nxe (L.take (fst18 L n)) (L.getD (fst18 L n) z4) n ≠ 0 := by
  have h' : (List.range L.length).findIdx (bad18 L n) < (List.range L.length).length := by rw [List.length_range]; exact h
  have e := List.findIdx_getElem (p := bad18 L n) (w := h')
  rw [List.getElem_range] at e
  simpa [bad18, fst18] using e
theorem chE_zero {L : List K4} {n : Int} (h4 : L.length ≤ 400) (h : chE L n = 0) : ∀ j, j < L.length → nxe (L.take j) (L.getD j z4) n = 0 := by
  unfold chE at h
  rw [if_neg (by omega)] at h
  intro j hj
  by_cases q : fst18 L n < L.length
  · rw [if_pos q] at h
    exact absurd h (fst18_no q)
  · have := fst18_le L n
    exact fst18_ok (by omega)
theorem mem_wrg {L : List K4} {n : Int} (h : ∀ j, j < L.length → nxe (L.take j) (L.getD j z4) n = 0) : ∀ s ∈ L, wrg s n = 0 := fun s hs => by
  obtain ⟨j, hj, rfl⟩ := List.getElem_of_mem hs
  have := (nxe_zero (h j hj)).1
  rwa [get4 hj] at this
/-- Where an entity is held at all, it is by one of those that there are, with a share that may be. -/
theorem upv_in {L : List K4} {n : Int} (h : ∀ s ∈ L, wrg s n = 0) (x p : Int) : (0 ≤ upv L x p ∧ (upv L x p = 0 ∨ upv L x p ≤ n)) ∧ 0 ≤ shv L x p ∧ shv L x p ≤ 10000 := by
  unfold upv shv
  rcases hel_or L x p with e | ⟨e, _⟩
  · rw [e]; simp [ini4]
  · have := wrg_zero (h _ e)
    omega
theorem upv_nil (x p : Int) : upv [] x p = 0 := rfl
theorem back_nil {p x : Int} (hx : x ≠ 0) : ¬ Back (nx [] p) x := by
  rintro ⟨k, h1, h2⟩
  obtain ⟨j, rfl⟩ : ∃ j, k = j + 1 := ⟨k - 1, by omega⟩
  have e : ∀ y, nx [] p y = 0 := fun y => by unfold nx; split <;> rfl
  have : way (nx [] p) (j + 1) x = 0 := e _
  exact hx (h2.symm.trans this)
theorem back_turn {f : Int → Int} {x : Int} (h : Back f x) (j : Nat) : Back f (way f j x) := by
  obtain ⟨k, h1, h2⟩ := h
  exact ⟨k, h1, by rw [← way_add, Nat.add_comm, way_add, h2]⟩
theorem nx_snoc {A : List K4} {s : K4} {p y : Int} (h : y ≠ s.1) : nx (A ++ [s]) p y = nx A p y := by
  unfold nx upv
  rw [hel_snoc, stp_no (cnt_no (fun q => h q.1.symm))]
theorem free_k {L : List K4} {n : Int} (h : ∀ j, j < L.length → nxe (L.take j) (L.getD j z4) n = 0) : ∀ k, k ≤ L.length → ∀ p : Nat, p < 24 → ∀ x, x ≠ 0 → ¬ Back (nx (L.take k) (p : Int)) x
  | 0, _ => fun p hp x hx => by rw [List.take_zero]; exact back_nil hx
  | k + 1, hk => fun p hp x hx hb => by
    have ih := free_k h k (by omega) p hp x hx
    obtain ⟨hw, hg⟩ := nxe_zero (h k (by omega))
    rw [take4 (by omega : k < L.length)] at hb
    have hs := wrg_zero hw
    have hs0 : (L.getD k z4).1 ≠ 0 := fun q => by omega
    generalize L.getD k z4 = s at *
    generalize L.take k = A at *
    have hns : ¬ Back (nx (A ++ [s]) (p : Int)) s.1 := fun q => by
      have := (goes_is hs0).2 ⟨p, hp, q⟩
      rw [hg] at this; cases this
    have hne : ∀ j, way (nx (A ++ [s]) (p : Int)) j x ≠ s.1 := fun j q => hns (q ▸ back_turn hb j)
    have he : ∀ j, way (nx (A ++ [s]) (p : Int)) j x = way (nx A (p : Int)) j x := by
      intro j
      induction j with
      | zero => rfl
      | succ j ihj =>
        show nx (A ++ [s]) (p : Int) (way (nx (A ++ [s]) (p : Int)) j x) = nx A (p : Int) (way (nx A (p : Int)) j x)
        rw [nx_snoc (hne j), ihj]
    obtain ⟨j, h1, h2⟩ := hb
    exact ih ⟨j, h1, by rw [← he]; exact h2⟩
theorem hel_congr {x p q : Int} : ∀ (L : List K4) (h : K4), (∀ s ∈ L, cnt x p s = cnt x q s) → L.foldl (stp x p) h = L.foldl (stp x q) h
  | [], _, _ => rfl
  | a :: L, h, hc => by
    rw [List.foldl_cons, List.foldl_cons]
    have e : stp x p h a = stp x q h a := by unfold stp; rw [hc a (by simp)]
    rw [e]
    exact hel_congr L _ (fun s hs => hc s (List.mem_cons_of_mem _ hs))
theorem nx_congr {L : List K4} {p q : Int} (h : ∀ x, ∀ s ∈ L, cnt x p s = cnt x q s) : nx L p = nx L q := by
  funext x
  unfold nx upv hel
  rw [hel_congr L ini4 (h x)]
/-- In no period whatever. -/
theorem free_all {L : List K4} {n : Int} (h : ∀ j, j < L.length → nxe (L.take j) (L.getD j z4) n = 0) (p : Int) {x : Int} (hx : x ≠ 0) : ¬ Back (nx L p) x := by
  have hw := mem_wrg h
  have hf := fun k (hk : k < 24) => by
    have := free_k h L.length (Nat.le_refl _) k hk x hx
    rwa [List.take_length] at this
  rcases Int.lt_or_le p 0 with q | q
  · rintro ⟨k, h1, h2⟩
    obtain ⟨j, rfl⟩ : ∃ j, k = j + 1 := ⟨k - 1, by omega⟩
    have e : ∀ y, nx L p y = 0 := fun y => by
      unfold nx
      split
      · rfl
      · unfold upv
        rcases (fold_is y p L ini4).2.2 with ⟨r, _⟩ | ⟨r, r2⟩
        · show (L.foldl (stp y p) ini4).2.1 = 0
          rw [r]; rfl
        · have h3 := wrg_zero (hw _ r)
          have h4 := (cnt_is.1 r2).2
          omega
    have : way (nx L p) (j + 1) x = 0 := e _
    exact hx (h2.symm.trans this)
  · rcases Int.lt_or_le p 24 with r | r
    · have := hf p.toNat (by omega)
      rwa [show ((p.toNat : Nat) : Int) = p by omega] at this
    · have e : nx L p = nx L ((23 : Nat) : Int) := nx_congr fun y s hs => by
        have h3 := wrg_zero (hw s hs)
        by_cases hy : s.1 = y
        · rw [cnt_yes hy (by omega), cnt_yes hy (by omega)]
        · rw [cnt_no (fun q => hy q.1), cnt_no (fun q => hy q.1)]
      rw [e]
      exact hf 23 (by omega)
/-- So many steps up, and none of them the end: no more than there are entities. -/
theorem way_stop {f : Int → Int} {n x : Int} {m : Nat} (hf : ∀ y, y ≠ 0 → ¬ Back f y) (hi : ∀ y, 0 ≤ f y ∧ (f y = 0 ∨ f y ≤ n)) (hx : 1 ≤ x ∧ x ≤ n) (hm : ∀ j, j ≤ m → way f j x ≠ 0) : (m : Int) + 1 ≤ n := by
  have h := way_few (f := f) (e := x) (U := (List.range n.toNat).map fun i : Nat => (i : Int) + 1) (k := m + 1) (fun i j hij hj q => by
    have := hf (way f i x) (hm i (by omega))
    exact this ⟨j - i, by omega, by rw [← way_add, show i + (j - i) = j by omega]; exact q.symm⟩) (fun j hj => by
    have h0 := hm j (by omega)
    have hr : 1 ≤ way f j x ∧ way f j x ≤ n := by
      cases j with
      | zero => exact hx
      | succ j =>
        have := hi (way f j x)
        have e : way f (j + 1) x = f (way f j x) := rfl
        rw [e] at h0 ⊢
        omega
    exact List.mem_map.2 ⟨(way f j x - 1).toNat, List.mem_range.2 (by omega), by omega⟩)
  rw [List.length_map, List.length_range] at h
  omega
theorem mem_frm {L : List K4} {x z : Int} : z ∈ frm L x ↔ ∃ t ∈ L, t.1 = x ∧ t.2.2.2 = z := by
  unfold frm
  show z ∈ ((ofE L x).map fun s => s.2.2.2).foldl wth [] ↔ _
  rw [o_mem_rise, List.mem_map]
  constructor
  · rintro (⟨t, ht, e⟩ | q)
    · exact ⟨t, (mem_ofE.1 ht).1, (mem_ofE.1 ht).2, e⟩
    · cases q
  · rintro ⟨t, h1, h2, h3⟩
    exact Or.inl ⟨t, mem_ofE.2 ⟨h1, h2⟩, h3⟩
theorem later_yes {L : List K4} {s : K4} {p next : Int} (hL : ∀ t ∈ L, ok4 t) (hs : ok4 s) (h2 : s.2.2.2 ≤ p) (h3 : p < next) (hn : ∀ z ∈ frm L s.1, s.2.2.2 < z → next ≤ z) : hel (L ++ [s]) s.1 p = s := by
  rw [hel_snoc]
  refine stp_yes (cnt_yes rfl h2) ?_
  rcases hel_is s.1 p hL with ⟨e, _⟩ | ⟨e, hc, _⟩
  · rw [e]
    have := hs.2.2.2
    unfold InR at this
    exact this.1
  · obtain ⟨c1, c2⟩ := cnt_is.1 hc
    rcases Int.lt_or_le s.2.2.2 (hel L s.1 p).2.2.2 with q | q
    · have := hn _ (mem_frm.2 ⟨_, e, c1, rfl⟩) q
      omega
    · exact q
theorem later_no {L : List K4} {s : K4} {x p next : Int} (hL : ∀ t ∈ L, ok4 t) (hp : p < 4611686018427387904) (hn : next = 4611686018427387904 ∨ next ∈ frm L s.1 ∧ s.2.2.2 < next) (h : ¬ (x = s.1 ∧ s.2.2.2 ≤ p ∧ p < next)) : hel (L ++ [s]) x p = hel L x p := by
  rw [hel_snoc]
  by_cases h1 : s.1 = x
  · by_cases h2 : s.2.2.2 ≤ p
    · have h3 : next ≤ p := Int.not_lt.1 fun q => h ⟨h1.symm, h2, q⟩
      rcases hn with e | ⟨e, e2⟩
      · omega
      · obtain ⟨t, t1, t2, t3⟩ := mem_frm.1 e
        have hc : cnt x p t = true := cnt_yes (t2.trans h1) (by omega)
        rcases hel_is x p hL with ⟨_, q⟩ | ⟨_, _, q⟩
        · rw [q t t1] at hc; cases hc
        · have := q t t1 hc
          exact stp_low (by omega)
    · exact stp_no (cnt_no (fun q => h2 q.2))
  · exact stp_no (cnt_no (fun q => h1 q.1))
end Go.Proofs.Ytebjmnppeohdiaa
