/-
  What the library's Index and Contains (of whatever number) answer. The condition: a slice whose length fits.
-/
import Derived.Test.YteendpdidkekkaaRow
import Derived.WalkSmall
namespace Go.Proofs.Yteendpdidkekkaa
open Go.RowKit
set_option linter.unusedSimpArgs false
set_option linter.unusedVariables false

/-- The first one's place. -/
def IdxV (L : List Int) (v i : Int) : Prop := (∃ k : Nat, i = (k : Int) ∧ k < L.length ∧ L.getD k 0 = v ∧ ∀ j, j < k → L.getD j 0 ≠ v) ∨ (i = -1 ∧ ∀ j, j < L.length → L.getD j 0 ≠ v)
theorem IdxV.mem {L : List Int} {v i : Int} (h : IdxV L v i) : 0 ≤ i ↔ v ∈ L := by
  rcases h with ⟨k, rfl, h1, h2, h3⟩ | ⟨rfl, h2⟩
  · rw [getD_lt _ _ h1] at h2
    exact ⟨fun _ => h2 ▸ List.getElem_mem h1, fun _ => by omega⟩
  · refine ⟨fun q => by omega, fun q => ?_⟩
    obtain ⟨j, hj, e⟩ := List.getElem_of_mem q
    exact absurd ((getD_lt _ _ hj).trans e) (h2 j hj)
set_option maxHeartbeats 1000000 in
set_option maxRecDepth 100000 in
theorem idx_any (a : Option Addr) (c : Nat) (L : List Int) (v : Int) (w : World) (hL : Reads w a L) (hn : L.length ≤ 1000000) :
    Calls Try.prog 62 #[.slice a L.length c, .int .i64 v] w fun e w' => (∃ i : Int, e = .returned (.int .i64 i) ∧ IdxV L v i) ∧ w = w' := by
  have HL := Lib.hid hL; clear hL
  go_enter Try.func62, Try.ntmps62
  go_wp2_with fail
  go_loopw [8] (fun i wr => ∃ k : Nat, k ≤ L.length ∧ i = .int .i64 (k : Int) ∧ (∀ j, j < k → L.getD j 0 ≠ v) ∧ w = wr) (fun i _ => L.length - (intOf i).toNat)
  case atStart => exact ⟨0, Nat.zero_le _, rfl, fun j hj => (by cases hj), rfl⟩
  case round =>
    obtain ⟨k, hk, rfl, hok, rfl⟩ := hrel
    have HK := Lib.hid hok; clear hok
    by_cases hlt : k < L.length
    · obtain ⟨b, off, rfl, hc⟩ := HL.out.2 k hlt
      have i0 : (0 : Int) ≤ (k : Int) := by omega
      have i1 : (k : Int) < (L.length : Int) := by omega
      have HY : Hid (L.getD k 0 = v → IdxV L v (k : Int)) := fun q => Or.inl ⟨k, rfl, hlt, q, HK.out⟩
      have HN : Hid (L.getD k 0 ≠ v → ∀ j, j < k + 1 → L.getD j 0 ≠ v) := fun q j hj => by
        rcases Nat.lt_or_ge j k with r | r
        · exact HK.out j r
        · rw [show j = k by omega]; exact q
      generalize L.getD k 0 = z at *
      by_cases hs : z = v
      · subst hs
        have HY2 := Lib.hid (HY.out rfl)
        go_wp2_with fail
        go_ret
        exact ⟨⟨(k : Int), rfl, HY2.out⟩, rfl⟩
      · have he : (v == z) = false := by simpa using fun h => hs h.symm
        have HS := Lib.hid (HN.out hs); clear hs
        go_wp2_with fail
        go_roundw
        · exact ⟨k + 1, by omega, by go_num, HS.out, by first | rfl | trivial⟩
        · simp [intOf]; omega
    · obtain rfl : k = L.length := by omega
      have hd0 : decide ((L.length : Int) < (L.length : Int)) = false := decide_eq_false (by omega)
      go_wp2_with fail
      go_ret
      exact ⟨⟨-1, rfl, Or.inr ⟨rfl, HK.out⟩⟩, rfl⟩
set_option maxHeartbeats 1000000 in
theorem cont_any (a : Option Addr) (c : Nat) (L : List Int) (v : Int) (w : World) (hL : Reads w a L) (hn : L.length ≤ 1000000) :
    Calls Try.prog 51 #[.slice a L.length c, .int .i64 v] w fun e w' => e = .returned (.bool (decide (v ∈ L))) ∧ w = w' := by
  have hi := idx_any a c L v w hL hn
  have HE : Hid (∀ i, IdxV L v i → decide (0 ≤ i) = decide (v ∈ L)) := fun i h => by rw [decide_eq_decide]; exact h.mem
  generalize decide (v ∈ L) = t at *
  clear hL
  go_enter Try.func51, Try.ntmps51
  go_wp2_with fail
  refine hi.mono ?_; clear hi; rintro e w0 ⟨⟨i, rfl, hv⟩, rfl⟩
  have e1 := HE.out i hv
  clear hv
  go_wp2_with fail
  go_ret
  exact ⟨rfl, rfl⟩

theorem Own.down {w : World} {base base' : Nat} {v : Value} {L : List Int} (h : Own w base v L) (hb : base' ≤ base) : Own w base' v L := by
  refine ⟨h.1, ?_⟩
  rcases h.2 with q | ⟨g, cap, cur, rfl, h2, h3⟩
  · exact Or.inl q
  · exact Or.inr ⟨g, cap, cur, rfl, Nat.le_trans hb h2, h3⟩
end Go.Proofs.Yteendpdidkekkaa
