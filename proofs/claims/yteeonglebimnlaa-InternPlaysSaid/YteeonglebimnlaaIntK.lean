/-
  InternBack of layer 8 answers true over a table's contracts, for whatever number and structs. The conditions: the contracts.
-/
import Derived.Test.YteeonglebimnlaaIntA
import Derived.Test.YteeonglebimnlaaIntB
import Derived.Deep.DeepCutAuto
import Derived.Deep.RegionHeld3
namespace Go.Proofs.Yteeonglebimnlaa
open Go.RowKit
set_option linter.unusedSimpArgs false
set_option linter.unusedVariables false

/-- The contracts of a table of structs. -/
abbrev TabK := TabCon Try.prog K4 enc4 ok4 (0, 0, 0, 0) 12 13 14 16 15 0 True True False
/-- A slice of structs reads so. -/
def Reads4 (w : World) (a : Option Addr) (l : List K4) : Prop := ∀ i, i < l.length → ∃ b off, a = some ⟨b, off, none⟩ ∧ w.cell? ⟨b, off + i * 4, none⟩ = some (.int .i64 (l.getD i (0, 0, 0, 0)).1) ∧ w.cell? ⟨b, off + i * 4 + 1, none⟩ = some (.int .i64 (l.getD i (0, 0, 0, 0)).2.1) ∧ w.cell? ⟨b, off + i * 4 + 2, none⟩ = some (.int .i64 (l.getD i (0, 0, 0, 0)).2.2.1) ∧ w.cell? ⟨b, off + i * 4 + 3, none⟩ = some (.int .i64 (l.getD i (0, 0, 0, 0)).2.2.2) ∧ ok4 (l.getD i (0, 0, 0, 0))

section
variable {κ : Type} [DecidableEq κ]
def gix (K : List κ) (k : κ) : Nat := K.idxOf k
theorem gid_full {K : List κ} {m : Int} {s : κ} (hm : (K.length : Int) ≤ m) (h : ¬ s ∈ K) (h2 : m ≤ (K.length : Int)) : gidE K m s = 3 ∧ gidN K m s = 0 ∧ gidK K m s = K ∧ gfnd K s = 0 ∧ decide (s ∈ K) = false ∧ (K.length : Int) = m := by
  unfold gidE gidN gidK gfnd
  rw [if_neg h, if_neg h, if_neg h, if_neg h, if_pos h2, if_pos h2, if_pos h2]
  exact ⟨rfl, rfl, rfl, rfl, decide_eq_false h, by omega⟩
theorem gid_there {K : List κ} {m : Int} {s : κ} (z : κ) (h : s ∈ K ∨ ¬ m ≤ (K.length : Int)) : gidE K m s = 0 ∧ s ∈ gidK K m s ∧ gidN K m s = (gix (gidK K m s) s : Int) ∧ (∀ q ∈ K, q ∈ gidK K m s ∧ gix (gidK K m s) q = gix K q) ∧ (gidK K m s).length ≤ K.length + 1 := by
  unfold gidE gidN gidK gix
  by_cases hs : s ∈ K
  · rw [if_pos hs, if_pos hs, if_pos hs]
    exact ⟨rfl, hs, rfl, fun q hq => ⟨hq, rfl⟩, by omega⟩
  · have h2 : ¬ m ≤ (K.length : Int) := h.elim (fun q => absurd q hs) id
    rw [if_neg hs, if_neg hs, if_neg hs, if_neg h2, if_neg h2, if_neg h2]
    refine ⟨rfl, by simp, ?_, fun q hq => ⟨List.mem_append_left _ hq, by rw [List.idxOf_append, if_pos hq]⟩, by simp⟩
    rw [List.idxOf_append, if_neg hs]; simp
theorem gix_lt {K : List κ} {s : κ} (h : s ∈ K) : gix K s < K.length := List.idxOf_lt_length_of_mem h
theorem gix_inj {K : List κ} {s t : κ} (h : s ∈ K) (e : gix K s = gix K t) : s = t := by
  have hi := gix_lt h
  have h1 : K[gix K s] = s := List.getElem_idxOf hi
  have h2 : ∀ (q : gix K t < K.length), K[gix K t] = t := fun q => List.getElem_idxOf q
  have := h2 (by omega)
  simp only [e] at h1
  rw [← h1, this]
theorem gat {K : List κ} {s : κ} (z : κ) (h : s ∈ K) : gkey z K (gix K s : Int) = s ∧ gin K (gix K s : Int) = true ∧ gfnd K s = (gix K s : Int) ∧ decide (s ∈ K) = true := by
  have hi : K.idxOf s < K.length := List.idxOf_lt_length_of_mem h
  unfold gkey gin gfnd gix
  rw [if_pos (by omega), if_pos h]
  refine ⟨?_, by simp; omega, rfl, decide_eq_true h⟩
  rw [Int.toNat_natCast]
  simp [List.getD, hi]
theorem gidx {K : List κ} (z : κ) (hn : K.Nodup) (j : Nat) (hj : j < K.length) : gkey z K (j : Int) = K.getD j z ∧ gin K (j : Int) = true ∧ gfnd K (K.getD j z) = (j : Int) ∧ K.getD j z ∈ K := by
  have hm : K.getD j z ∈ K := by rw [show K.getD j z = K[j] by simp [List.getD, hj]]; exact List.getElem_mem hj
  unfold gkey gin gfnd
  rw [if_pos (by omega), if_pos hm, Int.toNat_natCast]
  refine ⟨rfl, by simp; omega, ?_, hm⟩
  rw [show K.getD j z = K[j] by simp [List.getD, hj], hn.idxOf_getElem]
omit [DecidableEq κ] in
theorem gend {K : List κ} : gin K (K.length : Int) = false := by unfold gin; simp
end
end Go.Proofs.Yteeonglebimnlaa
