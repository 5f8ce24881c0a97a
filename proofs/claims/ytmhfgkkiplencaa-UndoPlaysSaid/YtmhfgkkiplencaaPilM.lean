/-
  Rows of pairs in plain words, without any Go function: their cells; the first one with the least first number. No conditions.
-/
import Derived.Test.YtmhfgkkiplencaaRowG
namespace Go.Proofs.Ytmhfgkkiplencaa
open Go.RowKit
set_option linter.unusedSimpArgs false
set_option linter.unusedVariables false

/-- A row of pairs, cell by cell. -/
def prs : List (Int × Int) → List Value
  | [] => []
  | p :: l => .int .i64 p.1 :: .int .i64 p.2 :: prs l
theorem prs_app : ∀ L M : List (Int × Int), prs L ++ prs M = prs (L ++ M)
  | [], _ => rfl
  | p :: l, M => by simp [prs, prs_app l M]
theorem prs_len : ∀ L : List (Int × Int), (prs L).length = L.length * 2
  | [] => rfl
  | p :: l => by simp [prs, prs_len l]; omega
theorem prs_one : ∀ L : List (Int × Int), ∀ u ∈ prs L, u.oneCell' = true
  | [], u, h => by cases h
  | p :: l, u, h => by
    simp [prs] at h
    rcases h with rfl | rfl | h
    · rfl
    · rfl
    · exact prs_one l u h
theorem prs_at : ∀ (L : List (Int × Int)) (k : Nat), k < L.length → (prs L)[k * 2]? = some (.int .i64 (L.getD k (0, 0)).1) ∧ (prs L)[k * 2 + 1]? = some (.int .i64 (L.getD k (0, 0)).2)
  | [], k, h => by cases h
  | p :: l, 0, _ => by simp [prs]
  | p :: l, k + 1, h => by
    have := prs_at l k (by simpa using h)
    rw [show (k + 1) * 2 = k * 2 + 2 by omega]
    simpa [prs] using this
theorem prs_take : ∀ (L : List (Int × Int)) (k : Nat), (prs L).take (k * 2) = prs (L.take k)
  | [], k => by simp [prs]
  | p :: l, 0 => by simp [prs]
  | p :: l, k + 1 => by
    rw [show (k + 1) * 2 = k * 2 + 2 by omega]
    simp [prs, prs_take l k]
theorem prs_drop : ∀ (L : List (Int × Int)) (k : Nat), (prs L).drop (k * 2) = prs (L.drop k)
  | [], k => by simp [prs]
  | p :: l, 0 => by simp [prs]
  | p :: l, k + 1 => by
    rw [show (k + 1) * 2 = k * 2 + 2 by omega]
    simp [prs, prs_drop l k]

/-- The slice v reads as these pairs. -/
def SlP (w : World) (v : Value) (L : List (Int × Int)) : Prop := SlC w v 2 L.length (prs L)
theorem SlP.below {w w' : World} {v : Value} {L : List (Int × Int)} (h : SlP w v L) (hb : Below w.heap.size w w') : SlP w' v L := SlC.below h hb
theorem SlP.alloc {w : World} {v : Value} {L : List (Int × Int)} (h : SlP w v L) (o : Obj) : SlP (w.alloc o) v L := SlC.alloc h o
theorem SlP.nil (w : World) : SlP w (.slice none 0 0) [] := SlC.nil w 2
theorem SlP.form {w : World} {v : Value} {L : List (Int × Int)} (h : SlP w v L) : ∃ a cap, v = .slice a L.length cap := SlC.form h
theorem SlP.cell {w : World} {a : Option Addr} {c : Nat} {L : List (Int × Int)} (h : SlP w (.slice a L.length c) L) (k : Nat) (hk : k < L.length) :
    ∃ b off, a = some ⟨b, off, none⟩ ∧ w.cell? ⟨b, off + k * 2, none⟩ = some (.int .i64 (L.getD k (0, 0)).1) ∧ w.cell? ⟨b, off + k * 2 + 1, none⟩ = some (.int .i64 (L.getD k (0, 0)).2) := by
  obtain ⟨a', c', h1, h2, h3, h4, h5⟩ := h
  injection h1 with e1 e2 e3
  subst e1
  obtain ⟨b, off, ha, hc⟩ := h5 (k * 2) (by omega)
  obtain ⟨b', off', ha', hc'⟩ := h5 (k * 2 + 1) (by omega)
  rw [ha] at ha'; cases ha'
  exact ⟨b, off, ha, by rw [hc]; exact (prs_at L k hk).1, by rw [Nat.add_assoc, hc']; exact (prs_at L k hk).2⟩
theorem SlP.cap {w : World} {a : Option Addr} {c : Nat} {L : List (Int × Int)} (h : SlP w (.slice a L.length c) L) : L.length ≤ c ∧ (a = none → c = 0) := by
  obtain ⟨a', c', h1, h2, h3, h4, h5⟩ := h
  injection h1 with e1 e2 e3
  subst e1 e3
  exact ⟨h2, h3⟩

/-- The place of the first pair with the least first number, among the first ones; below 0: there is none. -/
def lowAt (L : List (Int × Int)) : Nat → Int
  | 0 => -1
  | k + 1 => if lowAt L k < 0 ∨ (L.getD k (0, 0)).1 < (L.getD (lowAt L k).toNat (0, 0)).1 then (k : Int) else lowAt L k
theorem lowAt_bd (L : List (Int × Int)) : ∀ k, (k = 0 ∧ lowAt L k = -1) ∨ (0 < k ∧ 0 ≤ lowAt L k ∧ lowAt L k < (k : Int))
  | 0 => Or.inl ⟨rfl, rfl⟩
  | k + 1 => by
    right
    unfold lowAt
    rcases lowAt_bd L k with ⟨rfl, h⟩ | ⟨h1, h2, h3⟩
    · rw [h]; simp
    · split <;> omega
/-- The first one. -/
def lowi (L : List (Int × Int)) : Int := lowAt L L.length
theorem lowi_nil : lowi [] = -1 := rfl
theorem lowi_bd {L : List (Int × Int)} (h : 0 < L.length) : 0 ≤ lowi L ∧ lowi L < (L.length : Int) := by
  rcases lowAt_bd L L.length with ⟨h1, _⟩ | ⟨_, h2, h3⟩
  · omega
  · exact ⟨h2, h3⟩
def peekv (L : List (Int × Int)) : Int × Int := if L.length = 0 then (0, 0) else L.getD (lowi L).toNat (0, 0)
def popv (L : List (Int × Int)) : List (Int × Int) := if L.length = 0 then L else L.take (lowi L).toNat ++ L.drop ((lowi L).toNat + 1)
theorem popv_len {L : List (Int × Int)} (h : 0 < L.length) : (popv L).length + 1 = L.length := by
  have := lowi_bd h
  unfold popv
  rw [if_neg (by omega), List.length_append, List.length_take, List.length_drop]
  omega
/-- So many of them, one behind the other: what was popped, and what is left. -/
def sortAt (L : List (Int × Int)) : Nat → List (Int × Int) × List (Int × Int)
  | 0 => ([], L)
  | k + 1 => ((sortAt L k).1 ++ [peekv (sortAt L k).2], popv (sortAt L k).2)
def sortv (L : List (Int × Int)) : List (Int × Int) := (sortAt L L.length).1
theorem sortAt_len (L : List (Int × Int)) : ∀ k, k ≤ L.length → (sortAt L k).1.length = k ∧ (sortAt L k).2.length + k = L.length
  | 0, _ => ⟨rfl, rfl⟩
  | k + 1, h => by
    have ih := sortAt_len L k (by omega)
    have := popv_len (L := (sortAt L k).2) (by omega)
    constructor
    · simp [sortAt, ih.1]
    · simp [sortAt]; omega
end Go.Proofs.Ytmhfgkkiplencaa
