/-
  Appends to a slice of numbers that the call owns. No Go function is walked here.
-/
import Derived.Test.YtadbelkckeokjaaRow0
namespace Go.Proofs.Ytadbelkckeokjaa
open Go.RowKit

/-- append of one number. -/
theorem wp_push {ops : Array Oper} {rest : List Oper} {o : Oper} {a : Act} {Q : Exit → Act → World → Prop} (w : World) (hgd : o.guard = none) (s x : Operand)
    (ho : o.op = .call { callee := .builtin .append, args := #[s, x], argTypes := #[36, 36] })
    (base : Nat) (v : Value) (L : List Int) (z : Int) (hs : a.eval s = v) (hown : Own w base v L) (hx : a.eval x = .slice (some ⟨w.heap.size, 0, none⟩) 1 1)
    (hlen : L.length ≤ 1000000000) (hbase : base ≤ w.heap.size)
    (h : ∀ v' w', Own w' base v' (L ++ [z]) → Below base w w' → wpList Try.prog ops Q rest (a.put o.dst v') w') :
    wpList Try.prog ops Q (o :: rest) a (w.alloc (.cells #[.int .i64 z] 3)) := by
  obtain ⟨i0, hi, hz0, hz1, hz2⟩ := info_parts int_info
  refine wpList_append_own _ hgd s x 36 ho base 3 i0 (.int .i64 0) 1 8 Try.underlying36 hi hz0 hz1 hz2 rfl (by decide) v L.length _ hs (World.ownsRow.alloc hown _)
    ⟨w.heap.size, 0, none⟩ 1 1 [.int .i64 z] hx rfl ?_ ?_ (by unfold maxLen; omega) (by omega) (by simp; omega) ?_
  · intro j u hj
    match j, hj with
    | 0, hj => simp at hj; subst hj; simp [Addr.add]
  · intro u hu; simp at hu; subst hu; rfl
  · intro v' w' hown' hgrow _
    refine h v' w' ?_ (((Below.refl _ _).alloc hbase _).trans (grown_below (hown.alloc _) (by simp; omega) hgrow))
    unfold Own
    simpa using hown'

/-- append of a whole list that lies somewhere. -/
theorem wp_cat {ops : Array Oper} {rest : List Oper} {o : Oper} {a : Act} {Q : Exit → Act → World → Prop} (w : World) (hgd : o.guard = none) (s x : Operand)
    (ho : o.op = .call { callee := .builtin .append, args := #[s, x], argTypes := #[36, 36] })
    (base : Nat) (v : Value) (L M : List Int) (A : Option Addr) (c : Nat) (hs : a.eval s = v) (hown : Own w base v L) (hx : a.eval x = .slice A M.length c) (hr : Reads w A M) (hc : A = none → c = 0)
    (hlen : L.length + M.length ≤ 1000000000) (hbase : base ≤ w.heap.size)
    (h : ∀ v' w', Own w' base v' (L ++ M) → Below base w w' → wpList Try.prog ops Q rest (a.put o.dst v') w') :
    wpList Try.prog ops Q (o :: rest) a w := by
  obtain ⟨i0, hi, hz0, hz1, hz2⟩ := info_parts int_info
  rcases A with _ | ad
  · have hM : M = [] := by
      rcases M with _ | ⟨m, M⟩
      · rfl
      · obtain ⟨_, _, hh, _⟩ := hr.2 0 (by simp)
        cases hh
    subst hM
    rw [hc rfl] at hx
    refine wpList_append_own_none hgd s x 36 ho base 3 i0 1 Try.underlying36 hi v L.length _ hs hown hx ?_
    exact h v w (by simpa using hown) (Below.refl _ _)
  · refine wpList_append_own _ hgd s x 36 ho base 3 i0 (.int .i64 0) 1 8 Try.underlying36 hi hz0 hz1 hz2 rfl (by decide) v L.length _ hs hown
      ad M.length c (M.map (Value.int .i64)) hx (by simp) ?_ (one_cell M) (by unfold maxLen; omega) (by omega) hbase ?_
    · intro j u hj
      rw [List.getElem?_map] at hj
      have hjl : j < M.length := by
        rcases Nat.lt_or_ge j M.length with hh | hh
        · exact hh
        · rw [List.getElem?_eq_none hh] at hj; cases hj
      obtain ⟨b, off, hh, hcell⟩ := hr.2 j hjl
      cases hh
      rw [List.getElem?_eq_getElem hjl] at hj
      simp at hj
      rw [← hj, ← getD_lt M j hjl]
      by_cases h0 : j = 0
      · subst h0; simpa [Addr.add] using hcell
      · simpa [Addr.add, h0] using hcell
    · intro v' w' hown' hgrow _
      refine h v' w' ?_ (grown_below hown hbase hgrow)
      unfold Own
      simpa using hown'

end Go.Proofs.Ytadbelkckeokjaa
