/-
  What the document's own Div (of gavelkindref01) does: the quotient, rounded down, and what is left, of a whole number and one above 0. The condition: at most 400 digits each.
-/
import Derived.Test.YtcjebegkcnnmbaaRefL
namespace Go.Proofs.Ytcjebegkcnnmbaa
open Go.RowKit
set_option linter.unusedVariables false

theorem Own.one (w : World) (d : Int) : Own (w.alloc (.cells #[.int .i64 d] 3)) w.heap.size (.slice (some ⟨w.heap.size, 0, none⟩) 1 1) [d] :=
  World.ownsRow_lit (base := w.heap.size) (e := 3) (size := 1) w #[.int .i64 d] 1 (Nat.le_refl _) (by unfold maxLen; omega) rfl

/-- append of a list to one number that was just laid. -/
theorem wp_cons {ops : Array Oper} {rest : List Oper} {o : Oper} {a : Act} {Q : Exit → Act → World → Prop} (w : World) (hgd : o.guard = none) (s x : Operand)
    (ho : o.op = .call { callee := .builtin .append, args := #[s, x], argTypes := #[31, 31] })
    (d : Int) (M : List Int) (v : Value) (hs : a.eval s = .slice (some ⟨w.heap.size, 0, none⟩) 1 1) (hx : a.eval x = v) (hr : Sl w v M) (hlen : M.length ≤ 100000000) (hd : InR d)
    (h : ∀ v' w', Sl w' v' (d :: M) → Below w.heap.size w w' → wpList Try.prog ops Q rest (a.put o.dst v') w') :
    wpList Try.prog ops Q (o :: rest) a (w.alloc (.cells #[.int .i64 d] 3)) := by
  obtain ⟨A, c, rfl, _, hc, hrd⟩ := hr
  refine wp_cat (w.alloc (.cells #[.int .i64 d] 3)) hgd s x ho w.heap.size _ [d] M A c hs (Own.one w d) hx (hrd.alloc _) hc (by simp; omega) (by simp) ?_
  intro v' w' hown hb
  refine h v' w' (hown.sl ?_) (((Below.refl _ _).alloc (Nat.le_refl _) _).trans hb)
  intro z hz
  rcases List.mem_cons.1 hz with rfl | hz
  · exact hd
  · exact hrd.1 z hz

/-- What holds of the four blocks of Div. -/
def Box4 (B : Nat) (s s' : Bool) (u u' : Value) (w : World) : Prop :=
  Box3 B (.bool s) u (.bool s') u' (.bool false) (.slice none 0 0) w ∧ w.cell? ⟨B + 3, 0, none⟩ = some (.bool false) ∧ w.cell? ⟨B + 3, 1, none⟩ = some (.slice none 0 0) ∧ w.frozen? ⟨B + 3, 0, none⟩ = false ∧ w.frozen? ⟨B + 3, 1, none⟩ = false ∧ B + 3 < w.heap.size
theorem Box4.init (w : World) (s s' : Bool) (u u' : Value) (t : TypeId) : Box4 w.heap.size s s' u u' ((((w.alloc (.cells #[.bool s, u] t)).alloc (.cells #[.bool s', u'] t)).alloc (.cells #[.bool false, .slice none 0 0] t)).alloc (.cells #[.bool false, .slice none 0 0] t)) := by
  refine ⟨(Box3.init w _ _ _ _ _ _ t).below ((Below.refl _ _).alloc (Nat.le_refl _) _), ?_, ?_, ?_, ?_, ?_⟩ <;> simp [go_sem]
theorem Box4.below {B : Nat} {s s' : Bool} {u u' : Value} {w w1 : World} (h : Box4 B s s' u u' w) (hb : Below w.heap.size w w1) : Box4 B s s' u u' w1 := by
  obtain ⟨h0, h1, h2, h3, h4, h5⟩ := h
  obtain ⟨bc, bf⟩ := bcell hb
  exact ⟨h0.below hb, (bc _ _ h5).trans h1, (bc _ _ h5).trans h2, (bf _ _ h5).trans h3, (bf _ _ h5).trans h4, Nat.lt_of_lt_of_le h5 hb.size⟩

/-- What holds while the digits are gone through from above: the quotient's digits, and what is left. -/
def DivRel (m n : Nat) (A : List Int) (s s' : Bool) (u u' : Value) (w : World) (q r i : Value) (wr : World) : Prop :=
  ∃ (k V : Nat) (Q : List Int), k ≤ A.length ∧ i = .int .i64 ((k : Int) - 1) ∧ (V : Int) = dval (A.drop k) ∧ Sl wr q Q ∧ Digs Q ∧ Q.length = A.length - k ∧ dval Q = ((V / n : Nat) : Int) ∧ Sl wr r (digs (V % n)) ∧
    Box4 w.heap.size s s' u u' wr ∧ Below w.heap.size w wr

theorem div_dig {V n d j : Nat} (hn : 0 < n) (hd : d ≤ 9) (h1 : j * n ≤ 10 * (V % n) + d) (h2 : 10 * (V % n) + d - j * n < n) :
    j ≤ 9 ∧ (d + 10 * V) / n = 10 * (V / n) + j ∧ (d + 10 * V) % n = 10 * (V % n) + d - j * n := by
  have hv := Nat.div_add_mod V n
  have hlt := Nat.mod_lt V hn
  have e1 : d + 10 * V = n * (10 * (V / n) + j) + (10 * (V % n) + d - j * n) := by
    rw [Nat.mul_add, Nat.mul_left_comm, Nat.mul_comm n j]; omega
  refine ⟨?_, ?_, ?_⟩
  · rcases Nat.lt_or_ge 9 j with h | h
    · have : 10 * n ≤ j * n := Nat.mul_le_mul_right n h
      omega
    · exact h
  · rw [e1, Nat.mul_add_div hn, Nat.div_eq_of_lt h2]; omega
  · rw [e1, Nat.mul_add_mod, Nat.mod_eq_of_lt h2]

theorem drop_val {A : List Int} {V k : Nat} {z : Int} (hk : k < A.length) (hz : z = A.getD k 0) (hz0 : 0 ≤ z) (hV : (V : Int) = dval (A.drop (k + 1))) : ((z.toNat + 10 * V : Nat) : Int) = dval (A.drop k) := by
  rw [dval_drop A k hk, ← hV, ← hz]; omega

theorem digs_len_mod {V n : Nat} (hn : 0 < n) : (digs (V % n)).length ≤ (digs n).length := digs_len_mono (Nat.le_of_lt (Nat.mod_lt V hn))
end Go.Proofs.Ytcjebegkcnnmbaa
