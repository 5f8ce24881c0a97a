/-
  A map that a call or an object owns, from keys to numbers, told by a function: what it holds; what a look-up, a store, a delete leave. No Go function is walked here.
-/
import Derived.Test.YteeonglebimnlaaIntG
import Derived.Maps.OwnSet
import Derived.Maps.OwnOps
namespace Go.MapFns
open Go.Maps Go.RowKit
set_option linter.unusedSimpArgs false
set_option linter.unusedVariables false
set_option linter.unusedSectionVars false

section
variable {κ : Type} [DecidableEq κ] {P : Program} {kt it : TypeId} {ok : κ → Prop} {enc : κ → Value} {lit : κ → Lit}

/-- The kit of a key's type. -/
structure Kit (P : Program) (kt it t : TypeId) (enc : κ → Value) (ok : κ → Prop) (lit : κ → Lit) : Prop where
  keyed : Keyed P kt
  lits : ∀ k, ok k → keyOf P kt (enc k) = some (lit k)
  apart : ∀ a b, ok a → ok b → enc a = enc b → a = b
  map : P.underlying t = some (.map kt it)
  int : P.underlying it = some (.int .i64)
  zero : ∀ w, (zeroValue it).run P w = .ok (.int .i64 0) w
theorem Kit.ne {t : TypeId} (T : Kit P kt it t enc ok lit) {a b : κ} (ha : ok a) (hb : ok b) (h : a ≠ b) : lit a ≠ lit b := fun e => h (T.apart a b ha hb (T.keyed.inj (T.lits a ha) (e ▸ T.lits b hb)))

/-- Block b is a map of c keys that holds what f tells. -/
def MapFn (P : Program) (kt it : TypeId) (ok : κ → Prop) (lit : κ → Lit) (w : World) (b c : Nat) (f : κ → Option Int) : Prop :=
  ∃ D : DataW Unit, w.ownsMap P kt (plainElem P it) b c D ∧ Maps.size D = c ∧ ∀ k, ok k → Maps.has D (lit k) = (f k).isSome ∧ D.atKey (lit k) (.lit (.int .i64 0)) = .lit (.int .i64 ((f k).getD 0))

theorem rebase {w : World} {b n : Nat} {R : Value → Option (DataW Unit × List MemPlace)} {D : DataW Unit} (h : w.ownsMap P kt R b n D) : w.ownsMap P kt R b (Maps.size D) D := by
  obtain ⟨es, clock, hb, F, hs, rfl⟩ := h
  exact ⟨es, clock, hb, F, by rw [Maps.size_eq, length_sorted]; simp, rfl⟩
theorem MapFn.lt {w : World} {b c : Nat} {f : κ → Option Int} (h : MapFn P kt it ok lit w b c f) : b < w.heap.size := by obtain ⟨D, h, _⟩ := h; exact h.lt
theorem MapFn.keep {w w' : World} {b c : Nat} {f : κ → Option Int} (h : MapFn P kt it ok lit w b c f) (hb : w'.heap[b]? = w.heap[b]?) : MapFn P kt it ok lit w' b c f := by
  obtain ⟨D, ⟨es, clock, h1, F, hs, hD⟩, h2, h3⟩ := h
  exact ⟨D, ⟨es, clock, hb.trans h1, F, hs, hD⟩, h2, h3⟩
theorem MapFn.same {w : World} {b c : Nat} {f g : κ → Option Int} (h : MapFn P kt it ok lit w b c f) (e : ∀ k, ok k → f k = g k) : MapFn P kt it ok lit w b c g := by
  obtain ⟨D, h1, h2, h3⟩ := h
  exact ⟨D, h1, h2, fun k hk => by rw [← e k hk]; exact h3 k hk⟩
theorem made (w : World) : MapFn P kt it ok lit (w.alloc (.map #[] 0)) w.heap.size 0 (fun _ : κ => none) :=
  ⟨.map [], World.ownsMap_made _ _ _ _, rfl, fun k hk => ⟨rfl, rfl⟩⟩

variable {t : TypeId} {w : World} {ops : Array Oper} {rest : List Oper} {o : Oper} {a : Act} {Q : Exit → Act → World → Prop}
/-- v, ok := m[k] -/
theorem wp_look (T : Kit P kt it t enc ok lit) (hg : o.guard = none) (m x : Operand) (hop : o.op = Op.lookup t m x true) {b c : Nat} {f : κ → Option Int} (hm : a.eval m = .map (some b)) (h : MapFn P kt it ok lit w b c f)
    (k : κ) (hk : ok k) (hx : a.eval x = enc k) (hK : wpList P ops Q rest (a.put o.dst (.tuple #[.int .i64 ((f k).getD 0), .bool (f k).isSome])) w) : wpList P ops Q (o :: rest) a w := by
  obtain ⟨D, h1, h2, h3⟩ := h
  refine wpList_lookup_own_ok_int w hg m x t hop kt it .i64 T.keyed T.map T.int (T.zero w) b c D hm h1 (enc k) (lit k) hx (T.lits k hk) ?_
  intro z hz hw
  rw [(h3 k hk).2] at hz
  cases hz
  rw [(h3 k hk).1]
  exact hK
/-- .. as an equation on the operation's run. -/
theorem run_look (T : Kit P kt it t enc ok lit) {b c : Nat} {f : κ → Option Int} (h : MapFn P kt it ok lit w b c f) (k : κ) (hk : ok k) : (Instr.lookup t (.map (some b)) (enc k) true).run P w = .ok (.tuple #[.int .i64 ((f k).getD 0), .bool (f k).isSome]) w := by
  obtain ⟨D, h1, h2, h3⟩ := h
  obtain ⟨v, ps, hrun, hv⟩ := h1.look_ok T.keyed T.map (T.zero w) (plainElem_int T.int (by decide)) (T.lits k hk)
  obtain ⟨z, rfl, hz, hwz⟩ := plainElem_int_inv T.int hv
  have hz' := congrArg Prod.fst hz
  dsimp only at hz'
  rw [(h3 k hk).2] at hz'
  cases hz'
  rw [(h3 k hk).1] at hrun
  exact hrun
/-- v := m[k] -/
theorem wp_look1 (T : Kit P kt it t enc ok lit) (hg : o.guard = none) (m x : Operand) (hop : o.op = Op.lookup t m x false) {b c : Nat} {f : κ → Option Int} (hm : a.eval m = .map (some b)) (h : MapFn P kt it ok lit w b c f)
    (k : κ) (hk : ok k) (hx : a.eval x = enc k) (hK : wpList P ops Q rest (a.put o.dst (.int .i64 ((f k).getD 0))) w) : wpList P ops Q (o :: rest) a w := by
  obtain ⟨D, h1, h2, h3⟩ := h
  refine wpList_lookup_own_int w hg m x t hop kt it .i64 T.keyed T.map T.int (T.zero w) b c D hm h1 (enc k) (lit k) hx (T.lits k hk) ?_
  intro z hz hw
  rw [(h3 k hk).2] at hz
  cases hz
  exact hK
/-- m[k] = v, of a new key: as an equation on the operation's run. -/
theorem run_store (T : Kit P kt it t enc ok lit) {b c : Nat} {f : κ → Option Int} (h : MapFn P kt it ok lit w b c f) (hc : c < maxLen) (k : κ) (hk : ok k) (z : Int) (hz : (Lit.int .i64 z).wf = true) (hn : f k = none) :
    ∃ w', (Instr.mapUpdate t (.map (some b)) (enc k) (.int .i64 z)).run P w = .ok () w' ∧ MapFn P kt it ok lit w' b (c + 1) (fun j => if j = k then some z else f j) ∧ w.grownBy w' (some b) := by
  obtain ⟨D, h1, h2, h3⟩ := h
  obtain ⟨w', hrun, o', g'⟩ := h1.update T.keyed T.map hc (T.lits k hk) (plainElem_int T.int hz)
  have hKL := T.keyed.key (T.lits k hk)
  refine ⟨w', hrun, ⟨_, o', ?_, fun j hj => ?_⟩, g'⟩
  · rw [Maps.size_put (h1.tidy T.keyed), (h3 k hk).1, hn, h2]; rfl
  · show _ = (if j = k then some z else f j).isSome ∧ _ = DataW.lit (Lit.int IntKind.i64 ((if j = k then some z else f j).getD 0))
    by_cases e : j = k
    · subst e
      rw [if_pos rfl, Maps.has_put_same h1.isMap hKL, Maps.atKey_put_same h1.isMap hKL]
      exact ⟨rfl, rfl⟩
    · rw [if_neg e, Maps.has_put_other (T.ne hj hk e), Maps.atKey_put_other (T.ne hj hk e)]
      exact h3 j hj
/-- m[k] = v, of a new key -/
theorem wp_store (T : Kit P kt it t enc ok lit) (hg : o.guard = none) (m x v : Operand) (hop : o.op = Op.mapUpdate t m x v) {b c : Nat} {f : κ → Option Int} (hm : a.eval m = .map (some b)) (h : MapFn P kt it ok lit w b c f) (hc : c < maxLen)
    (k : κ) (hk : ok k) (hx : a.eval x = enc k) (z : Int) (hv : a.eval v = .int .i64 z) (hz : (Lit.int .i64 z).wf = true) (hn : f k = none)
    (hK : ∀ w', MapFn P kt it ok lit w' b (c + 1) (fun j => if j = k then some z else f j) → w.grownBy w' (some b) → wpList P ops Q rest (a.put o.dst undef) w') : wpList P ops Q (o :: rest) a w := by
  obtain ⟨D, h1, h2, h3⟩ := h
  refine wpList_mapUpdate_own w hg m x v t hop kt it T.keyed T.map (plainElem P it) b c D hm h1 hc (enc k) (.int .i64 z) (lit k) hx hv (T.lits k hk) (.lit (.int .i64 z)) [] (plainElem_int T.int hz) ?_
  intro w' o' g'
  have hKL := T.keyed.key (T.lits k hk)
  refine hK w' ⟨_, o', ?_, fun j hj => ?_⟩ g'
  · rw [Maps.size_put (h1.tidy T.keyed), (h3 k hk).1, hn, h2]; rfl
  · show _ = (if j = k then some z else f j).isSome ∧ _ = DataW.lit (Lit.int IntKind.i64 ((if j = k then some z else f j).getD 0))
    by_cases e : j = k
    · subst e
      rw [if_pos rfl, Maps.has_put_same h1.isMap hKL, Maps.atKey_put_same h1.isMap hKL]
      exact ⟨rfl, rfl⟩
    · rw [if_neg e, Maps.has_put_other (T.ne hj hk e), Maps.atKey_put_other (T.ne hj hk e)]
      exact h3 j hj
/-- delete(m, k), of a key that is there: at the operation. -/
theorem wp_drop0 {K0 : Act → World → Prop} (T : Kit P kt it t enc ok lit) (m x : Operand) (hop : o.op = Op.call { callee := Callee.builtin Builtin.delete, args := #[m, x], argTypes := #[t, kt] }) {b c : Nat} {f : κ → Option Int} (hm : a.eval m = .map (some b)) (h : MapFn P kt it ok lit w b c f)
    (k : κ) (hk : ok k) (hx : a.eval x = enc k) (hn : (f k).isSome = true)
    (hK : ∀ w', MapFn P kt it ok lit w' b (c - 1) (fun j => if j = k then none else f j) → w.grownBy w' (some b) → K0 (a.put o.dst (.tuple #[])) w') : Oper.wp P o a w K0 Q := by
  obtain ⟨D, h1, h2, h3⟩ := h
  obtain ⟨w', hrun, o', t'⟩ := h1.drop T.keyed T.map (T.lits k hk) o.type
  have hsz : Maps.size (D.del (lit k)) = c - 1 := by
    have := Maps.size_del (k := lit k) (h1.tidy T.keyed)
    rw [(h3 k hk).1, hn, if_pos rfl, h2] at this
    omega
  unfold Oper.wp
  simp [execOp, hop, resolve, invoke, builtin, hm, hx, hrun, Result.andThen]
  refine hK w' ⟨_, hsz ▸ rebase o', hsz, fun j hj => ?_⟩ t'.grown
  show _ = (if j = k then none else f j).isSome ∧ _ = DataW.lit (Lit.int IntKind.i64 ((if j = k then none else f j).getD 0))
  by_cases e : j = k
  · subst e
    rw [if_pos rfl, Maps.has_del_same, Maps.atKey_del_same]
    exact ⟨rfl, rfl⟩
  · rw [if_neg e, Maps.has_del_other (T.ne hj hk e), Maps.atKey_del_other (T.ne hj hk e)]
    exact h3 j hj
/-- .. at a plain region's list. -/
theorem wp_drop (T : Kit P kt it t enc ok lit) (hg : o.guard = none) (m x : Operand) (hop : o.op = Op.call { callee := Callee.builtin Builtin.delete, args := #[m, x], argTypes := #[t, kt] }) {b c : Nat} {f : κ → Option Int} (hm : a.eval m = .map (some b)) (h : MapFn P kt it ok lit w b c f)
    (k : κ) (hk : ok k) (hx : a.eval x = enc k) (hn : (f k).isSome = true)
    (hK : ∀ w', MapFn P kt it ok lit w' b (c - 1) (fun j => if j = k then none else f j) → w.grownBy w' (some b) → wpList P ops Q rest (a.put o.dst (.tuple #[])) w') : wpList P ops Q (o :: rest) a w :=
  wpList_plain hg fun _ hK' => wp_drop0 T m x hop hm h k hk hx hn fun w' h1 h2 => hK' _ _ (hK w' h1 h2)
/-- .. at a step of a region that draws its order. -/
theorem step_drop {K0 : Act → World → Prop} {E : Prop} (T : Kit P kt it t enc ok lit) (hg : o.guard = none) (m x : Operand) (hop : o.op = Op.call { callee := Callee.builtin Builtin.delete, args := #[m, x], argTypes := #[t, kt] }) {b c : Nat} {f : κ → Option Int} (hm : a.eval m = .map (some b)) (h : MapFn P kt it ok lit w b c f)
    (k : κ) (hk : ok k) (hx : a.eval x = enc k) (hn : (f k).isSome = true)
    (hK : ∀ w', MapFn P kt it ok lit w' b (c - 1) (fun j => if j = k then none else f j) → w.grownBy w' (some b) → K0 (a.put o.dst (.tuple #[])) w') : if Region.wanted o (yielded ops a.tmps) = true then Oper.wp P o a w K0 Q else E := by
  have hw : Region.wanted o (yielded ops a.tmps) = true := by simp [Region.wanted, hg]
  rw [if_pos hw]
  exact wp_drop0 T m x hop hm h k hk hx hn hK
/-- len(m) -/
theorem wp_size (T : Kit P kt it t enc ok lit) (hg : o.guard = none) (m : Operand) (hop : o.op = Op.call { callee := Callee.builtin Builtin.len, args := #[m], argTypes := #[t] }) {b c : Nat} {f : κ → Option Int} (hm : a.eval m = .map (some b)) (h : MapFn P kt it ok lit w b c f)
    (hK : wpList P ops Q rest (a.put o.dst (.int .i64 (c : Int))) w) : wpList P ops Q (o :: rest) a w := by
  obtain ⟨D, h1, h2, h3⟩ := h
  refine wpList_len_own w hg m t hop kt it T.map (plainElem P it) b c D hm h1 ?_
  rw [h2]
  exact hK
end
end Go.MapFns
