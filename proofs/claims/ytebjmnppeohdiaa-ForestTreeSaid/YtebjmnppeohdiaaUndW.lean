/-
  Maps from numbers to whatever plain values, told by a function: what a look-up, a store, a delete, len leave, as equations on the operations' runs; a range over one. No Go function is walked here. No conditions.
-/
import Derived.Test.YtebjmnppeohdiaaUndM
import Derived.Maps.OwnSet
import Derived.Maps.OwnOps
import Derived.Maps.RangeWalk
namespace Go.Proofs.Ytebjmnppeohdiaa
open Go.Maps Go.RowKit
set_option linter.unusedSimpArgs false
set_option linter.unusedVariables false
set_option linter.unusedSectionVars false

section
variable {P : Program} {kt et t : TypeId} {β : Type} {enc : β → Value} {okv : β → Prop} {R : Value → Option (DataW Unit × List MemPlace)} {dat : β → DataW Unit} {z0 : β}

/-- What the element's type must give. -/
structure VKit (P : Program) (kt et t : TypeId) (enc : β → Value) (okv : β → Prop) (R : Value → Option (DataW Unit × List MemPlace)) (dat : β → DataW Unit) (z0 : β) : Prop where
  int : P.underlying kt = some (.int .i64)
  map : P.underlying t = some (.map kt et)
  zero : ∀ w, (zeroValue et).run P w = .ok (enc z0) w
  okz : okv z0
  reads : ∀ b, okv b → R (enc b) = some (dat b, [])
  inv : ∀ v y, R v = some y → ∃ b, okv b ∧ v = enc b ∧ y.1 = dat b
  inj : ∀ a b, dat a = dat b → a = b
theorem VKit.keyed (T : VKit P kt et t enc okv R dat z0) : Keyed P kt := int_keyed T.int
theorem VKit.key (T : VKit P kt et t enc okv R dat z0) {k : Int} (h : InR k) : keyOf P kt (.int .i64 k) = some (.int .i64 k) := keyOf_int_mk T.int (WalkArith.wf_i64 h)

/-- The datum D is told by f. -/
def Tells (dat : β → DataW Unit) (z0 : β) (D : DataW Unit) (f : Int → Option β) : Prop := ∀ k, InR k → Maps.has D (.int .i64 k) = (f k).isSome ∧ D.atKey (.int .i64 k) (dat z0) = dat ((f k).getD z0)
/-- Block b is a map that holds what f tells. -/
def MpF (P : Program) (kt : TypeId) (R : Value → Option (DataW Unit × List MemPlace)) (dat : β → DataW Unit) (z0 : β) (w : World) (b : Nat) (f : Int → Option β) : Prop :=
  ∃ D : DataW Unit, w.ownsMap P kt R b (Maps.size D) D ∧ Tells dat z0 D f

theorem rebaseU {w : World} {b n : Nat} {D : DataW Unit} (h : w.ownsMap P kt R b n D) : w.ownsMap P kt R b (Maps.size D) D := by
  obtain ⟨es, clock, hb, F, hs, rfl⟩ := h
  exact ⟨es, clock, hb, F, by rw [Maps.size_eq, length_sorted]; simp, rfl⟩
theorem MpF.lt {w : World} {b : Nat} {f : Int → Option β} (h : MpF P kt R dat z0 w b f) : b < w.heap.size := by obtain ⟨D, h, _⟩ := h; exact h.lt
theorem MpF.keep {w w' : World} {b : Nat} {f : Int → Option β} (h : MpF P kt R dat z0 w b f) (hb : w'.heap[b]? = w.heap[b]?) : MpF P kt R dat z0 w' b f := by
  obtain ⟨D, ⟨es, clock, h1, F, hs, hD⟩, h2⟩ := h
  exact ⟨D, ⟨es, clock, hb.trans h1, F, hs, hD⟩, h2⟩
theorem MpF.same {w : World} {b : Nat} {f g : Int → Option β} (h : MpF P kt R dat z0 w b f) (e : ∀ k, InR k → f k = g k) : MpF P kt R dat z0 w b g := by
  obtain ⟨D, h1, h2⟩ := h
  exact ⟨D, h1, fun k hk => by rw [← e k hk]; exact h2 k hk⟩
theorem MpF.made (w : World) : MpF P kt R dat z0 (w.alloc (.map #[] 0)) w.heap.size (fun _ : Int => (none : Option β)) :=
  ⟨.map [], rebaseU (World.ownsMap_made _ _ _ _), fun k hk => ⟨rfl, rfl⟩⟩
/-- The datum's keys are numbers, each once. -/
theorem keys_is (hk : P.underlying kt = some (.int .i64)) {w : World} {b n : Nat} {D : DataW Unit} (h : w.ownsMap P kt R b n D) : ∃ K : List Int, K.Nodup ∧ K.length = Maps.size D ∧ ∀ x, x ∈ K ↔ InR x ∧ Maps.has D (.int .i64 x) = true := by
  obtain ⟨es, hD, hpw, _⟩ := h.entries (int_keyed hk)
  subst hD
  have hkk : ∀ p ∈ es, ∃ x, InR x ∧ p.1 = .int .i64 x := fun p hp => by
    obtain ⟨es', clock, hb, F, hs, hD⟩ := h
    have hp' : p ∈ es'.toList.map (WideElems.rg P kt R) := by
      have : es = (es'.toList.map (WideElems.rg P kt R)).foldr DataW.insert [] := by simpa using hD
      rw [this] at hp; exact mem_sorted.1 hp
    obtain ⟨v, hv⟩ := Maps.fit_keys F p hp'
    obtain ⟨x, _, hx, hw⟩ := Maps.keyOf_int_inv hk hv
    exact ⟨x, inR_of hw, hx⟩
  refine ⟨es.map fun p => match p.1 with | .int _ x => x | _ => 0, ?_, by simp [Maps.size], fun x => ?_⟩
  · refine List.pairwise_map.2 (hpw.imp_of_mem fun {p q} hp hq hne e => hne ?_)
    obtain ⟨a, _, ha⟩ := hkk p hp
    obtain ⟨c, _, hc⟩ := hkk q hq
    rw [ha, hc] at e ⊢
    exact congrArg _ e
  · rw [has_eq, List.any_eq_true, List.mem_map]
    constructor
    · rintro ⟨p, hp, rfl⟩
      obtain ⟨a, hr, ha⟩ := hkk p hp
      rw [ha]
      exact ⟨hr, p, hp, by rw [ha]; simp [Lit.sameKey]⟩
    · rintro ⟨_, p, hp, hs⟩
      obtain ⟨a, _, ha⟩ := hkk p hp
      rw [ha] at hs
      exact ⟨p, hp, by rw [ha]; simpa [Lit.sameKey] using hs⟩
/-- As many as a list of its keys is long. -/
theorem size_le (hk : P.underlying kt = some (.int .i64)) {w : World} {b n : Nat} {D : DataW Unit} {f : Int → Option β} (h : w.ownsMap P kt R b n D) (hf : Tells dat z0 D f) {U : List Int} (hU : ∀ k, InR k → (f k).isSome = true → k ∈ U) : Maps.size D ≤ U.length := by
  obtain ⟨K, h1, h2, h3⟩ := keys_is hk h
  rw [← h2]
  exact nodup_le K U h1 fun x hx => by
    obtain ⟨hr, hh⟩ := (h3 x).1 hx
    exact hU x hr ((hf x hr).1.symm.trans hh)
theorem size_is (hk : P.underlying kt = some (.int .i64)) {w : World} {b n : Nat} {D : DataW Unit} {U : List Int} {N : Prs} (h : w.ownsMap P kt R b n D) (hf : ∀ k, InR k → Maps.has D (.int .i64 k) = (ulk N k).isSome) (hN : UG U N) : Maps.size D = N.length := by
  obtain ⟨K, h1, h2, h3⟩ := keys_is hk h
  have hp : K.Perm (N.map Prod.fst) := (List.perm_ext_iff_of_nodup h1 hN.1).2 fun x => by
    rw [h3, ← ulk_some]
    constructor
    · rintro ⟨hr, hh⟩; exact (hf x hr).symm.trans hh
    · intro hs
      obtain ⟨p, hp, rfl⟩ := List.mem_map.1 (ulk_some.1 hs)
      have hr := (hN.2 p hp).2.1
      exact ⟨hr, (hf _ hr).trans hs⟩
  rw [← h2, hp.length_eq, List.length_map]

variable {w : World}
/-- v, ok := m[k] -/
theorem MpF.look (T : VKit P kt et t enc okv R dat z0) {b : Nat} {f : Int → Option β} (h : MpF P kt R dat z0 w b f) {k : Int} (hk : InR k) :
    (Instr.lookup t (.map (some b)) (.int .i64 k) true).run P w = .ok (.tuple #[enc ((f k).getD z0), .bool (f k).isSome]) w ∧ okv ((f k).getD z0) := by
  obtain ⟨D, h1, h2⟩ := h
  obtain ⟨v, ps, hrun, hv⟩ := h1.look_ok T.keyed T.map (T.zero w) (T.reads z0 T.okz) (T.key hk)
  obtain ⟨x, hx, rfl, hd⟩ := T.inv _ _ hv
  have hd' : D.atKey (.int .i64 k) (dat z0) = dat x := hd
  rw [(h2 k hk).2] at hd'
  obtain rfl := T.inj _ _ hd'
  rw [(h2 k hk).1] at hrun
  exact ⟨hrun, hx⟩
/-- m[k] -/
theorem MpF.look1 (T : VKit P kt et t enc okv R dat z0) {b : Nat} {f : Int → Option β} (h : MpF P kt R dat z0 w b f) {k : Int} (hk : InR k) :
    (Instr.lookup t (.map (some b)) (.int .i64 k) false).run P w = .ok (enc ((f k).getD z0)) w := by
  obtain ⟨D, h1, h2⟩ := h
  obtain ⟨v, ps, hrun, hv⟩ := h1.lookup T.keyed T.map (T.zero w) (T.reads z0 T.okz) (T.key hk)
  obtain ⟨x, hx, rfl, hd⟩ := T.inv _ _ hv
  have hd' : D.atKey (.int .i64 k) (dat z0) = dat x := hd
  rw [(h2 k hk).2] at hd'
  obtain rfl := T.inj _ _ hd'
  exact hrun
theorem VKit.look_nil (T : VKit P kt et t enc okv R dat z0) (c : Bool) {k : Int} (hk : InR k) : (Instr.lookup t (.map none) (.int .i64 k) c).run P w = .ok (if c then .tuple #[enc z0, .bool false] else enc z0) w :=
  Maps.look_nil c T.keyed T.map (T.zero w) (T.key hk)
/-- m[k] = v -/
theorem MpF.store (T : VKit P kt et t enc okv R dat z0) {b : Nat} {f : Int → Option β} (h : MpF P kt R dat z0 w b f) {U : List Int} (hU : ∀ k, InR k → (f k).isSome = true → k ∈ U) (hl : U.length ≤ 1000000) {k : Int} (hk : InR k) {x : β} (hx : okv x) :
    ∃ w', (Instr.mapUpdate t (.map (some b)) (.int .i64 k) (enc x)).run P w = .ok () w' ∧ MpF P kt R dat z0 w' b (fun j => if j = k then some x else f j) ∧ w.grownBy w' (some b) := by
  obtain ⟨D, h1, h2⟩ := h
  have hsz := size_le T.int h1 h2 hU
  obtain ⟨w', hrun, o', g'⟩ := h1.update T.keyed T.map (Nat.lt_of_le_of_lt hsz (by unfold maxLen; omega)) (T.key hk) (T.reads x hx)
  have hKL := T.keyed.key (T.key hk)
  refine ⟨w', hrun, ⟨_, rebaseU o', fun j hj => ?_⟩, g'⟩
  show _ = (if j = k then some x else f j).isSome ∧ _ = dat ((if j = k then some x else f j).getD z0)
  by_cases e : j = k
  · subst e
    rw [if_pos rfl, Maps.has_put_same h1.isMap hKL, Maps.atKey_put_same h1.isMap hKL]
    exact ⟨rfl, rfl⟩
  · rw [if_neg e, Maps.has_put_other (fun q => e (by simpa using q)), Maps.atKey_put_other (fun q => e (by simpa using q))]
    exact h2 j hj
/-- delete(m, k) -/
theorem MpF.drop (T : VKit P kt et t enc okv R dat z0) {b : Nat} {f : Int → Option β} (h : MpF P kt R dat z0 w b f) {k : Int} (hk : InR k) :
    ∃ w', (∀ ty, (Builtin.delete_ #[t, kt] ty #[.map (some b), .int .i64 k]).run P w = .ok (.tuple #[]) w') ∧ MpF P kt R dat z0 w' b (fun j => if j = k then none else f j) ∧ w.grownBy w' (some b) := by
  obtain ⟨D, h1, h2⟩ := h
  obtain ⟨w', hrun, o', t'⟩ := h1.drop T.keyed T.map (T.key hk) 0
  refine ⟨w', fun ty => hrun, ⟨_, rebaseU o', fun j hj => ?_⟩, t'.grown⟩
  show _ = (if j = k then none else f j).isSome ∧ _ = dat ((if j = k then none else f j).getD z0)
  by_cases e : j = k
  · subst e
    rw [if_pos rfl, Maps.has_del_same, Maps.atKey_del_same]
    exact ⟨rfl, rfl⟩
  · rw [if_neg e, Maps.has_del_other (fun q => e (by simpa using q)), Maps.atKey_del_other (fun q => e (by simpa using q))]
    exact h2 j hj
theorem VKit.drop_nil (T : VKit P kt et t enc okv R dat z0) {k : Int} (hk : InR k) (ty : TypeId) : (Builtin.delete_ #[t, kt] ty #[.map none, .int .i64 k]).run P w = .ok (.tuple #[]) w := Maps.drop_nil T.keyed T.map (T.key hk) ty
/-- len(m) -/
theorem MpF.len (T : VKit P kt et t enc okv R dat z0) {b : Nat} {U : List Int} {N : Prs} {f : Int → Option β} (h : MpF P kt R dat z0 w b f) (hf : ∀ k, InR k → (f k).isSome = (ulk N k).isSome) (hN : UG U N) (ty : TypeId) : (Builtin.len_ #[t] ty #[.map (some b)]).run P w = .ok (.int .i64 (N.length : Int)) w := by
  obtain ⟨D, h1, h2⟩ := h
  rw [h1.len T.map, size_is T.int h1 (fun k hk => (h2 k hk).1.trans (hf k hk)) hN]
/-- A range over a map under way: what is told of it, of which keys the entries are still to come, how many. -/
def MpR (P : Program) (kt : TypeId) (R : Value → Option (DataW Unit × List MemPlace)) (dat : β → DataW Unit) (z0 : β) (w : World) (b r : Nat) (f : Int → Option β) (left : Int → Bool) (cnt : Nat) : Prop :=
  ∃ (D : DataW Unit) (l : Lit → Bool), w.ranges P kt R b r (Maps.size D) D l cnt ∧ Tells dat z0 D f ∧ ∀ k, l (.int .i64 k) = left k
theorem MpR.kept {w' : World} {b r : Nat} {f : Int → Option β} {left : Int → Bool} {cnt : Nat} (h : MpR P kt R dat z0 w b r f left cnt) (hb : w'.heap[b]? = w.heap[b]?) (hr : w'.heap[r]? = w.heap[r]?) : MpR P kt R dat z0 w' b r f left cnt := by
  obtain ⟨D, l, ⟨es, clock, since, seen, c0, h1, h2, h3, h4, h5, h6⟩, hT, hl⟩ := h
  exact ⟨D, l, ⟨es, clock, since, seen, c0, hb.trans h1, h2, h3, h4, hr.trans h5, h6⟩, hT, hl⟩
theorem MpR.left_eq {b r : Nat} {f : Int → Option β} {left : Int → Bool} {cnt : Nat} (h : MpR P kt R dat z0 w b r f left cnt) : w.rangeLeft b r = cnt := by
  obtain ⟨D, l, h, _⟩ := h; exact h.left_eq
theorem MpR.ne {b r : Nat} {f : Int → Option β} {left : Int → Bool} {cnt : Nat} (h : MpR P kt R dat z0 w b r f left cnt) : r ≠ b ∧ r < w.heap.size ∧ b < w.heap.size := by
  obtain ⟨D, l, h, _⟩ := h; exact ⟨h.ne, h.lt, h.owns.lt⟩
theorem MpF.range (T : VKit P kt et t enc okv R dat z0) {b : Nat} {f : Int → Option β} (h : MpF P kt R dat z0 w b f) :
    ∃ w' cnt left, (Instr.range t (.map (some b))).run P w = .ok (.pointer (some ⟨w.heap.size, 0, none⟩)) w' ∧ MpR P kt R dat z0 w' b w.heap.size f left cnt ∧ (∀ k, InR k → left k = (f k).isSome) ∧ w.grownBy w' none ∧ w'.heap.size = w.heap.size + 1 := by
  obtain ⟨D, h1, h2⟩ := h
  obtain ⟨w', hrun, h3, h4, h5⟩ := h1.range T.keyed T.map
  exact ⟨w', _, fun k => Maps.has D (.int .i64 k), hrun, ⟨D, _, h3, h2, fun k => rfl⟩, fun k hk => (h2 k hk).1, h4, h5⟩
/-- The step: nothing is left, or an entry has come. -/
theorem MpR.next (T : VKit P kt et t enc okv R dat z0) {b r : Nat} {f : Int → Option β} {left : Int → Bool} {cnt : Nat} (h : MpR P kt R dat z0 w b r f left cnt) :
    ((∀ k, InR k → left k = false) ∧ ∀ ty, (Instr.next (.pointer (some ⟨r, 0, none⟩)) false ty).run P w = .ok (.tuple #[.bool false]) w) ∨
    ∃ k x w' cnt', InR k ∧ left k = true ∧ f k = some x ∧ okv x ∧ (∀ ty, (Instr.next (.pointer (some ⟨r, 0, none⟩)) false ty).run P w = .ok (.tuple #[.bool true, .int .i64 k, enc x]) w') ∧
      MpR P kt R dat z0 w' b r f (fun j => left j && !decide (j = k)) cnt' ∧ cnt' < cnt ∧ w.grownBy w' (some r) ∧ w'.heap.size = w.heap.size ∧ (Instr.entry (.pointer (some ⟨r, 0, none⟩))).run P w' = .ok (.tuple #[.int .i64 k, enc x]) w' := by
  obtain ⟨D, l, h, hT, hl⟩ := h
  rcases h.next T.keyed 0 with ⟨_, h1, h2⟩ | ⟨key, v, kl, y, w', cnt', hkey, hlk, hv, hat, hrun, hrg, hlt, hgr, hsz, hen⟩
  · exact Or.inl ⟨fun k _ => (hl k).symm.trans (h1 _), fun ty => h2⟩
  · obtain ⟨k, rfl, rfl, hw⟩ := Maps.keyOf_int_inv T.int hkey
    obtain ⟨x, hx, rfl, hd⟩ := T.inv _ _ hv
    have hr : InR k := inR_of hw
    have hhas := Maps.has_true_of_atKey hat
    rw [(hT k hr).1] at hhas
    obtain ⟨x', hx'⟩ := Option.isSome_iff_exists.1 hhas
    have hd2 := hat (dat z0)
    rw [(hT k hr).2, hx', hd] at hd2
    obtain rfl := T.inj _ _ hd2
    refine Or.inr ⟨k, x', w', cnt', hr, (hl k).symm.trans hlk, hx', hx, fun ty => hrun, ⟨D, _, hrg, hT, fun j => ?_⟩, hlt, hgr, hsz, hen⟩
    show (l (.int .i64 j) && !(Lit.int .i64 j).sameKey (.int .i64 k)) = _
    rw [hl]
    simp [Lit.sameKey]
end
end Go.Proofs.Ytebjmnppeohdiaa
