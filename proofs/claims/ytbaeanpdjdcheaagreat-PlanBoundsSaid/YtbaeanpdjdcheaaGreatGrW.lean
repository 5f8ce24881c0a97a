/-
  A map from numbers to nothing, as a set of numbers: what it holds, told by a function; what a look-up, a store, a delete leave; its keys in order. No Go function is walked here.
-/
import Derived.Test.YtbaeanpdjdcheaaGreatTurnM
import Derived.Maps.OwnSet
import Derived.Lib.SlKeysI
namespace Go.Proofs.YtbaeanpdjdcheaaGreat.MapSets
open Go.Maps Go.RowKit
set_option linter.unusedSimpArgs false
set_option linter.unusedVariables false
set_option linter.unusedSectionVars false

/-- Numbers without a double from 0 to N are no more than N. -/
theorem perm_range {L : List Int} {N : Nat} {f : Int → Bool} (hn : L.Nodup) (hm : ∀ x, x ∈ L ↔ f x = true) (hs : ∀ x, f x = true → 0 ≤ x ∧ x < (N : Int)) : L.Perm (((List.range N).filter fun u => f ((u : Nat) : Int)).map fun u => ((u : Nat) : Int)) := by
  refine (List.perm_ext_iff_of_nodup hn ?_).2 fun x => ?_
  · refine List.pairwise_map.2 ((List.Pairwise.filter _ List.nodup_range).imp fun hab e => hab (by exact_mod_cast e))
  · rw [hm, List.mem_map]
    constructor
    · intro h
      have := hs x h
      exact ⟨x.toNat, List.mem_filter.2 ⟨List.mem_range.2 (by omega), by rw [show ((x.toNat : Nat) : Int) = x by omega]; exact h⟩, by omega⟩
    · rintro ⟨u, hu, rfl⟩
      exact (List.mem_filter.1 hu).2

section
variable {P : Program} {kt ut t : TypeId}

structure SetKit (P : Program) (kt ut t : TypeId) : Prop where
  int : P.underlying kt = some (.int .i64)
  map : P.underlying t = some (.map kt ut)
  zero : ∀ w, (zeroValue ut).run P w = .ok (.agg #[]) w
theorem SetKit.keyed (T : SetKit P kt ut t) : Keyed P kt := int_keyed T.int
theorem SetKit.key (T : SetKit P kt ut t) {k : Int} (h : InR k) : keyOf P kt (.int .i64 k) = some (.int .i64 k) := keyOf_int_mk T.int (WalkArith.wf_i64 h)

/-- Block b is a map whose keys are the numbers of which f tells true. -/
def MapSet (P : Program) (kt : TypeId) (w : World) (b : Nat) (f : Int → Bool) : Prop :=
  ∃ D : DataW Unit, w.ownsMap P kt (unitElem (H := Unit)) b (Maps.size D) D ∧ ∀ k, InR k → Maps.has D (.int .i64 k) = f k

theorem rebase {w : World} {b n : Nat} {R : Value → Option (DataW Unit × List MemPlace)} {D : DataW Unit} (h : w.ownsMap P kt R b n D) : w.ownsMap P kt R b (Maps.size D) D := by
  obtain ⟨es, clock, hb, F, hs, rfl⟩ := h
  exact ⟨es, clock, hb, F, by rw [Maps.size_eq, length_sorted]; simp, rfl⟩
theorem MapSet.lt {w : World} {b : Nat} {f : Int → Bool} (h : MapSet P kt w b f) : b < w.heap.size := by obtain ⟨D, h, _⟩ := h; exact h.lt
theorem MapSet.keep {w w' : World} {b : Nat} {f : Int → Bool} (h : MapSet P kt w b f) (hb : w'.heap[b]? = w.heap[b]?) : MapSet P kt w' b f := by
  obtain ⟨D, ⟨es, clock, h1, F, hs, hD⟩, h2⟩ := h
  exact ⟨D, ⟨es, clock, hb.trans h1, F, hs, hD⟩, h2⟩
theorem MapSet.same {w : World} {b : Nat} {f g : Int → Bool} (h : MapSet P kt w b f) (e : ∀ k, InR k → f k = g k) : MapSet P kt w b g := by
  obtain ⟨D, h1, h2⟩ := h
  exact ⟨D, h1, fun k hk => (h2 k hk).trans (e k hk)⟩
theorem made (w : World) : MapSet P kt (w.alloc (.map #[] 0)) w.heap.size (fun _ => false) :=
  ⟨.map [], rebase (World.ownsMap_made _ _ _ _), fun _ _ => rfl⟩
/-- Its keys, whatever their order. -/
theorem keys_perm (hk : P.underlying kt = some (.int .i64)) {w : World} {b n N : Nat} {f : Int → Bool} {D : DataW Unit} (h : w.ownsMap P kt (unitElem (H := Unit)) b n D) (hf : ∀ k, InR k → Maps.has D (.int .i64 k) = f k)
    (hs : ∀ k, InR k → f k = true → 0 ≤ k ∧ k < (N : Int)) : (intKeys D).Perm (((List.range N).filter fun u => f ((u : Nat) : Int) && decide (InR ((u : Nat) : Int))).map fun u => ((u : Nat) : Int)) := by
  obtain ⟨es, hD, hpw, _⟩ := h.entries (int_keyed hk)
  obtain ⟨es', hD', hko⟩ := h.keysOf
  obtain rfl : es = es' := by rw [hD] at hD'; simpa using hD'
  subst hD
  have hwf := intKeys_wf h hk
  have hkk : ∀ p ∈ es, ∃ x, p.1 = .int .i64 x := fun p hp => by obtain ⟨v, hv⟩ := hko p hp; obtain ⟨x, _, hx, _⟩ := Maps.keyOf_i64 hk hv; exact ⟨x, hx⟩
  have hnd : (intKeys (DataW.map es)).Nodup := by
    show (es.map fun p => intOf p.1).Nodup
    refine List.pairwise_map.2 (hpw.imp_of_mem fun {p q} hp' hq' hne e => hne ?_)
    obtain ⟨a, ha⟩ := hkk p hp'
    obtain ⟨b, hb⟩ := hkk q hq'
    rw [ha, hb] at e ⊢
    exact congrArg _ e
  have hmem : ∀ x, x ∈ intKeys (DataW.map es) ↔ Maps.has (.map es) (.int .i64 x) = true := fun x => by
    rw [has_eq, List.any_eq_true]
    show x ∈ es.map (fun p => intOf p.1) ↔ _
    rw [List.mem_map]
    constructor
    · rintro ⟨p, hp', rfl⟩
      obtain ⟨a, ha⟩ := hkk p hp'
      exact ⟨p, hp', by rw [ha]; simp [Lit.sameKey, intOf]⟩
    · rintro ⟨p, hp', hs⟩
      obtain ⟨a, ha⟩ := hkk p hp'
      rw [ha] at hs
      exact ⟨p, hp', by rw [ha]; simpa [Lit.sameKey, intOf] using hs⟩
  refine perm_range hnd (f := fun x => f x && decide (InR x)) (fun x => ?_) (fun x hx => ?_)
  · rw [Bool.and_eq_true]
    constructor
    · intro hx
      have hr : InR x := inR_of (hwf x hx)
      exact ⟨(hf x hr).symm.trans ((hmem x).1 hx), decide_eq_true hr⟩
    · rintro ⟨h1, h2⟩
      have hr : InR x := of_decide_eq_true h2
      exact (hmem x).2 ((hf x hr).trans h1)
  · rw [Bool.and_eq_true] at hx
    exact hs x (of_decide_eq_true hx.2) hx.1
theorem size_keys {D : DataW Unit} (h : ∃ es, D = .map es) : Maps.size D = (intKeys D).length := by
  obtain ⟨es, rfl⟩ := h
  simp [Maps.size, intKeys]
theorem MapSet.size (T : SetKit P kt ut t) {w : World} {b N : Nat} {f : Int → Bool} {D : DataW Unit} (h : w.ownsMap P kt (unitElem (H := Unit)) b (Maps.size D) D) (hf : ∀ k, InR k → Maps.has D (.int .i64 k) = f k) (hs : ∀ k, InR k → f k = true → 0 ≤ k ∧ k < (N : Int)) : Maps.size D ≤ N := by
  have hp := keys_perm T.int h hf hs
  obtain ⟨es, hD, _⟩ := h.keysOf
  rw [size_keys ⟨es, hD⟩, hp.length_eq, List.length_map]
  exact Nat.le_trans (List.length_filter_le _ _) (by simp)

variable {w : World}
/-- v, ok := m[k] -/
theorem run_look (T : SetKit P kt ut t) {b : Nat} {f : Int → Bool} (h : MapSet P kt w b f) {k : Int} (hk : InR k) : (Instr.lookup t (.map (some b)) (.int .i64 k) true).run P w = .ok (.tuple #[.agg #[], .bool (f k)]) w := by
  obtain ⟨D, h1, h2⟩ := h
  obtain ⟨v, ps, hrun, hv⟩ := h1.look_ok T.keyed T.map (T.zero w) unitElem_mk (T.key hk)
  obtain ⟨rfl, _⟩ := unitElem_inv hv
  rw [h2 k hk] at hrun
  exact hrun
theorem run_look_nil (T : SetKit P kt ut t) {k : Int} (hk : InR k) : (Instr.lookup t (.map none) (.int .i64 k) true).run P w = .ok (.tuple #[.agg #[], .bool false]) w :=
  Maps.look_nil true T.keyed T.map (T.zero w) (T.key hk)
/-- m[k] = struct{}{} -/
theorem run_store (T : SetKit P kt ut t) {b N : Nat} {f : Int → Bool} (h : MapSet P kt w b f) (hs : ∀ k, InR k → f k = true → 0 ≤ k ∧ k < (N : Int)) (hN : N < maxLen) {k : Int} (hk : InR k) :
    ∃ w', (Instr.mapUpdate t (.map (some b)) (.int .i64 k) (.agg #[])).run P w = .ok () w' ∧ MapSet P kt w' b (fun j => decide (j = k) || f j) ∧ w.grownBy w' (some b) := by
  obtain ⟨D, h1, h2⟩ := h
  obtain ⟨w', hrun, o', t'⟩ := h1.store T.keyed T.map (Nat.lt_of_le_of_lt (MapSet.size T h1 h2 hs) hN) (T.key hk) unitElem_mk
  refine ⟨w', hrun, ⟨_, rebase o', fun j hj => ?_⟩, t'.grown⟩
  have hKL := T.keyed.key (T.key hk)
  by_cases e : j = k
  · subst e
    rw [Maps.has_put_same h1.isMap hKL]; simp
  · rw [Maps.has_put_other (fun q => e (by simpa using q)), h2 j hj]; simp [e]
/-- delete(m, k) -/
theorem run_drop (T : SetKit P kt ut t) {b : Nat} {f : Int → Bool} (h : MapSet P kt w b f) {k : Int} (hk : InR k) (ty : TypeId) :
    ∃ w', (Builtin.delete_ #[t, kt] ty #[.map (some b), .int .i64 k]).run P w = .ok (.tuple #[]) w' ∧ MapSet P kt w' b (fun j => !decide (j = k) && f j) ∧ w.grownBy w' (some b) := by
  obtain ⟨D, h1, h2⟩ := h
  obtain ⟨w', hrun, o', t'⟩ := h1.drop T.keyed T.map (T.key hk) ty
  refine ⟨w', hrun, ⟨_, rebase o', fun j hj => ?_⟩, t'.grown⟩
  by_cases e : j = k
  · subst e
    rw [Maps.has_del_same]; simp
  · rw [Maps.has_del_other (fun q => e (by simpa using q)), h2 j hj]; simp [e]
end
end Go.Proofs.YtbaeanpdjdcheaaGreat.MapSets
