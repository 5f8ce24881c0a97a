/-
  The words of layer 20: whose Parent one is, all above it (also where they go round), leaves, what is under one, the walk depth first. No Go function is walked here. No conditions.
-/
import Derived.Test.YteendpdidkekkaaFlt
namespace Go.Proofs.Yteendpdidkekkaa
open Go.RowKit
set_option linter.unusedSimpArgs false
set_option linter.unusedVariables false

/-- What is no account has none above it. -/
def PO (n : Nat) (f : Int → Int) : Prop := ∀ x, ¬ Ent (n : Int) x → f x = 0
theorem ent_few {n : Nat} {L : List Int} (h : L.Nodup) (hL : ∀ z ∈ L, Ent (n : Int) z) : L.length ≤ n := by
  have := nodup_le L ((List.range n).map fun i : Nat => (i : Int) + 1) h (fun z hz => by
    have := hL z hz
    unfold Ent at this
    exact List.mem_map.2 ⟨(z - 1).toNat, List.mem_range.2 (by omega), by omega⟩)
  rwa [List.length_map, List.length_range] at this
theorem not_ent_zero (n : Nat) : ¬ Ent (n : Int) 0 := fun q => by unfold Ent at q; omega
def upg (n : Nat) (f : Int → Int) (a : Int) : Nat → List Int → Int → List Int
  | 0, out, _ => out
  | k + 1, out, x => if Ent (n : Int) x ∧ x ≠ a ∧ ¬ x ∈ out then upg n f a k (out ++ [x]) (f x) else out
/-- All above one. -/
def ups (n : Nat) (f : Int → Int) (a : Int) : List Int := if Ent (n : Int) a then upg n f a n [] (f a) else []
theorem ups_no {n : Nat} {f : Int → Int} {a : Int} (h : ¬ Ent (n : Int) a) : ups n f a = [] := if_neg h
/-- On the way up. -/
structure UpS (n : Nat) (f : Int → Int) (a : Int) (out : List Int) (x : Int) : Prop where
  ent : Ent (n : Int) a
  way : out = abv f out.length a ∧ x = way f (out.length + 1) a
  nod : (a :: out).Nodup
  ins : ∀ z ∈ out, Ent (n : Int) z
  res : upg n f a (n - out.length) out x = ups n f a
section
variable {n : Nat} {f : Int → Int} {a x : Int} {out : List Int}
theorem UpS.start (h : Ent (n : Int) a) : UpS n f a [] (f a) := ⟨h, ⟨rfl, rfl⟩, by simp, by simp, by unfold ups; rw [if_pos h]; rfl⟩
theorem UpS.len (h : UpS n f a out x) : out.length + 1 ≤ n := by
  have := ent_few (n := n) h.nod (fun z hz => by
    rcases List.mem_cons.1 hz with rfl | hz
    · exact h.ent
    · exact h.ins z hz)
  rwa [List.length_cons] at this
theorem UpS.go (h : UpS n f a out x) (hx : Ent (n : Int) x) (ha : x ≠ a) (ho : ¬ x ∈ out) : UpS n f a (out ++ [x]) (f x) := by
  have hn : (a :: (out ++ [x])).Nodup := by
    have := h.nod
    rw [List.nodup_cons] at this ⊢
    refine ⟨fun q => ?_, ?_⟩
    · rcases List.mem_append.1 q with q | q
      · exact this.1 q
      · exact ha (List.mem_singleton.1 q).symm
    · rw [List.nodup_append]
      exact ⟨this.2, by simp, fun u hu v hv q => ho (by rw [List.mem_singleton] at hv; rw [← hv, ← q]; exact hu)⟩
  have hi : ∀ z ∈ out ++ [x], Ent (n : Int) z := fun z hz => by
    rcases List.mem_append.1 hz with q | q
    · exact h.ins z q
    · rw [List.mem_singleton.1 q]; exact hx
  have hl : out.length + 2 ≤ n := by
    have := ent_few (n := n) hn (fun z hz => by
      rcases List.mem_cons.1 hz with rfl | hz
      · exact h.ent
      · exact hi z hz)
    simpa using this
  refine ⟨h.ent, ?_, hn, hi, ?_⟩
  · rw [List.length_append, List.length_singleton, abv_succ, ← h.way.1, ← h.way.2]
    refine ⟨rfl, ?_⟩
    show f x = f (Go.Proofs.Yteendpdidkekkaa.way f (out.length + 1) a)
    rw [← h.way.2]
  · have := h.res
    rw [show n - out.length = (n - (out.length + 1)) + 1 by omega, upg, if_pos ⟨hx, ha, ho⟩] at this
    rw [List.length_append, List.length_singleton]
    exact this
theorem UpS.stop (h : UpS n f a out x) (hs : ¬ (Ent (n : Int) x ∧ x ≠ a ∧ ¬ x ∈ out)) : ups n f a = out := by
  have := h.res
  rw [← this]
  cases n - out.length with
  | zero => rfl
  | succ k => rw [upg, if_neg hs]
theorem UpS.fin (h : UpS n f a out x) : ∃ y, UpS n f a (ups n f a) y ∧ ¬ (Ent (n : Int) y ∧ y ≠ a ∧ ¬ y ∈ ups n f a) := by
  obtain ⟨k, hk⟩ : ∃ k, n - out.length = k := ⟨_, rfl⟩
  induction k generalizing out x with
  | zero => have := h.len; omega
  | succ k ih =>
    by_cases hs : Ent (n : Int) x ∧ x ≠ a ∧ ¬ x ∈ out
    · exact ih (h.go hs.1 hs.2.1 hs.2.2) (by rw [List.length_append, List.length_singleton]; omega)
    · have e := h.stop hs
      rw [e]; exact ⟨x, h, hs⟩
theorem ups_end (h : Ent (n : Int) a) : ∃ y, UpS n f a (ups n f a) y ∧ ¬ (Ent (n : Int) y ∧ y ≠ a ∧ ¬ y ∈ ups n f a) := (UpS.start h).fin
theorem ups_few (n : Nat) (f : Int → Int) (a : Int) : (ups n f a).length ≤ n := by
  by_cases h : Ent (n : Int) a
  · obtain ⟨y, q, _⟩ := ups_end (f := f) h
    have := q.len; omega
  · rw [ups_no h]; exact Nat.zero_le _
theorem ups_ent {z : Int} (hz : z ∈ ups n f a) : Ent (n : Int) z := by
  by_cases h : Ent (n : Int) a
  · obtain ⟨y, q, _⟩ := ups_end (f := f) h
    exact q.ins z hz
  · rw [ups_no h] at hz; cases hz
theorem ups_in (hn : n ≤ 1000) : ∀ z ∈ ups n f a, InR z := fun z hz => by
  have := ups_ent hz; unfold Ent at this; unfold InR; omega
theorem way_dead (ho : PO n f) {y : Int} (h : ¬ Ent (n : Int) y) : ∀ k, 1 ≤ k → way f k y = 0
  | 0, q => by omega
  | 1, _ => ho y h
  | k + 2, _ => by
    show f (way f (k + 1) y) = 0
    rw [way_dead ho h (k + 1) (by omega)]
    exact ho 0 (not_ent_zero n)
/-- Wherever the steps lead: to itself, to one that is told, to no account. -/
theorem ups_way (ho : PO n f) (h : Ent (n : Int) a) : ∀ k, way f k a = a ∨ way f k a ∈ ups n f a ∨ ¬ Ent (n : Int) (way f k a) := by
  obtain ⟨y, q, hs⟩ := ups_end (f := f) h
  generalize ups n f a = U at *
  have hy : y = a ∨ y ∈ U ∨ ¬ Ent (n : Int) y := by
    by_cases h1 : Ent (n : Int) y
    · by_cases h2 : y = a
      · exact Or.inl h2
      · exact Or.inr (Or.inl (Decidable.not_not.1 fun r => hs ⟨h1, h2, r⟩))
    · exact Or.inr (Or.inr h1)
  have hn : ∀ j, j ≤ U.length → way f (j + 1) a = a ∨ way f (j + 1) a ∈ U ∨ ¬ Ent (n : Int) (way f (j + 1) a) := fun j hj => by
    rcases Nat.lt_or_ge j U.length with r | r
    · refine Or.inr (Or.inl ?_)
      rw [q.way.1]
      exact mem_abv.2 ⟨j + 1, by omega, by omega, rfl⟩
    · rw [show j = U.length by omega, ← q.way.2]; exact hy
  intro k
  induction k with
  | zero => exact Or.inl rfl
  | succ k ih =>
    show f (way f k a) = a ∨ f (way f k a) ∈ U ∨ ¬ Ent (n : Int) (f (way f k a))
    rcases ih with e | e | e
    · rw [e]; exact hn 0 (Nat.zero_le _)
    · rw [q.way.1] at e
      obtain ⟨j, h1, h2, h3⟩ := mem_abv.1 e
      rw [← h3]; exact hn j h2
    · refine Or.inr (Or.inr ?_)
      rw [ho _ e]; exact not_ent_zero n
theorem mem_ups (ho : PO n f) (h : Ent (n : Int) a) {z : Int} : z ∈ ups n f a ↔ z ≠ a ∧ Ent (n : Int) z ∧ ∃ k, way f k a = z := by
  obtain ⟨y, q, hs⟩ := ups_end (f := f) h
  constructor
  · intro hz
    refine ⟨fun e => (List.nodup_cons.1 q.nod).1 (e ▸ hz), q.ins z hz, ?_⟩
    rw [q.way.1] at hz
    obtain ⟨j, _, _, h3⟩ := mem_abv.1 hz
    exact ⟨j, h3⟩
  · rintro ⟨h1, h2, k, rfl⟩
    rcases ups_way ho h k with e | e | e
    · exact absurd e h1
    · exact e
    · exact absurd h2 e
theorem abv_last (f : Int → Int) (m : Nat) (a : Int) : (abv f m a).getLastD a = way f m a := by
  cases m with
  | zero => rfl
  | succ m => rw [abv_succ]; simp [List.getLastD_concat]
/-- It comes back to itself. -/
def rnd (n : Nat) (f : Int → Int) (a : Int) : Bool := decide (f ((ups n f a).getLastD a) = a)
theorem rnd_back (ho : PO n f) (h : Ent (n : Int) a) : rnd n f a = true ↔ Back f a := by
  obtain ⟨y, q, hs⟩ := ups_end (f := f) h
  have hw := ups_way ho h
  unfold rnd
  rw [decide_eq_true_eq]
  have hna := (List.nodup_cons.1 q.nod).1
  generalize ups n f a = U at *
  have e1 : f (U.getLastD a) = y := by
    rw [q.way.2]
    show f (U.getLastD a) = f (way f U.length a)
    conv => lhs; rw [q.way.1]
    rw [abv_last]
  rw [e1]
  have hm : ∀ j, 1 ≤ j → j ≤ U.length → way f j a ∈ U := fun j h1 h2 => by rw [q.way.1]; exact mem_abv.2 ⟨j, h1, h2, rfl⟩
  constructor
  · intro e; exact ⟨U.length + 1, by omega, q.way.2.symm.trans e⟩
  · rintro ⟨k, h1, h2⟩
    refine Decidable.not_not.1 fun hy => ?_
    by_cases he : Ent (n : Int) y
    · have hu : y ∈ U := Decidable.not_not.1 fun r => hs ⟨he, hy, r⟩
      have hall : ∀ j, way f (j + 1) a ∈ U := by
        intro j
        induction j with
        | zero =>
          rcases Nat.eq_zero_or_pos U.length with r | r
          · have := q.way.2; rw [r] at this; rw [← this]; exact hu
          · exact hm 1 (by omega) r
        | succ j ih =>
          rw [q.way.1] at ih
          obtain ⟨i, i1, i2, i3⟩ := mem_abv.1 ih
          have e2 : way f (j + 1 + 1) a = way f (i + 1) a := by show f (way f (j + 1) a) = f (way f i a); rw [i3]
          rw [e2]
          rcases Nat.lt_or_ge i U.length with r | r
          · exact hm (i + 1) (by omega) r
          · rw [show i = U.length by omega, ← q.way.2]; exact hu
      have := hall (k - 1)
      rw [show k - 1 + 1 = k by omega, h2] at this
      exact hna this
    · rcases Nat.lt_or_ge k (U.length + 1) with r | r
      · have := hm k h1 (by omega)
        rw [h2] at this
        exact hna this
      · rcases Nat.lt_or_ge (U.length + 1) k with r2 | r2
        · have e3 : way f k a = way f (k - (U.length + 1)) y := by rw [q.way.2, ← way_add, show U.length + 1 + (k - (U.length + 1)) = k by omega]
          rw [h2, way_dead ho he _ (by omega)] at e3
          rw [e3] at h
          exact not_ent_zero n h
        · rw [show k = U.length + 1 by omega, ← q.way.2] at h2
          exact hy h2
theorem fok_of (ho : PO n f) (hr : ∀ x, Ent (n : Int) x → 0 ≤ f x ∧ f x ≤ n) (hb : ∀ x, Ent (n : Int) x → rnd n f x = false) : FOk (n : Int) f := by
  refine ⟨ho, fun x => ?_, fun x hx q => ?_⟩
  · by_cases h : Ent (n : Int) x
    · have := hr x h; omega
    · rw [ho x h]; omega
  · by_cases h : Ent (n : Int) x
    · have := (rnd_back ho h).2 q
      rw [hb x h] at this; cases this
    · obtain ⟨k, h1, h2⟩ := q
      rw [way_dead ho h k h1] at h2
      exact hx h2.symm
theorem UpS.up (hf : FOk (n : Int) f) (a : Int) : ∀ x, ∀ out, UpS n f a out x → ups n f a = out ++ up n f x :=
  up_ind hf (fun x e out h => by rw [up_no e, List.append_nil]; exact h.stop (fun q => e q.1)) (fun x e ih out h => by
    have h0 : x ≠ 0 := fun q => not_ent_zero n (q ▸ e)
    have ha : x ≠ a := fun q => hf.free x h0 ⟨out.length + 1, by omega, by
      have := h.way.2
      rw [← q] at this; exact this.symm⟩
    have ho : ¬ x ∈ out := fun q => by
      rw [h.way.1] at q
      obtain ⟨j, h1, h2, h3⟩ := mem_abv.1 q
      refine hf.free x h0 ⟨out.length + 1 - j, by omega, ?_⟩
      conv => lhs; rw [← h3]
      rw [← way_add, show j + (out.length + 1 - j) = out.length + 1 by omega]
      exact h.way.2.symm
    rw [ih _ (h.go e ha ho), up_yes hf e, List.append_assoc]; rfl)
theorem ups_up (hf : FOk (n : Int) f) (h : Ent (n : Int) a) : ups n f a = up n f (f a) := UpS.up hf a _ [] (UpS.start h)
end
/-- Those right under one (or under none: 0). -/
def fam (n : Nat) (f : Int → Int) (k : Int) : List Int := flt n fun x => decide (f x = k)
def chs (n : Nat) (f : Int → Int) (a : Int) : List Int := if Ent (n : Int) a then fam n f a else []
def lfa (n : Nat) (f : Int → Int) (a : Int) : Bool := decide (Ent (n : Int) a) && decide (fam n f a = [])
def lvs (n : Nat) (f : Int → Int) : List Int := flt n (lfa n f)
/-- It is a, or has a above it. -/
def hasU (n : Nat) (f : Int → Int) (a x : Int) : Bool := decide (x = a) || decide (a ∈ ups n f x)
def unb (n : Nat) (f : Int → Int) (a x : Int) : Bool := hasU n f a x && decide (fam n f x = [])
def unl (n : Nat) (f : Int → Int) (a : Int) : List Int := if Ent (n : Int) a then flt n (unb n f a) else []
theorem mem_fam {n : Nat} {f : Int → Int} {k x : Int} : x ∈ fam n f k ↔ Ent (n : Int) x ∧ f x = k := by
  unfold fam; rw [mem_flt, decide_eq_true_eq]
theorem flt_nodup (n : Nat) (g : Int → Bool) : (flt n g).Nodup := by
  unfold flt
  refine List.Nodup.sublist List.filter_sublist ?_
  exact List.pairwise_map.2 (List.nodup_range.imp fun h q => h (by omega))
theorem fam_len (n : Nat) (f : Int → Int) (k : Int) : (fam n f k).length ≤ n := flt_len _ _
theorem hasU_is {n : Nat} {f : Int → Int} {a x : Int} (ho : PO n f) (ha : Ent (n : Int) a) (hx : Ent (n : Int) x) : hasU n f a x = true ↔ ∃ k, way f k x = a := by
  unfold hasU
  rw [Bool.or_eq_true, decide_eq_true_eq, decide_eq_true_eq, mem_ups ho hx]
  constructor
  · rintro (rfl | ⟨_, _, h⟩)
    · exact ⟨0, rfl⟩
    · exact h
  · intro h
    by_cases e : x = a
    · exact Or.inl e
    · exact Or.inr ⟨fun q => e q.symm, ha, h⟩
/-- On the way down: who is marked, who waits. -/
structure DsS (n : Nat) (f : Int → Int) (a : Int) (I : List Bool) (W : List Int) : Prop where
  ent : Ent (n : Int) a
  len : I.length = n + 1
  mar : ∀ x : Nat, I.getD x false = true → Ent (n : Int) (x : Int) ∧ ∃ k, way f k (x : Int) = a
  wai : ∀ x ∈ W, Ent (n : Int) x ∧ ∃ k, way f k x = a
  beg : a ∈ W ∨ I.getD a.toNat false = true
  clo : ∀ y : Nat, I.getD y false = true → ∀ c, Ent (n : Int) c → f c = (y : Int) → c ∈ W ∨ I.getD c.toNat false = true
  few : W.length + I.count false * n ≤ 1 + (n + 1) * n
section
variable {n : Nat} {f : Int → Int} {a x : Int} {I : List Bool} {W : List Int}
theorem getD_false (k j : Nat) : (List.replicate k false).getD j false = false := by
  rcases Nat.lt_or_ge j k with h | h
  · simp [List.getD, h]
  · simp [List.getD, h]
theorem DsS.start (f : Int → Int) (h : Ent (n : Int) a) : DsS n f a (List.replicate (n + 1) false) [a] := by
  refine ⟨h, List.length_replicate, fun x q => ?_, fun x q => ?_, Or.inl (by simp), fun y q => ?_, ?_⟩
  · rw [getD_false] at q; cases q
  · rw [List.mem_singleton.1 q]; exact ⟨h, 0, rfl⟩
  · rw [getD_false] at q; cases q
  · rw [List.count_replicate_self]; simp
theorem DsS.no (h : DsS n f a I (W ++ [x])) (hx : I.getD x.toNat false = true) : DsS n f a I W := by
  refine ⟨h.ent, h.len, h.mar, fun z hz => h.wai z (List.mem_append_left _ hz), ?_, fun y hy c hc e => ?_, ?_⟩
  · rcases h.beg with q | q
    · rcases List.mem_append.1 q with q | q
      · exact Or.inl q
      · rw [List.mem_singleton.1 q]; exact Or.inr hx
    · exact Or.inr q
  · rcases h.clo y hy c hc e with q | q
    · rcases List.mem_append.1 q with q | q
      · exact Or.inl q
      · rw [List.mem_singleton.1 q]; exact Or.inr hx
    · exact Or.inr q
  · have := h.few; rw [List.length_append, List.length_singleton] at this; omega
theorem DsS.last (h : DsS n f a I (W ++ [x])) : Ent (n : Int) x := (h.wai x (by simp)).1
theorem getD_set (I : List Bool) (k j : Nat) (hk : k < I.length) : (I.set k true).getD j false = (decide (j = k) || I.getD j false) := by
  by_cases e : j = k
  · subst e; simp [List.getD, List.getElem?_set_self hk]
  · have : (I.set k true).getD j false = I.getD j false := by simp [List.getD, List.getElem?_set_ne (fun q => e q.symm)]
    rw [this]; simp [e]
theorem count_set {I : List Bool} {k : Nat} (hk : k < I.length) (h : I.getD k false = false) : (I.set k true).count false + 1 = I.count false := by
  have hk2 : I[k] = false := by simpa [List.getD, hk] using h
  rw [List.count_set hk]
  have hp : 0 < I.count false := List.count_pos_iff.2 (hk2 ▸ List.getElem_mem hk)
  simp [hk2]; omega
theorem DsS.yes (h : DsS n f a I (W ++ [x])) (hx : I.getD x.toNat false = false) : DsS n f a (I.set x.toNat true) (W ++ fam n f x) := by
  have hxe := h.last
  have hxr := (h.wai x (by simp)).2
  have hx0 : ((x.toNat : Nat) : Int) = x := by unfold Ent at hxe; omega
  have hk : x.toNat < I.length := by rw [h.len]; unfold Ent at hxe; omega
  have hset := fun j => getD_set I x.toNat j hk
  have hcs := count_set hk hx
  refine ⟨h.ent, by rw [List.length_set]; exact h.len, fun y hy => ?_, fun z hz => ?_, ?_, fun y hy c hc e => ?_, ?_⟩
  · rw [hset, Bool.or_eq_true, decide_eq_true_eq] at hy
    rcases hy with rfl | hy
    · rw [hx0]; exact ⟨hxe, hxr⟩
    · exact h.mar y hy
  · rcases List.mem_append.1 hz with q | q
    · exact h.wai z (List.mem_append_left _ q)
    · obtain ⟨q1, q2⟩ := mem_fam.1 q
      obtain ⟨k, hk⟩ := hxr
      refine ⟨q1, 1 + k, ?_⟩
      rw [way_add]
      show way f k (f z) = a
      rw [q2]; exact hk
  · rw [hset, Bool.or_eq_true, decide_eq_true_eq]
    rcases h.beg with q | q
    · rcases List.mem_append.1 q with q | q
      · exact Or.inl (List.mem_append_left _ q)
      · rw [List.mem_singleton.1 q]; exact Or.inr (Or.inl rfl)
    · exact Or.inr (Or.inr q)
  · rw [hset, Bool.or_eq_true, decide_eq_true_eq] at hy ⊢
    rcases hy with rfl | hy
    · rw [hx0] at e
      exact Or.inl (List.mem_append_right _ (mem_fam.2 ⟨hc, e⟩))
    · rcases h.clo y hy c hc e with q | q
      · rcases List.mem_append.1 q with q | q
        · exact Or.inl (List.mem_append_left _ q)
        · rw [List.mem_singleton.1 q]; exact Or.inr (Or.inl rfl)
      · exact Or.inr (Or.inr q)
  · have h1 := h.few
    have h2 := fam_len n f x
    rw [List.length_append, List.length_singleton] at h1
    rw [List.length_append]
    rw [← hcs, Nat.succ_mul] at h1
    omega
theorem DsS.short (h : DsS n f a I W) : W.length ≤ 1 + (n + 1) * n := by have := h.few; omega
theorem DsS.fin (h : DsS n f a I []) (ho : PO n f) (hx : Ent (n : Int) x) : I.getD x.toNat false = hasU n f a x := by
  have hx0 : ∀ z, Ent (n : Int) z → ((z.toNat : Nat) : Int) = z := fun z q => by unfold Ent at q; omega
  have hm : ∀ k x, Ent (n : Int) x → way f k x = a → I.getD x.toNat false = true := by
    intro k
    induction k with
    | zero =>
      intro x _ e
      have e : x = a := e
      rw [e]
      exact h.beg.resolve_left (by simp)
    | succ k ih =>
      intro x hx e
      rw [Nat.add_comm, way_add] at e
      have e : way f k (f x) = a := e
      have hfx : Ent (n : Int) (f x) := Decidable.not_not.1 fun q => by
        cases k with
        | zero => exact q (by have e : f x = a := e; rw [e]; exact h.ent)
        | succ k =>
          rw [way_dead ho q _ (by omega)] at e
          exact not_ent_zero n (e ▸ h.ent)
      have h1 := ih (f x) hfx e
      exact (h.clo _ h1 x hx (hx0 _ hfx).symm).resolve_left (by simp)
  rw [Bool.eq_iff_iff, hasU_is ho h.ent hx]
  constructor
  · intro q
    have := (h.mar _ q).2
    rwa [hx0 x hx] at this
  · rintro ⟨k, e⟩; exact hm k x hx e
end
def wlk (n : Nat) (f : Int → Int) : Nat → Int → Int → List (Int × Int)
  | 0, _, _ => []
  | k + 1, a, d => (fam n f a).flatMap fun c => (c, d) :: wlk n f k c (d + 1)
/-- So many steps up to none at all. -/
def Dep (n : Nat) (f : Int → Int) (d : Nat) (a : Int) : Prop := way f d a = 0 ∧ ∀ j, j < d → Ent (n : Int) (way f j a)
/-- What is told behind one that has so many above it (and itself). -/
def wst (n : Nat) (f : Int → Int) (d : Nat) (a : Int) : List (Int × Int) := wlk n f (n + 1 - d) a (d : Int)
def blk (n : Nat) (f : Int → Int) (p : Int × Int) : List (Int × Int) := p :: wst n f (p.2.toNat + 1) p.1
section
variable {n : Nat} {f : Int → Int} {a x : Int} {d : Nat}
theorem dep_zero (n : Nat) (f : Int → Int) : Dep n f 0 0 := ⟨rfl, fun j hj => by cases hj⟩
theorem dep_uniq {d' : Nat} (h : Dep n f d x) (h' : Dep n f d' x) : d = d' := by
  rcases Nat.lt_trichotomy d d' with q | q | q
  · have := h'.2 d q; rw [h.1] at this; exact absurd this (not_ent_zero n)
  · exact q
  · have := h.2 d' q; rw [h'.1] at this; exact absurd this (not_ent_zero n)
theorem dep_le (h : Dep n f d a) : d ≤ n := by
  have := way_few (f := f) (e := a) (U := (List.range n).map fun i : Nat => (i : Int) + 1) (k := d) (fun i j hij hj q => by
    have e : way f (i + (d - j)) a = 0 := by rw [way_add, q, ← way_add, show j + (d - j) = d by omega]; exact h.1
    have := h.2 (i + (d - j)) (by omega)
    rw [e] at this
    exact not_ent_zero n this) (fun j hj => by
    have := h.2 j hj
    unfold Ent at this
    exact List.mem_map.2 ⟨(way f j a - 1).toNat, List.mem_range.2 (by omega), by omega⟩)
  rwa [List.length_map, List.length_range] at this
theorem way_one (f : Int → Int) (k : Nat) (c : Int) : way f (k + 1) c = way f k (f c) := by rw [Nat.add_comm, way_add]; rfl
theorem dep_child {c : Int} (h : Dep n f d a) (hc : c ∈ fam n f a) : Dep n f (d + 1) c := by
  obtain ⟨h1, h2⟩ := mem_fam.1 hc
  refine ⟨by rw [way_one, h2]; exact h.1, fun j hj => ?_⟩
  cases j with
  | zero => exact h1
  | succ j => rw [way_one, h2]; exact h.2 j (by omega)
theorem dep_up (h : Dep n f (d + 1) x) : Dep n f d (f x) := ⟨by rw [← way_one]; exact h.1, fun j hj => by rw [← way_one]; exact h.2 (j + 1) (by omega)⟩
theorem dep_ways (j : Nat) : ∀ (d : Nat) (x : Int), Dep n f (d + j) x → Dep n f d (way f j x) := by
  induction j with
  | zero => exact fun d x h => h
  | succ j ih => exact fun d x h => by rw [way_one]; exact ih d (f x) (dep_up h)
theorem wst_eq (h : Dep n f d a) : wst n f d a = (fam n f a).flatMap fun c => blk n f (c, (d : Int)) := by
  have := dep_le h
  unfold wst
  rw [show n + 1 - d = (n - d) + 1 by omega, wlk]
  refine congrArg (fun g => (fam n f a).flatMap g) (funext fun c => ?_)
  unfold blk wst
  show _ = (c, (d : Int)) :: wlk n f (n + 1 - ((d : Int).toNat + 1)) c ((((d : Int).toNat + 1 : Nat)) : Int)
  rw [Int.toNat_natCast, show n + 1 - (d + 1) = n - d by omega]
  rfl
theorem wst_ind {P : Nat → Int → Prop} (hs : ∀ d a, Dep n f d a → (∀ c ∈ fam n f a, P (d + 1) c) → P d a) : ∀ d a, Dep n f d a → P d a := by
  have : ∀ k d a, n + 1 - d = k → Dep n f d a → P d a := by
    intro k
    induction k with
    | zero => intro d a hk h; have := dep_le h; omega
    | succ k ih => exact fun d a hk h => hs d a h fun c hc => ih (d + 1) c (by omega) (dep_child h hc)
  exact fun d a h => this _ d a rfl h
theorem wst_in : ∀ d a, Dep n f d a → ∀ p ∈ wst n f d a, ∃ j : Nat, p.2 = (d : Int) + j ∧ Dep n f (d + j + 1) p.1 ∧ way f (j + 1) p.1 = a :=
  wst_ind fun d a h ih p hp => by
    rw [wst_eq h] at hp
    obtain ⟨c, hc, hp⟩ := List.mem_flatMap.1 hp
    rcases List.mem_cons.1 hp with rfl | hp
    · exact ⟨0, by simp, dep_child h hc, (mem_fam.1 hc).2⟩
    · obtain ⟨j, h1, h2, h3⟩ := ih c hc p (by simpa using hp)
      refine ⟨j + 1, by rw [h1]; push_cast; omega, by rw [show d + (j + 1) + 1 = d + 1 + j + 1 by omega]; exact h2, ?_⟩
      show f (way f (j + 1) p.1) = a
      rw [h3]; exact (mem_fam.1 hc).2
theorem wst_ent (h : Dep n f d a) {p : Int × Int} (hp : p ∈ wst n f d a) : Ent (n : Int) p.1 ∧ 0 ≤ p.2 ∧ p.2 ≤ n := by
  obtain ⟨j, h1, h2, _⟩ := wst_in d a h p hp
  have := dep_le h2
  exact ⟨h2.2 0 (by omega), by omega, by omega⟩
theorem wst_all : ∀ (j : Nat) (d : Nat) (a x : Int), Dep n f d a → Dep n f (d + j + 1) x → way f (j + 1) x = a → (x, (d : Int) + j) ∈ wst n f d a
  | 0, d, a, x, h, hx, e => by
    rw [wst_eq h]
    exact List.mem_flatMap.2 ⟨x, mem_fam.2 ⟨hx.2 0 (by omega), e⟩, List.mem_cons.2 (Or.inl (by simp))⟩
  | j + 1, d, a, x, h, hx, e => by
    rw [wst_eq h]
    have hc : way f (j + 1) x ∈ fam n f a := mem_fam.2 ⟨hx.2 (j + 1) (by omega), e⟩
    refine List.mem_flatMap.2 ⟨way f (j + 1) x, hc, List.mem_cons.2 (Or.inr ?_)⟩
    have := wst_all j (d + 1) (way f (j + 1) x) x (dep_child h hc) (by rw [show d + 1 + j + 1 = d + (j + 1) + 1 by omega]; exact hx) rfl
    have e2 : ((d + 1 : Nat) : Int) + (j : Nat) = (d : Int) + ((j + 1 : Nat) : Int) := by push_cast; omega
    rw [e2] at this
    simpa using this
theorem wst_nodup : ∀ d a, Dep n f d a → ((wst n f d a).map Prod.fst).Nodup :=
  wst_ind fun d a h ih => by
    rw [wst_eq h, List.map_flatMap]
    refine List.pairwise_flatMap.2 ⟨fun c hc => ?_, ?_⟩
    · show ((c, (d : Int)).1 :: ((wst n f ((c, (d : Int)).2.toNat + 1) (c, (d : Int)).1).map Prod.fst)).Nodup
      refine List.nodup_cons.2 ⟨fun q => ?_, by simpa using ih c hc⟩
      obtain ⟨p, hp, e⟩ := List.mem_map.1 q
      have hp : p ∈ wst n f (d + 1) c := by simpa using hp
      obtain ⟨j, _, h2, _⟩ := wst_in _ _ (dep_child h hc) p hp
      have e : p.1 = c := e
      rw [e] at h2
      have := dep_uniq h2 (dep_child h hc); omega
    · have hn := flt_nodup n fun x => decide (f x = a)
      refine List.Pairwise.imp_of_mem (fun {c c'} hc hc' hne => ?_) hn
      have key : ∀ c, c ∈ fam n f a → ∀ x, x ∈ (blk n f (c, (d : Int))).map Prod.fst → ∃ j, Dep n f (d + 1 + j) x ∧ way f j x = c := fun c hc x hx => by
        obtain ⟨p, hp, e⟩ := List.mem_map.1 hx
        rcases List.mem_cons.1 hp with rfl | hp
        · exact ⟨0, by rw [← e]; exact dep_child h hc, e.symm⟩
        · have hp : p ∈ wst n f (d + 1) c := by simpa using hp
          obtain ⟨j, _, h2, h3⟩ := wst_in _ _ (dep_child h hc) p hp
          rw [e] at h2 h3
          exact ⟨j + 1, h2, h3⟩
      intro x hx x' hx' hxx
      subst hxx
      obtain ⟨j, h1, h2⟩ := key c hc x hx
      obtain ⟨j', h1', h2'⟩ := key c' hc' x hx'
      have := dep_uniq h1 h1'
      exact hne (by rw [← h2, ← h2', show j = j' by omega])
theorem wst_len (h : Dep n f d a) : (wst n f d a).length ≤ n := by
  have := ent_few (n := n) (wst_nodup d a h) (fun z hz => by
    obtain ⟨p, hp, rfl⟩ := List.mem_map.1 hz
    exact (wst_ent h hp).1)
  rwa [List.length_map] at this
theorem wst_ahead : ∀ d a, Dep n f d a → ∀ A p B, wst n f d a = A ++ p :: B → f p.1 = a ∨ f p.1 ∈ A.map Prod.fst :=
  wst_ind fun d a h ih => by
    rw [wst_eq h]
    have : ∀ (K : List Int), (∀ c ∈ K, c ∈ fam n f a) → ∀ A p B, (K.flatMap fun c => blk n f (c, (d : Int))) = A ++ p :: B → f p.1 = a ∨ f p.1 ∈ A.map Prod.fst := by
      intro K
      induction K with
      | nil => intro _ A p B e; simp at e
      | cons c K ihK =>
        intro hK A p B e
        have hc := hK c (by simp)
        rw [List.flatMap_cons] at e
        have hb : blk n f (c, (d : Int)) = (c, (d : Int)) :: wst n f (d + 1) c := by simp [blk]
        rw [hb] at e
        rcases List.append_eq_append_iff.1 e with ⟨C, e1, e2⟩ | ⟨C, e1, e2⟩
        · rcases ihK (fun c' h' => hK c' (List.mem_cons_of_mem _ h')) C p B e2 with q | q
          · exact Or.inl q
          · exact Or.inr (by rw [e1, List.map_append]; exact List.mem_append_right _ q)
        · cases C with
          | nil =>
            rw [List.nil_append] at e2
            rcases ihK (fun c' h' => hK c' (List.mem_cons_of_mem _ h')) [] p B e2.symm with q | q
            · exact Or.inl q
            · cases q
          | cons y C =>
            rw [List.cons_append, List.cons.injEq] at e2
            obtain ⟨rfl, _⟩ := e2
            cases A with
            | nil =>
              rw [List.nil_append, List.cons.injEq] at e1
              rw [← e1.1]; exact Or.inl (mem_fam.1 hc).2
            | cons y' A =>
              rw [List.cons_append, List.cons.injEq] at e1
              rcases ih c hc A p C e1.2 with q | q
              · refine Or.inr ?_
                rw [q, ← e1.1]; simp
              · exact Or.inr (by rw [List.map_cons]; exact List.mem_cons_of_mem _ q)
    exact this (fam n f a) (fun c hc => hc)
end
/-- On the walk: who is told, who waits. -/
structure WkS (n : Nat) (f : Int → Int) (T W : List (Int × Int)) : Prop where
  all : T ++ (W.reverse.flatMap (blk n f)) = wst n f 0 0
  dep : ∀ p ∈ W, 0 ≤ p.2 ∧ Dep n f (p.2.toNat + 1) p.1
section
variable {n : Nat} {f : Int → Int} {T W : List (Int × Int)} {p : Int × Int}
/-- Those right under one, as they wait. -/
def wpu (n : Nat) (f : Int → Int) (a d : Int) : List (Int × Int) := ((fam n f a).map fun c => (c, d)).reverse
theorem wpu_len (n : Nat) (f : Int → Int) (a d : Int) : (wpu n f a d).length ≤ n := by
  unfold wpu; rw [List.length_reverse, List.length_map]; exact fam_len n f a
theorem WkS.start (n : Nat) (f : Int → Int) : WkS n f [] (wpu n f 0 0) := by
  refine ⟨?_, fun p hp => ?_⟩
  · unfold wpu
    rw [List.reverse_reverse, List.nil_append, wst_eq (dep_zero n f), List.flatMap_map]
    rfl
  · unfold wpu at hp
    rw [List.mem_reverse] at hp
    obtain ⟨c, hc, rfl⟩ := List.mem_map.1 hp
    exact ⟨Int.le_refl _, dep_child (dep_zero n f) hc⟩
theorem WkS.pop (h : WkS n f T (W ++ [p])) : WkS n f (T ++ [p]) (W ++ wpu n f p.1 (p.2 + 1)) := by
  obtain ⟨hp0, hpd⟩ := h.dep p (by simp)
  refine ⟨?_, fun q hq => ?_⟩
  · rw [← h.all]
    unfold wpu
    rw [List.reverse_append, List.reverse_reverse, List.reverse_append, List.flatMap_append, List.flatMap_append, List.flatMap_map]
    simp only [List.reverse_cons, List.reverse_nil, List.nil_append, List.flatMap_cons, List.flatMap_nil, List.append_nil]
    rw [List.append_assoc]
    congr 1
    rw [← List.append_assoc]
    congr 1
    show p :: _ = blk n f p
    unfold blk
    rw [wst_eq hpd]
    have : (((p.2.toNat + 1 : Nat)) : Int) = p.2 + 1 := by omega
    rw [this]; rfl
  · rcases List.mem_append.1 hq with q' | q'
    · exact h.dep q (List.mem_append_left _ q')
    · unfold wpu at q'
      rw [List.mem_reverse] at q'
      obtain ⟨c, hc, rfl⟩ := List.mem_map.1 q'
      refine ⟨by show 0 ≤ p.2 + 1; omega, ?_⟩
      show Dep n f ((p.2 + 1).toNat + 1) c
      rw [show (p.2 + 1).toNat = p.2.toNat + 1 by omega]
      exact dep_child hpd hc
theorem WkS.fin (h : WkS n f T []) : T = wst n f 0 0 := by have := h.all; simpa using this
theorem WkS.last (h : WkS n f T (W ++ [p])) : Ent (n : Int) p.1 ∧ 0 ≤ p.2 ∧ p.2 ≤ n := by
  obtain ⟨hp0, hpd⟩ := h.dep p (by simp)
  have := dep_le hpd
  exact ⟨hpd.2 0 (by omega), hp0, by omega⟩
theorem flatMap_len (W : List (Int × Int)) : W.length ≤ (W.flatMap (blk n f)).length := by
  induction W with
  | nil => exact Nat.le_refl _
  | cons p W ih => rw [List.flatMap_cons, List.length_append, List.length_cons]; unfold blk at *; rw [List.length_cons]; omega
theorem WkS.len (h : WkS n f T W) : T.length + W.length ≤ n := by
  have h1 := wst_len (dep_zero n f)
  have h2 := congrArg List.length h.all
  have h3 := flatMap_len (n := n) (f := f) W.reverse
  rw [List.length_append] at h2
  rw [List.length_reverse] at h3
  omega
end
end Go.Proofs.Yteendpdidkekkaa
