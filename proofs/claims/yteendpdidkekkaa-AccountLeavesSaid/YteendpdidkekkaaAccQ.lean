/-
  What is under an account and under its children, told of a tree. No Go function is walked here. No conditions.
-/
import Derived.Test.YteendpdidkekkaaAccT
namespace Go.Proofs.Yteendpdidkekkaa
open Go.RowKit
set_option linter.unusedSimpArgs false
set_option linter.unusedVariables false

theorem up_child {n : Int} {f : Int → Int} (hf : FOk n f) {a : Int} : ∀ x, a ∈ up n f x → x = a ∨ ∃ c, Ent n c ∧ f c = a ∧ c ∈ up n f x :=
  up_ind hf (fun x e h => by rw [up_no e] at h; cases h) (fun x e ih h => by
    have hu := up_yes hf e
    rw [hu] at h
    rcases List.mem_cons.1 h with rfl | h
    · exact Or.inl rfl
    · rcases ih h with q | ⟨c, h1, h2, h3⟩
      · exact Or.inr ⟨x, e, q, by rw [hu]; simp⟩
      · exact Or.inr ⟨c, h1, h2, by rw [hu]; exact List.mem_cons_of_mem _ h3⟩)
theorem hasU_up {n : Nat} {f : Int → Int} (hf : FOk (n : Int) f) {a x : Int} (hx : Ent (n : Int) x) : hasU n f a x = true ↔ a ∈ up n f x := by
  unfold hasU
  rw [ups_up hf hx, up_yes hf hx, Bool.or_eq_true, decide_eq_true_eq, decide_eq_true_eq, List.mem_cons]
  exact ⟨fun q => q.imp Eq.symm id, fun q => q.imp Eq.symm id⟩
theorem unb_is {n : Nat} {f : Int → Int} (hf : FOk (n : Int) f) {a x : Int} (hx : Ent (n : Int) x) : unb n f a x = true ↔ a ∈ up n f x ∧ fam n f x = [] := by
  unfold unb
  rw [Bool.and_eq_true, hasU_up hf hx, decide_eq_true_eq]
theorem mem_unl {n : Nat} {f : Int → Int} (hf : FOk (n : Int) f) {a x : Int} (ha : Ent (n : Int) a) : x ∈ unl n f a ↔ Ent (n : Int) x ∧ a ∈ up n f x ∧ fam n f x = [] := by
  unfold unl
  rw [if_pos ha, mem_flt]
  exact ⟨fun q => ⟨q.1, (unb_is hf q.1).1 q.2⟩, fun q => ⟨q.1, (unb_is hf q.1).2 q.2⟩⟩
theorem flt_ones {a : Int} (ha : 1 ≤ a) : ∀ k : Nat, flt k (fun x => decide (x = a)) = if a ≤ (k : Int) then [a] else []
  | 0 => by rw [if_neg (by omega)]; rfl
  | k + 1 => by
    by_cases e : (k : Int) + 1 = a
    · rw [flt_yes (decide_eq_true e), flt_ones ha k, if_neg (by omega), if_pos (by omega), e]; rfl
    · rw [flt_no (decide_eq_false e), flt_ones ha k]
      by_cases q : a ≤ (k : Int)
      · rw [if_pos q, if_pos (by omega)]
      · rw [if_neg q, if_neg (by omega)]
/-- Under a leaf there is itself. -/
theorem unl_leaf {n : Nat} {f : Int → Int} (hf : FOk (n : Int) f) {a : Int} (ha : Ent (n : Int) a) (h : fam n f a = []) : unl n f a = [a] := by
  unfold unl
  have e : flt n (unb n f a) = flt n (fun x => decide (x = a)) := flt_congr fun x hx => by
    rw [Bool.eq_iff_iff, unb_is hf hx, decide_eq_true_eq]
    constructor
    · rintro ⟨h1, _⟩
      rcases up_child hf x h1 with q | ⟨c, h2, h3, _⟩
      · exact q
      · have := mem_fam.2 ⟨h2, h3⟩
        rw [h] at this; cases this
    · rintro rfl; exact ⟨up_self hf hx, h⟩
  rw [if_pos ha, e, flt_ones ha.1, if_pos ha.2]
theorem unl_some {n : Nat} {f : Int → Int} (hf : FOk (n : Int) f) {a : Int} : ∀ (k : Nat) (x : Int), n + 1 - (up n f x).length ≤ k → Ent (n : Int) x → a ∈ up n f x → ∃ y, Ent (n : Int) y ∧ a ∈ up n f y ∧ fam n f y = []
  | 0, x, hk, _, _ => by have := ups_len hf x; omega
  | k + 1, x, hk, hx, h => by
    by_cases e : fam n f x = []
    · exact ⟨x, hx, h, e⟩
    · obtain ⟨c, hc⟩ := List.exists_mem_of_ne_nil _ e
      obtain ⟨h1, h2⟩ := mem_fam.1 hc
      have hu := up_yes hf h1
      rw [h2] at hu
      exact unl_some hf k c (by rw [hu, List.length_cons]; omega) h1 (by rw [hu]; exact List.mem_cons_of_mem _ h)
theorem unl_pos {n : Nat} {f : Int → Int} (hf : FOk (n : Int) f) {a : Int} (ha : Ent (n : Int) a) : 0 < (unl n f a).length := by
  obtain ⟨y, h1, h2, h3⟩ := unl_some hf _ a (Nat.le_refl _) ha (up_self hf ha)
  exact List.length_pos_of_mem ((mem_unl hf ha).2 ⟨h1, h2, h3⟩)
theorem fam_up {n : Nat} {f : Int → Int} (hf : FOk (n : Int) f) {a c : Int} (hc : c ∈ fam n f a) : up n f c = c :: up n f a := by
  obtain ⟨h1, h2⟩ := mem_fam.1 hc
  rw [up_yes hf h1, h2]
theorem unl_sub {n : Nat} {f : Int → Int} (hf : FOk (n : Int) f) {a c : Int} (ha : Ent (n : Int) a) (hc : c ∈ fam n f a) : ∀ z ∈ unl n f c, z ∈ unl n f a := fun z hz => by
  obtain ⟨h1, h2, h3⟩ := (mem_unl hf (mem_fam.1 hc).1).1 hz
  exact (mem_unl hf ha).2 ⟨h1, up_trans hf h2 (by rw [fam_up hf hc]; exact List.mem_cons_of_mem _ (up_self hf ha)), h3⟩
theorem unl_facts {n : Nat} {f : Int → Int} (hf : FOk (n : Int) f) {a z : Int} (ha : Ent (n : Int) a) (hz : z ∈ unl n f a) : Ent (n : Int) z ∧ lfa n f z = true ∧ (z = a ∨ a ∈ ups n f z) := by
  obtain ⟨h1, h2, h3⟩ := (mem_unl hf ha).1 hz
  refine ⟨h1, by unfold lfa; rw [decide_eq_true h1, decide_eq_true h3]; rfl, ?_⟩
  rw [up_yes hf h1] at h2
  rw [ups_up hf h1]
  exact (List.mem_cons.1 h2).imp Eq.symm id
/-- What is under some of them. -/
def gat (n : Nat) (f : Int → Int) (K : List Int) : List Int := flt n fun x => K.any fun c => unb n f c x
theorem gat_nil (n : Nat) (f : Int → Int) : gat n f [] = [] := by unfold gat flt; simp
theorem gat_len (n : Nat) (f : Int → Int) (K : List Int) : (gat n f K).length ≤ n := flt_len _ _
theorem filter_or (g h : Int → Bool) : ∀ l : List Int, (∀ x ∈ l, g x = true → h x = false) → (l.filter fun x => g x || h x).length = (l.filter g).length + (l.filter h).length
  | [], _ => rfl
  | x :: l, hd => by
    have ih := filter_or g h l fun y hy => hd y (List.mem_cons_of_mem _ hy)
    have hx := hd x (by simp)
    cases hg : g x with
    | true =>
      rw [List.filter_cons_of_pos (by rw [hg]; rfl), List.filter_cons_of_pos hg, List.filter_cons_of_neg (by rw [hx hg]; decide), List.length_cons, List.length_cons, ih]; omega
    | false =>
      rw [List.filter_cons_of_neg (p := g) (by rw [hg]; decide)]
      cases hh : h x with
      | true => rw [List.filter_cons_of_pos (by rw [hg, hh]; rfl), List.filter_cons_of_pos hh, List.length_cons, List.length_cons, ih]; omega
      | false => rw [List.filter_cons_of_neg (by rw [hg, hh]; decide), List.filter_cons_of_neg (by rw [hh]; decide), ih]
theorem gat_snoc {n : Nat} {f : Int → Int} (hf : FOk (n : Int) f) {a c : Int} {K : List Int} (hK : ∀ c ∈ K, c ∈ fam n f a) (hc : c ∈ fam n f a) (hn : ¬ c ∈ K) : (gat n f (K ++ [c])).length = (gat n f K).length + (unl n f c).length := by
  have e : gat n f (K ++ [c]) = flt n fun x => (K.any fun c => unb n f c x) || unb n f c x := flt_congr fun x _ => by rw [List.any_append]; simp
  rw [e]
  unfold gat unl
  rw [if_pos (mem_fam.1 hc).1]
  unfold flt
  refine filter_or _ _ _ fun x hx hg => ?_
  have hx : Ent (n : Int) x := by
    obtain ⟨i, hi, rfl⟩ := List.mem_map.1 hx
    have := List.mem_range.1 hi
    exact ⟨by omega, by omega⟩
  obtain ⟨d, hd, hg⟩ := List.any_eq_true.1 hg
  cases hb : unb n f c x with
  | false => rfl
  | true =>
    exfalso
    have h1 := ((unb_is hf hx).1 hg).1
    have h2 := ((unb_is hf hx).1 hb).1
    have key : ∀ c d, c ∈ fam n f a → d ∈ fam n f a → c ∈ up n f d → c = d := fun c d hc hd q => by
      rw [fam_up hf hd] at q
      rcases List.mem_cons.1 q with q | q
      · exact q
      · obtain ⟨k1, k2⟩ := mem_fam.1 hc
        rw [← k2] at q
        exact absurd q (up_new hf k1)
    rcases up_lin hf x h1 h2 with q | q
    · exact hn (key d c (hK d hd) hc q ▸ hd)
    · exact hn ((key c d hc (hK d hd) q).symm ▸ hd)
theorem gat_all {n : Nat} {f : Int → Int} (hf : FOk (n : Int) f) {a : Int} (ha : Ent (n : Int) a) (h : fam n f a ≠ []) : gat n f (fam n f a) = unl n f a := by
  unfold gat unl
  rw [if_pos ha]
  refine flt_congr fun x hx => ?_
  rw [Bool.eq_iff_iff, List.any_eq_true, unb_is hf hx]
  constructor
  · rintro ⟨c, hc, q⟩
    obtain ⟨h1, h2⟩ := (unb_is hf hx).1 q
    exact ⟨up_trans hf h1 (by rw [fam_up hf hc]; exact List.mem_cons_of_mem _ (up_self hf ha)), h2⟩
  · rintro ⟨h1, h2⟩
    rcases up_child hf x h1 with q | ⟨c, k1, k2, k3⟩
    · rw [q] at h2; exact absurd h2 h
    · exact ⟨c, mem_fam.2 ⟨k1, k2⟩, (unb_is hf hx).2 ⟨k3, h2⟩⟩
theorem gat_step {n : Nat} {f : Int → Int} (hf : FOk (n : Int) f) {a : Int} {j : Nat} (hj : j < (fam n f a).length) : (gat n f ((fam n f a).take (j + 1))).length = (gat n f ((fam n f a).take j)).length + (unl n f ((fam n f a).getD j 0)).length := by
  have hnd : (fam n f a).Nodup := flt_nodup _ _
  have hm : (fam n f a).getD j 0 ∈ fam n f a := by rw [getD_lt _ _ hj]; exact List.getElem_mem hj
  have e : (fam n f a).take (j + 1) = (fam n f a).take j ++ [(fam n f a).getD j 0] := by rw [List.take_succ_eq_append_getElem hj, getD_lt _ _ hj]
  rw [e]
  refine gat_snoc hf (fun c hc => List.mem_of_mem_take hc) hm fun q => ?_
  have h2 : ((fam n f a).take (j + 1)).Nodup := hnd.sublist (List.take_sublist _ _)
  rw [e, List.nodup_append] at h2
  exact h2.2.2 _ q _ (by simp) rfl
theorem chs_fam {n : Nat} {f : Int → Int} {a : Int} (ha : Ent (n : Int) a) : chs n f a = fam n f a := if_pos ha
theorem lfa_fam {n : Nat} {f : Int → Int} {a : Int} (ha : Ent (n : Int) a) : lfa n f a = decide (fam n f a = []) := by unfold lfa; rw [decide_eq_true ha]; rfl
end Go.Proofs.Yteendpdidkekkaa
