/-
  The landed families: for none and for each account a row of those right under it; rows of rows, each in a block of its own. The condition: at most 1000 accounts.
-/
import Derived.Test.YteendpdidkekkaaAccC
import Derived.Test.YteendpdidkekkaaPsh
import Derived.Deep.QuietTactic
import Derived.BigQuiet
import Derived.WalkSmall
import Derived.Deep.DeepCutAuto
import Derived.Deep.RegionHeld3
import Derived.IntWalk
namespace Go.Proofs.Yteendpdidkekkaa
open Go.RowKit
set_option linter.unusedSimpArgs false
set_option linter.unusedVariables false

theorem rows20 : (Try.prog.info? 30).map (fun i => (i.zero, i.size, i.bytes)) = some (some (.slice none 0 0), 1, 24) := by kernel_rfl
/-- A row of rows at B, each in a block of its own, all laid from base on. -/
structure FamF (w : World) (base B m : Nat) (u : Nat → Value) (r : Nat → List Int) : Prop where
  le : base ≤ B
  lt : B < w.heap.size
  cel : ∀ j, j < m → w.cell? ⟨B, j, none⟩ = some (u j)
  fro : ∀ j, j < m → w.frozen? ⟨B, j, none⟩ = false
  row : ∀ j, j < m → Own w base (u j) (r j)
  ap : ∀ i j, i < m → j < m → i ≠ j → ∀ b, (u i).ownBlock = some b → (u j).ownBlock ≠ some b
  ne : ∀ j, j < m → (u j).ownBlock ≠ some B
section
variable {w w' : World} {base B m : Nat} {u : Nat → Value} {r r' : Nat → List Int}
theorem FamF.below (h : FamF w base B m u r) (hb : Below w.heap.size w w') : FamF w' base B m u r :=
  ⟨h.le, Nat.lt_of_lt_of_le h.lt hb.size, fun j hj => (hb.cell (p := ⟨B, j, none⟩) h.lt).trans (h.cel j hj), fun j hj => (hb.frozen (p := ⟨B, j, none⟩) h.lt).trans (h.fro j hj), fun j hj => (h.row j hj).below hb, h.ap, h.ne⟩
theorem FamF.congr (h : FamF w base B m u r) (e : ∀ j, j < m → r j = r' j) : FamF w base B m u r' := ⟨h.le, h.lt, h.cel, h.fro, fun j hj => by rw [← e j hj]; exact h.row j hj, h.ap, h.ne⟩
theorem FamF.made (w : World) (m : Nat) : FamF (w.alloc (.cells (madeCells #[.slice none 0 0] m) 30)) w.heap.size w.heap.size m (fun _ => .slice none 0 0) (fun _ => []) := by
  have hn := heap_alloc_new w (.cells (madeCells #[.slice none 0 0] m) 30)
  refine ⟨Nat.le_refl _, by simp, fun j hj => ?_, fun j hj => ?_, fun j _ => Own.nil _ _, fun i j _ _ _ b q => (by cases q), fun j _ q => (by cases q)⟩
  · have e : (madeCells #[Value.slice none 0 0] m)[j]? = some (.slice none 0 0) := by rw [← Array.getElem?_toList, toList_madeCells_one, List.getElem?_replicate, if_pos hj]
    unfold World.cell?; rw [hn]; exact e
  · unfold World.frozen?; rw [hn]; rfl
theorem own_keep {v : Value} {L : List Int} (h : Own w base v L) (hk : ∀ b, v.ownBlock = some b → w'.heap[b]? = w.heap[b]?) : Own w' base v L := by
  refine ⟨h.1, ?_⟩
  rcases h.2 with q | ⟨g, cap, cur, rfl, h2, h3, h4⟩
  · exact Or.inl q
  · exact Or.inr ⟨g, cap, cur, rfl, h2, (hk g rfl).trans h3, h4⟩
theorem FamF.put {Z Z1 : World} {j : Nat} {x : Value} {l : List Int} (h : FamF w base B m u r) (hj : j < m) (hZ : Below w.heap.size w Z) (hbw : base ≤ w.heap.size) (ho : Own Z1 base x l) (hg : Turn (fun i => (u j).ownBlock = some i) Z Z1) (hl : x.ownBlock = (u j).ownBlock ∨ x.ownBlock = some Z.heap.size) :
    FamF (Z1.setCell ⟨B, j, none⟩ x) base B m (fun i => if i = j then x else u i) (fun i => if i = j then l else r i) ∧ Below base w (Z1.setCell ⟨B, j, none⟩ x) := by
  have hlt : ∀ i, i < m → ∀ b, (u i).ownBlock = some b → base ≤ b ∧ b < w.heap.size := fun i hi b q => World.ownsRow.lt (h.row i hi) b q
  have hg2 : Turn (fun i => i = B) Z1 (Z1.setCell ⟨B, j, none⟩ x) := turn_set (F := fun i => i = B) (p := ⟨B, j, none⟩) (Turn.refl _ _) (Or.inl (show B = B from rfl)) _
  have hBZ : B < Z.heap.size := Nat.lt_of_lt_of_le h.lt hZ.size
  have hB1 : B < Z1.heap.size := Nat.lt_of_lt_of_le hBZ hg.size
  have hxb : ∀ b, x.ownBlock = some b → b ≠ B := by
    intro b q
    rcases hl with e | e
    · rw [e] at q; intro r; subst r; exact h.ne j hj q
    · rw [e] at q; cases q; omega
  have c1 : ∀ i, i < m → Z1.cell? ⟨B, i, none⟩ = some (u i) := fun i hi => (hg.cell (a := ⟨B, i, none⟩) hBZ (h.ne j hj)).trans ((hZ.cell (p := ⟨B, i, none⟩) h.lt).trans (h.cel i hi))
  have f1 : ∀ i, i < m → Z1.frozen? ⟨B, i, none⟩ = false := fun i hi => (hg.frozen (a := ⟨B, i, none⟩) hBZ (h.ne j hj)).trans ((hZ.frozen (p := ⟨B, i, none⟩) h.lt).trans (h.fro i hi))
  refine ⟨⟨h.le, Nat.lt_of_lt_of_le hB1 hg2.size, fun i hi => ?_, fun i hi => ?_, fun i hi => ?_, ?_, ?_⟩, ?_⟩
  · by_cases e : i = j
    · subst e; rw [if_pos rfl]; exact World.cell?_setCell_same _ _ _ (c1 i hi)
    · rw [if_neg e, World.cell?_setCell_other _ _ _ _ (fun q => e (by cases q; rfl))]; exact c1 i hi
  · rw [World.frozen?_setCell]; exact f1 i hi
  · by_cases e : i = j
    · subst e; rw [if_pos rfl, if_pos rfl]
      exact own_keep ho fun b q => hg2.block b (World.ownsRow.lt ho b q).2 (hxb b q)
    · rw [if_neg e, if_neg e]
      refine own_keep (h.row i hi) fun b q => ?_
      have hb1 := (hlt i hi b q).2
      rw [hg2.block b (Nat.lt_of_lt_of_le (Nat.lt_of_lt_of_le hb1 hZ.size) hg.size) (fun r => h.ne i hi (r ▸ q)), hg.block b (Nat.lt_of_lt_of_le hb1 hZ.size) (fun r => h.ap i j hi hj e b q r), hZ.block b hb1]
  · intro i i' hi hi' hne b q r
    have q : (if i = j then x else u i).ownBlock = some b := q
    have r : (if i' = j then x else u i').ownBlock = some b := r
    by_cases e1 : i = j
    · have e2 : i' ≠ j := fun e => hne (e1.trans e.symm)
      rw [if_pos e1] at q
      rw [if_neg e2] at r
      rcases hl with e | e
      · rw [e] at q; exact h.ap j i' hj hi' (fun e => e2 e.symm) b q r
      · rw [e] at q; cases q
        have := (hlt i' hi' _ r).2; have := hZ.size; omega
    · rw [if_neg e1] at q
      by_cases e2 : i' = j
      · rw [if_pos e2] at r
        rcases hl with e | e
        · rw [e] at r; exact h.ap i j hi hj e1 b q r
        · rw [e] at r; cases r
          have := (hlt i hi _ q).2; have := hZ.size; omega
      · rw [if_neg e2] at r
        exact h.ap i i' hi hi' hne b q r
  · intro i hi q
    have q : (if i = j then x else u i).ownBlock = some B := q
    by_cases e : i = j
    · rw [if_pos e] at q; exact hxb B q rfl
    · rw [if_neg e] at q; exact h.ne i hi q
  · have b1 : Below base w Z := hZ.mono hbw
    have b2 : Below base Z Z1 := hg.below (fun i q => (hlt j hj i q).1) (Nat.le_trans hbw hZ.size)
    have b3 : Below base Z1 (Z1.setCell ⟨B, j, none⟩ x) := hg2.below (fun i q => by have := h.le; omega) (Nat.le_trans (Nat.le_trans hbw hZ.size) hg.size)
    exact (b1.trans b2).trans b3
end
/-- A row of rows as it reads. -/
def FamR (w : World) (B m : Nat) (r : Nat → List Int) : Prop := ∀ j, j < m → ∃ v, w.cell? ⟨B, j, none⟩ = some v ∧ Sl w v (r j)
theorem FamR.below {w w' : World} {B m : Nat} {r : Nat → List Int} (h : FamR w B m r) (hb : Below w.heap.size w w') : FamR w' B m r := fun j hj => by
  obtain ⟨v, h1, h2⟩ := h j hj
  exact ⟨v, (hb.cell (p := ⟨B, j, none⟩) (World.block_lt_of_cell? w _ h1)).trans h1, h2.below hb⟩
theorem FamF.reads {w : World} {base B m : Nat} {u : Nat → Value} {r : Nat → List Int} (h : FamF w base B m u r) (hr : ∀ j, ∀ z ∈ r j, InR z) : FamR w B m r := fun j hj => ⟨u j, h.cel j hj, (h.row j hj).sl (hr j)⟩
/-- The rows of so many of the accounts. -/
def fmk (L : List AcT) (k : Nat) (j : Nat) : List Int := flt k fun x => decide (pa L x = (j : Int))
theorem fmk_in (L : List AcT) (k : Nat) (hk : k ≤ 1000) (j : Nat) : ∀ z ∈ fmk L k j, InR z := flt_in hk _
theorem fmk_all (L : List AcT) (j : Nat) : fmk L L.length j = fam L.length (pa L) (j : Int) := rfl
theorem fmk_yes {L : List AcT} {k j : Nat} (hk : k < L.length) (h : (L.getD k zA).1 = (j : Int)) (i : Nat) : (if i = j then fmk L k j ++ [(k : Int) + 1] else fmk L k i) = fmk L (k + 1) i := by
  unfold fmk
  by_cases e : i = j
  · subst e
    rw [if_pos rfl, flt_yes (by rw [pa_at hk, h]; simp)]
  · rw [if_neg e, flt_no (by rw [pa_at hk, h]; simp; omega)]
theorem fmk_no {L : List AcT} {k : Nat} (hk : k < L.length) (h0 : (L.getD k zA).1 ≠ 0) (h : ¬ Ent (L.length : Int) (L.getD k zA).1) (i : Nat) (hi : i < L.length + 1) : fmk L k i = fmk L (k + 1) i := by
  unfold fmk
  rw [flt_no (by rw [pa_at hk]; exact decide_eq_false (fun q => by rw [q] at h h0; unfold Ent at h; omega))]
set_option maxHeartbeats 8000000 in
set_option maxRecDepth 100000 in
theorem families_c (a : Option Addr) (c : Nat) (L : List AcT) (w : World) (hL : RdA w a L) (hn : L.length ≤ 1000) :
    Calls Try.prog 45 #[.slice a L.length c] w fun e w' => e = .returned (.slice (some ⟨w.heap.size, 0, none⟩) (L.length + 1) (L.length + 1)) ∧ FamR w' w.heap.size (L.length + 1) (fun j => fam L.length (pa L) (j : Int)) ∧ Below w.heap.size w w' := by
  obtain ⟨m, hm⟩ : ∃ m, m = L.length + 1 := ⟨_, rfl⟩
  obtain ⟨ii, hi, hz0, hz1, hz2⟩ := info_parts rows20
  have hmk : (Instr.makeSlice 62 (.int .i64 m) (.int .i64 m)).run Try.prog w = .ok (.slice (some ⟨w.heap.size, 0, none⟩) m m) (w.alloc (.cells (madeCells #[.slice none 0 0] m) 30)) := by
    have := run_makeSlice (P := Try.prog) (w := w) 62 30 ii (.slice none 0 0) Try.underlying62 hi hz0 .i64 .i64 m m (by omega) (by omega) (by rw [hz1]; omega) (by rw [hz2]; omega) (by omega)
    rw [hz1] at this; simpa [Value.cells] using this
  have hmi : (m : Int) = (L.length : Int) + 1 := by omega
  rw [hmi] at hmk
  have e0 : wrap64 ((L.length : Int) + 1) = (L.length : Int) + 1 := by unfold wrap64; omega
  have HL := Lib.hid hL
  have HM : Hid (m = L.length + 1 ∧ m ≤ 1001) := ⟨hm, by omega⟩
  have HF0 := Lib.hid (FamF.made w m)
  have HB0 := Lib.hid (below1 w (.cells (madeCells #[.slice none 0 0] m) 30))
  rw [← hm]
  clear hi hz0 hz1 hz2 ii hL hm hmi
  go_enter Try.func45, Try.ntmps45
  go_wp2_with fail
  clear hmk e0
  go_loopw [12] (fun i wr => ∃ k : Nat, k ≤ L.length ∧ i = .int .i64 (k : Int) ∧ (∃ u, FamF wr w.heap.size w.heap.size m u (fmk L k)) ∧ Below w.heap.size w wr) (fun i _ => L.length - (RowKit.intOf i).toNat)
  case atStart => exact ⟨0, Nat.zero_le _, rfl, ⟨_, HF0.out⟩, HB0.out⟩
  case round =>
    clear HF0 HB0
    obtain ⟨k, hk, rfl, ⟨u, hF⟩, hb⟩ := hrel
    have HF := Lib.hid hF
    have HB := Lib.hid hb
    by_cases hlt : k < L.length
    · obtain ⟨b, off, rfl, d0, d1, d2, d3⟩ := (HL.out.below hb).2 k hlt
      have i0 : (0 : Int) ≤ (k : Int) := by omega
      have i1 : (k : Int) < (L.length : Int) := by omega
      have HY : Hid (∀ j : Nat, (L.getD k zA).1 = (j : Int) → ∀ i, (if i = j then fmk L k j ++ [(k : Int) + 1] else fmk L k i) = fmk L (k + 1) i) := fun j h => fmk_yes hlt h
      have HN : Hid ((L.getD k zA).1 ≠ 0 → ¬ Ent (L.length : Int) (L.getD k zA).1 → ∀ i, i < m → fmk L k i = fmk L (k + 1) i) := fun h0 h i hi => fmk_no hlt h0 h i (by have := HM.out; omega)
      have HLN : Hid (∀ j, (fmk L k j).length ≤ 1000) := fun j => by have := flt_len k (fun x => decide (pa L x = (j : Int))); show _ ≤ _; unfold fmk; omega
      have HKK : Hid (k < L.length ∧ L.length ≤ 1000) := ⟨hlt, hn⟩
      generalize (L.getD k zA).1 = p at *
      generalize (L.getD k zA).2.1 = kd at *
      generalize (L.getD k zA).2.2.1 = sp at *
      generalize (L.getD k zA).2.2.2 = pt at *
      have hbs := below1 wr (.cells #[.int .i64 p, .int .i64 kd, .bool sp, .bool pt] 35)
      have HBS := Lib.hid hbs
      obtain ⟨g0, g1, g2, g3, -⟩ := Ow4.new wr (.int .i64 p) (.int .i64 kd) (.bool sp) (.bool pt) 35
      have HFS := Lib.hid (hF.below hbs)
      have HBB := Lib.hid (hb.trans (hbs.mono hb.size))
      have hsz : (wr.alloc (.cells #[.int .i64 p, .int .i64 kd, .bool sp, .bool pt] 35)).heap.size = wr.heap.size + 1 := by simp
      have HSZ := Lib.hid hsz
      clear hF hb hbs hsz hk hlt
      by_cases hE : p = 0 ∨ Ent (L.length : Int) p
      · obtain ⟨j, rfl⟩ : ∃ j : Nat, p = (j : Int) := ⟨p.toNat, by unfold Ent at hE; omega⟩
        have HJ : Hid (j < m) := by have := HM.out; show j < m; unfold Ent at hE; omega
        clear hE
        have hj0 : (0 : Int) ≤ (j : Int) := by omega
        have hj1 : (j : Int) < (m : Int) := by have := HJ.out; omega
        obtain ⟨v, hv⟩ : ∃ v, u j = v := ⟨_, rfl⟩
        have HV := Lib.hid hv
        have HCK : Hid (∀ X, Below (wr.alloc (.cells #[.int .i64 (j : Int), .int .i64 kd, .bool sp, .bool pt] 35)).heap.size (wr.alloc (.cells #[.int .i64 (j : Int), .int .i64 kd, .bool sp, .bool pt] 35)) X → X.cell? ⟨w.heap.size, j, none⟩ = some v) := fun X hX => by rw [← hv]; exact (HFS.out.below hX).cel j HJ.out
        have HBN : Hid (w.heap.size ≠ wr.heap.size) := fun q => by have := HF.out.lt; omega
        have HNB : Hid (∀ i, v.ownBlock = some i → i ≠ wr.heap.size) := fun i q r => by have := (World.ownsRow.lt (HF.out.row j HJ.out) i (by rw [hv]; exact q)).2; omega
        obtain ⟨va, vc, hva⟩ := (HF.out.row j HJ.out).sl (fmk_in L k (by have := HKK.out; omega) j) |>.form
        have HVA : Hid (v = .slice va (fmk L k j).length vc) := hv.symm.trans hva
        have hS : Hid (∀ wz, Below (wr.alloc (.cells #[.int .i64 (j : Int), .int .i64 kd, .bool sp, .bool pt] 35)).heap.size (wr.alloc (.cells #[.int .i64 (j : Int), .int .i64 kd, .bool sp, .bool pt] 35)) wz → wz.cell? ⟨wr.heap.size, 0, none⟩ = some (.int .i64 (j : Int))) := fun wz q => by
          exact (q.cell (p := ⟨wr.heap.size, 0, none⟩) (by have := HSZ.out; show wr.heap.size < _; omega)).trans g0
        have HYJ := Lib.hid (HY.out j rfl)
        have j0 : (0 : Int) ≤ (j : Int) := by omega
        have j1 : (j : Int) < (m : Int) := by have := HJ.out; omega
        have y1 : IntKind.i64.wrap ((k : Int) + 1) = (k : Int) + 1 := IntWalk.i64_in _ (by have := HKK.out; omega)
        have y2 : wrap64 ((k : Int) + 1) = (k : Int) + 1 := by have := HKK.out; unfold wrap64; omega
        clear hv hva g1 g2 g3
        clear HN
        by_cases hz : j = 0
        · have tz : ((j : Int) == 0) = true := by simpa using hz
          clear hz
          go_upto_region 6 with fail
          generalize wr.alloc (.cells #[.int .i64 (j : Int), .int .i64 kd, .bool sp, .bool pt] 35) = W at *
          obtain ⟨bs, hbs⟩ : ∃ bs, bs = wr.heap.size := ⟨_, rfl⟩
          rw [← hbs] at HBN HNB hS ⊢
          clear g0 hbs
          generalize hy : (k : Int) + 1 = y at *
          refine wp_region_held_drew (S := fun wz => wz.cell? ⟨bs, 0, none⟩ = some (.int .i64 (j : Int))) (by kernel_rfl) (hS.out _ (Below.refl _ _).drew) (fun hHeld => ?_)
          refine wpAnyH_take (i := 0) (v := ?_) rfl (by kernel_rfl) (by kernel_rfl) (by kernel_rfl) (fun _ _ _ h => h) (Or.inl ⟨by rfl, ?y0⟩) (by assumption) ?_
          case y0 => intro w hSw; (try dsimp only at hSw); go_simp; (try with_reducible rfl)
          (try simp only [Act.put, List.setIfInBounds_toArray, List.set_cons_zero, List.set_cons_succ, List.getElem_toArray, List.getElem_cons_zero, List.getElem_cons_succ])
          refine wpAnyH_take (i := 1) (v := ?_) rfl (by kernel_rfl) (by kernel_rfl) (by kernel_rfl) (fun _ _ _ h => h) (Or.inl ⟨by rfl, ?y1⟩) (by assumption) ?_
          case y1 => intro w hSw; (try dsimp only at hSw); go_simp; (try with_reducible rfl)
          (try simp only [Act.put, List.setIfInBounds_toArray, List.set_cons_zero, List.set_cons_succ, List.getElem_toArray, List.getElem_cons_zero, List.getElem_cons_succ])
          refine wpAnyH_take (i := 2) (v := ?_) rfl (by kernel_rfl) (by kernel_rfl) (by kernel_rfl) (fun _ _ _ h => h) (Or.inl ⟨by rfl, ?y2⟩) (by assumption) ?_
          case y2 => intro w hSw; (try dsimp only at hSw); go_simp; (try with_reducible rfl)
          (try simp only [Act.put, List.setIfInBounds_toArray, List.set_cons_zero, List.set_cons_succ, List.getElem_toArray, List.getElem_cons_zero, List.getElem_cons_succ])
          refine wpAnyH_take (i := 3) (v := ?_) rfl (by kernel_rfl) (by kernel_rfl) (by kernel_rfl) (fun _ _ _ h => h) (Or.inl ⟨by rfl, ?y3⟩) (by assumption) ?_
          case y3 => intro w hSw; (try dsimp only at hSw); go_simp; (try with_reducible rfl)
          (try simp only [Act.put, List.setIfInBounds_toArray, List.set_cons_zero, List.set_cons_succ, List.getElem_toArray, List.getElem_cons_zero, List.getElem_cons_succ])
          refine wpAnyH_take (i := 4) (v := ?_) rfl (by kernel_rfl) (by kernel_rfl) (by kernel_rfl) (fun _ _ _ h => h) (Or.inl ⟨by rfl, ?y4⟩) (by assumption) ?_
          case y4 => intro w hSw; (try dsimp only at hSw); go_simp; (try with_reducible rfl)
          (try simp only [Act.put, List.setIfInBounds_toArray, List.set_cons_zero, List.set_cons_succ, List.getElem_toArray, List.getElem_cons_zero, List.getElem_cons_succ])
          refine wpAnyH_take (i := 5) (v := ?_) rfl (by kernel_rfl) (by kernel_rfl) (by kernel_rfl) (fun _ _ _ h => h) (Or.inl ⟨by rfl, ?y5⟩) (by assumption) ?_
          case y5 => intro w hSw; (try dsimp only at hSw); go_simp; (try with_reducible rfl)
          (try simp only [Act.put, List.setIfInBounds_toArray, List.set_cons_zero, List.set_cons_succ, List.getElem_toArray, List.getElem_cons_zero, List.getElem_cons_succ])
          refine wpAnyH_take (i := 6) (v := ?_) rfl (by kernel_rfl) (by kernel_rfl) (by kernel_rfl) (fun _ _ _ h => h) (Or.inl ⟨by rfl, ?y6⟩) (by assumption) ?_
          case y6 => intro w hSw; (try dsimp only at hSw); go_simp; (try with_reducible rfl)
          (try simp only [Act.put, List.setIfInBounds_toArray, List.set_cons_zero, List.set_cons_succ, List.getElem_toArray, List.getElem_cons_zero, List.getElem_cons_succ])
          refine wpAnyH_take (i := 8) (v := ?_) rfl (by kernel_rfl) (by kernel_rfl) (by kernel_rfl) (fun _ _ _ h => h) (Or.inl ⟨by rfl, ?y8⟩) (by assumption) ?_
          case y8 => intro w hSw; (try dsimp only at hSw); go_simp; (try with_reducible rfl)
          (try simp only [Act.put, List.setIfInBounds_toArray, List.set_cons_zero, List.set_cons_succ, List.getElem_toArray, List.getElem_cons_zero, List.getElem_cons_succ])
          refine wpAnyH_take (i := 9) (v := ?_) rfl (by kernel_rfl) (by kernel_rfl) (by kernel_rfl) (fun _ _ _ h => h) (Or.inl ⟨by rfl, ?y9⟩) (by assumption) ?_
          case y9 => intro w hSw; (try dsimp only at hSw); go_simp; (try with_reducible rfl)
          (try simp only [Act.put, List.setIfInBounds_toArray, List.set_cons_zero, List.set_cons_succ, List.getElem_toArray, List.getElem_cons_zero, List.getElem_cons_succ])
          refine wpAnyH_ready (rs := [7, 10]) (by kernel_rfl) (by simp) ?_
          refine AllReadyH.cons rfl (fun KK hKK => ?_) (AllReadyH.cons rfl (fun KK hKK => ?_) AllReadyH.nil)
          · skip
            have hck := HCK.out (W.drew) ((Below.refl _ _).drew)
            go_simp
            clear hck
            refine hKK.out _ _ (hS.out _ ((Below.refl _ _).drew)) (fun hHeld => ?_)
            clear hKK KK
            (try simp only [Act.put, List.setIfInBounds_toArray, List.set_cons_zero, List.set_cons_succ, List.getElem_toArray, List.getElem_cons_zero, List.getElem_cons_succ])
            refine wpAnyH_ready (rs := [10]) (by kernel_rfl) (by simp) ?_
            refine AllReadyH.cons rfl (fun KK hKK => ?_) AllReadyH.nil
            go_simp
            have HZ : Hid (Below W.heap.size W (W.alloc (.cells #[.int .i64 y] 3)).drew) := (below1 W (.cells #[.int .i64 y] 3)).drew
            have HNN : Hid (SlC (W.alloc (.cells #[.int .i64 y] 3)).drew (.slice (some ⟨W.heap.size, 0, none⟩) 1 1) 1 1 (ints [y])) := (one_a W y).below (Below.refl _ _).drew
            refine hKK.out _ _ (hS.out _ HZ.out) (fun hHeld => ?_)
            clear hKK KK
            (try simp only [Act.put, List.setIfInBounds_toArray, List.set_cons_zero, List.set_cons_succ, List.getElem_toArray, List.getElem_cons_zero, List.getElem_cons_succ])
            generalize (W.alloc (.cells #[.int .i64 y] 3)).drew = Z at *
            refine wpAnyH_ready (rs := [11]) (by kernel_rfl) (by simp) ?_
            refine AllReadyH.cons rfl (fun KK hKK => ?_) AllReadyH.nil
            refine step_pushS rfl (.tmp 33) (.tmp 36) 30 rfl w.heap.size 3 1 8 (.int .i64 0) Try.underlying30 int_info rfl (by decide) v (fmk L k j).length ((fmk L k j).map (Value.int .i64)) (by simp [Act.eval, Act.put]) (by have q := (HFS.out.below HZ.out).row j HJ.out; rw [HV.out] at q; exact q) (.slice (some ⟨W.heap.size, 0, none⟩) 1 1) 1 (ints [y]) (by simp [Act.eval, Act.put]) HNN.out (ints_one _) (by decide) (by have := HLN.out j; omega) (by decide) (Nat.le_trans HBB.out.size HZ.out.size) ?_
            intro v5 w5 ho5 hg5 hl5
            have ht5 := turn_grown hg5
            have ho6 : Own w5 w.heap.size v5 (fmk L k j ++ [y]) := by
              show World.ownsRow _ _ _ _ _ _ _
              rw [List.length_append, List.map_append]; exact ho5
            have hp := HFS.out.put HJ.out HZ.out HBB.out.size ho6 (by rw [HV.out]; exact ht5) (by rw [HV.out]; exact hl5)
            have hS5 : w5.cell? ⟨bs, 0, none⟩ = some (.int .i64 (j : Int)) := by
              have q := hS.out Z HZ.out
              exact (ht5.cell (a := ⟨bs, 0, none⟩) (World.block_lt_of_cell? Z _ q) (fun r => HNB.out bs r rfl)).trans q
            have hB5 : w5.cell? ⟨w.heap.size, j, none⟩ = some v := (ht5.cell (a := ⟨w.heap.size, j, none⟩) (HFS.out.below HZ.out).lt (fun r => HFS.out.ne j HJ.out (by rw [HV.out]; exact r))).trans (HCK.out Z HZ.out)
            have hB6 : w5.frozen? ⟨w.heap.size, j, none⟩ = false := (ht5.frozen (a := ⟨w.heap.size, j, none⟩) (HFS.out.below HZ.out).lt (fun r => HFS.out.ne j HJ.out (by rw [HV.out]; exact r))).trans ((HFS.out.below HZ.out).fro j HJ.out)
            have hS6 : (w5.setCell ⟨w.heap.size, j, none⟩ v5).cell? ⟨bs, 0, none⟩ = some (.int .i64 (j : Int)) := by rw [World.cell?_setCell_other _ _ _ _ (fun q => HBN.out (by cases q; rfl))]; exact hS5
            have HS6 := Lib.hid hS6
            have HFIN : Hid ((∃ u, FamF (w5.setCell ⟨w.heap.size, j, none⟩ v5) w.heap.size w.heap.size m u (fmk L (k + 1))) ∧ Below w.heap.size w (w5.setCell ⟨w.heap.size, j, none⟩ v5)) := ⟨⟨_, hp.1.congr (fun i hi => HYJ.out i)⟩, HBB.out.trans hp.2⟩
            obtain ⟨a5, c5, hv5⟩ := (ownsRow_slc ho5).form
            subst hv5
            clear ho5 hg5 hl5 ht5 ho6 hp hS6
            refine hKK.out _ _ (hS5) (fun hHeld => ?_)
            clear hKK KK
            (try simp only [Act.put, List.setIfInBounds_toArray, List.set_cons_zero, List.set_cons_succ, List.getElem_toArray, List.getElem_cons_zero, List.getElem_cons_succ])
            refine wpAnyH_take (i := 12) (v := ?_) rfl (by kernel_rfl) (by kernel_rfl) (by kernel_rfl) (fun _ _ _ h => h) (Or.inl ⟨by rfl, ?y12⟩) (by assumption) ?_
            case y12 => intro w hSw; (try dsimp only at hSw); go_simp; (try with_reducible rfl)
            (try simp only [Act.put, List.setIfInBounds_toArray, List.set_cons_zero, List.set_cons_succ, List.getElem_toArray, List.getElem_cons_zero, List.getElem_cons_succ])
            refine wpAnyH_ready (rs := [13]) (by kernel_rfl) (by simp) ?_
            refine AllReadyH.cons rfl (fun KK hKK => ?_) AllReadyH.nil
            go_simp
            clear hB5 hB6 hS5
            refine hKK.out _ _ (HS6.out) (fun hHeld => ?_)
            clear hKK KK
            (try simp only [Act.put, List.setIfInBounds_toArray, List.set_cons_zero, List.set_cons_succ, List.getElem_toArray, List.getElem_cons_zero, List.getElem_cons_succ])
            refine wpAnyH_done (by kernel_rfl) ?_ _
            go_wp2_with fail
            go_roundw
            · exact ⟨k + 1, by have := HKK.out; omega, by go_num, HFIN.out.1, HFIN.out.2⟩
            · have := HKK.out; simp [RowKit.intOf]; omega
          · skip
            go_simp
            have HZ : Hid (Below W.heap.size W (W.alloc (.cells #[.int .i64 y] 3)).drew) := (below1 W (.cells #[.int .i64 y] 3)).drew
            have HNN : Hid (SlC (W.alloc (.cells #[.int .i64 y] 3)).drew (.slice (some ⟨W.heap.size, 0, none⟩) 1 1) 1 1 (ints [y])) := (one_a W y).below (Below.refl _ _).drew
            refine hKK.out _ _ (hS.out _ HZ.out) (fun hHeld => ?_)
            clear hKK KK
            (try simp only [Act.put, List.setIfInBounds_toArray, List.set_cons_zero, List.set_cons_succ, List.getElem_toArray, List.getElem_cons_zero, List.getElem_cons_succ])
            generalize (W.alloc (.cells #[.int .i64 y] 3)).drew = Z at *
            refine wpAnyH_ready (rs := [7]) (by kernel_rfl) (by simp) ?_
            refine AllReadyH.cons rfl (fun KK hKK => ?_) AllReadyH.nil
            have hck := HCK.out (Z) (HZ.out)
            go_simp
            clear hck
            refine hKK.out _ _ (hS.out _ (HZ.out)) (fun hHeld => ?_)
            clear hKK KK
            (try simp only [Act.put, List.setIfInBounds_toArray, List.set_cons_zero, List.set_cons_succ, List.getElem_toArray, List.getElem_cons_zero, List.getElem_cons_succ])
            refine wpAnyH_ready (rs := [11]) (by kernel_rfl) (by simp) ?_
            refine AllReadyH.cons rfl (fun KK hKK => ?_) AllReadyH.nil
            refine step_pushS rfl (.tmp 33) (.tmp 36) 30 rfl w.heap.size 3 1 8 (.int .i64 0) Try.underlying30 int_info rfl (by decide) v (fmk L k j).length ((fmk L k j).map (Value.int .i64)) (by simp [Act.eval, Act.put]) (by have q := (HFS.out.below HZ.out).row j HJ.out; rw [HV.out] at q; exact q) (.slice (some ⟨W.heap.size, 0, none⟩) 1 1) 1 (ints [y]) (by simp [Act.eval, Act.put]) HNN.out (ints_one _) (by decide) (by have := HLN.out j; omega) (by decide) (Nat.le_trans HBB.out.size HZ.out.size) ?_
            intro v5 w5 ho5 hg5 hl5
            have ht5 := turn_grown hg5
            have ho6 : Own w5 w.heap.size v5 (fmk L k j ++ [y]) := by
              show World.ownsRow _ _ _ _ _ _ _
              rw [List.length_append, List.map_append]; exact ho5
            have hp := HFS.out.put HJ.out HZ.out HBB.out.size ho6 (by rw [HV.out]; exact ht5) (by rw [HV.out]; exact hl5)
            have hS5 : w5.cell? ⟨bs, 0, none⟩ = some (.int .i64 (j : Int)) := by
              have q := hS.out Z HZ.out
              exact (ht5.cell (a := ⟨bs, 0, none⟩) (World.block_lt_of_cell? Z _ q) (fun r => HNB.out bs r rfl)).trans q
            have hB5 : w5.cell? ⟨w.heap.size, j, none⟩ = some v := (ht5.cell (a := ⟨w.heap.size, j, none⟩) (HFS.out.below HZ.out).lt (fun r => HFS.out.ne j HJ.out (by rw [HV.out]; exact r))).trans (HCK.out Z HZ.out)
            have hB6 : w5.frozen? ⟨w.heap.size, j, none⟩ = false := (ht5.frozen (a := ⟨w.heap.size, j, none⟩) (HFS.out.below HZ.out).lt (fun r => HFS.out.ne j HJ.out (by rw [HV.out]; exact r))).trans ((HFS.out.below HZ.out).fro j HJ.out)
            have hS6 : (w5.setCell ⟨w.heap.size, j, none⟩ v5).cell? ⟨bs, 0, none⟩ = some (.int .i64 (j : Int)) := by rw [World.cell?_setCell_other _ _ _ _ (fun q => HBN.out (by cases q; rfl))]; exact hS5
            have HS6 := Lib.hid hS6
            have HFIN : Hid ((∃ u, FamF (w5.setCell ⟨w.heap.size, j, none⟩ v5) w.heap.size w.heap.size m u (fmk L (k + 1))) ∧ Below w.heap.size w (w5.setCell ⟨w.heap.size, j, none⟩ v5)) := ⟨⟨_, hp.1.congr (fun i hi => HYJ.out i)⟩, HBB.out.trans hp.2⟩
            obtain ⟨a5, c5, hv5⟩ := (ownsRow_slc ho5).form
            subst hv5
            clear ho5 hg5 hl5 ht5 ho6 hp hS6
            refine hKK.out _ _ (hS5) (fun hHeld => ?_)
            clear hKK KK
            (try simp only [Act.put, List.setIfInBounds_toArray, List.set_cons_zero, List.set_cons_succ, List.getElem_toArray, List.getElem_cons_zero, List.getElem_cons_succ])
            refine wpAnyH_take (i := 12) (v := ?_) rfl (by kernel_rfl) (by kernel_rfl) (by kernel_rfl) (fun _ _ _ h => h) (Or.inl ⟨by rfl, ?y12⟩) (by assumption) ?_
            case y12 => intro w hSw; (try dsimp only at hSw); go_simp; (try with_reducible rfl)
            (try simp only [Act.put, List.setIfInBounds_toArray, List.set_cons_zero, List.set_cons_succ, List.getElem_toArray, List.getElem_cons_zero, List.getElem_cons_succ])
            refine wpAnyH_ready (rs := [13]) (by kernel_rfl) (by simp) ?_
            refine AllReadyH.cons rfl (fun KK hKK => ?_) AllReadyH.nil
            go_simp
            clear hB5 hB6 hS5
            refine hKK.out _ _ (HS6.out) (fun hHeld => ?_)
            clear hKK KK
            (try simp only [Act.put, List.setIfInBounds_toArray, List.set_cons_zero, List.set_cons_succ, List.getElem_toArray, List.getElem_cons_zero, List.getElem_cons_succ])
            refine wpAnyH_done (by kernel_rfl) ?_ _
            go_wp2_with fail
            go_roundw
            · exact ⟨k + 1, by have := HKK.out; omega, by go_num, HFIN.out.1, HFIN.out.2⟩
            · have := HKK.out; simp [RowKit.intOf]; omega
        · have tz : ((j : Int) == 0) = false := by simpa using hz
          have hi := isone_c (some ⟨b, off, none⟩) L.length c (j : Int) (wr.alloc (.cells #[.int .i64 (j : Int), .int .i64 kd, .bool sp, .bool pt] 35))
          rw [decide_eq_true (show Ent (L.length : Int) (j : Int) by have := HJ.out; have := HM.out; unfold Ent; omega)] at hi
          clear hz
          go_wp2_with fail
          refine hi.mono ?_; clear hi; rintro e w0 ⟨rfl, rfl⟩
          go_upto_region 6 with fail
          generalize wr.alloc (.cells #[.int .i64 (j : Int), .int .i64 kd, .bool sp, .bool pt] 35) = W at *
          obtain ⟨bs, hbs⟩ : ∃ bs, bs = wr.heap.size := ⟨_, rfl⟩
          rw [← hbs] at HBN HNB hS ⊢
          clear g0 hbs
          generalize hy : (k : Int) + 1 = y at *
          refine wp_region_held_drew (S := fun wz => wz.cell? ⟨bs, 0, none⟩ = some (.int .i64 (j : Int))) (by kernel_rfl) (hS.out _ (Below.refl _ _).drew) (fun hHeld => ?_)
          refine wpAnyH_take (i := 0) (v := ?_) rfl (by kernel_rfl) (by kernel_rfl) (by kernel_rfl) (fun _ _ _ h => h) (Or.inl ⟨by rfl, ?y0⟩) (by assumption) ?_
          case y0 => intro w hSw; (try dsimp only at hSw); go_simp; (try with_reducible rfl)
          (try simp only [Act.put, List.setIfInBounds_toArray, List.set_cons_zero, List.set_cons_succ, List.getElem_toArray, List.getElem_cons_zero, List.getElem_cons_succ])
          refine wpAnyH_take (i := 1) (v := ?_) rfl (by kernel_rfl) (by kernel_rfl) (by kernel_rfl) (fun _ _ _ h => h) (Or.inl ⟨by rfl, ?y1⟩) (by assumption) ?_
          case y1 => intro w hSw; (try dsimp only at hSw); go_simp; (try with_reducible rfl)
          (try simp only [Act.put, List.setIfInBounds_toArray, List.set_cons_zero, List.set_cons_succ, List.getElem_toArray, List.getElem_cons_zero, List.getElem_cons_succ])
          refine wpAnyH_take (i := 2) (v := ?_) rfl (by kernel_rfl) (by kernel_rfl) (by kernel_rfl) (fun _ _ _ h => h) (Or.inl ⟨by rfl, ?y2⟩) (by assumption) ?_
          case y2 => intro w hSw; (try dsimp only at hSw); go_simp; (try with_reducible rfl)
          (try simp only [Act.put, List.setIfInBounds_toArray, List.set_cons_zero, List.set_cons_succ, List.getElem_toArray, List.getElem_cons_zero, List.getElem_cons_succ])
          refine wpAnyH_take (i := 3) (v := ?_) rfl (by kernel_rfl) (by kernel_rfl) (by kernel_rfl) (fun _ _ _ h => h) (Or.inl ⟨by rfl, ?y3⟩) (by assumption) ?_
          case y3 => intro w hSw; (try dsimp only at hSw); go_simp; (try with_reducible rfl)
          (try simp only [Act.put, List.setIfInBounds_toArray, List.set_cons_zero, List.set_cons_succ, List.getElem_toArray, List.getElem_cons_zero, List.getElem_cons_succ])
          refine wpAnyH_take (i := 4) (v := ?_) rfl (by kernel_rfl) (by kernel_rfl) (by kernel_rfl) (fun _ _ _ h => h) (Or.inl ⟨by rfl, ?y4⟩) (by assumption) ?_
          case y4 => intro w hSw; (try dsimp only at hSw); go_simp; (try with_reducible rfl)
          (try simp only [Act.put, List.setIfInBounds_toArray, List.set_cons_zero, List.set_cons_succ, List.getElem_toArray, List.getElem_cons_zero, List.getElem_cons_succ])
          refine wpAnyH_take (i := 5) (v := ?_) rfl (by kernel_rfl) (by kernel_rfl) (by kernel_rfl) (fun _ _ _ h => h) (Or.inl ⟨by rfl, ?y5⟩) (by assumption) ?_
          case y5 => intro w hSw; (try dsimp only at hSw); go_simp; (try with_reducible rfl)
          (try simp only [Act.put, List.setIfInBounds_toArray, List.set_cons_zero, List.set_cons_succ, List.getElem_toArray, List.getElem_cons_zero, List.getElem_cons_succ])
          refine wpAnyH_take (i := 6) (v := ?_) rfl (by kernel_rfl) (by kernel_rfl) (by kernel_rfl) (fun _ _ _ h => h) (Or.inl ⟨by rfl, ?y6⟩) (by assumption) ?_
          case y6 => intro w hSw; (try dsimp only at hSw); go_simp; (try with_reducible rfl)
          (try simp only [Act.put, List.setIfInBounds_toArray, List.set_cons_zero, List.set_cons_succ, List.getElem_toArray, List.getElem_cons_zero, List.getElem_cons_succ])
          refine wpAnyH_take (i := 8) (v := ?_) rfl (by kernel_rfl) (by kernel_rfl) (by kernel_rfl) (fun _ _ _ h => h) (Or.inl ⟨by rfl, ?y8⟩) (by assumption) ?_
          case y8 => intro w hSw; (try dsimp only at hSw); go_simp; (try with_reducible rfl)
          (try simp only [Act.put, List.setIfInBounds_toArray, List.set_cons_zero, List.set_cons_succ, List.getElem_toArray, List.getElem_cons_zero, List.getElem_cons_succ])
          refine wpAnyH_take (i := 9) (v := ?_) rfl (by kernel_rfl) (by kernel_rfl) (by kernel_rfl) (fun _ _ _ h => h) (Or.inl ⟨by rfl, ?y9⟩) (by assumption) ?_
          case y9 => intro w hSw; (try dsimp only at hSw); go_simp; (try with_reducible rfl)
          (try simp only [Act.put, List.setIfInBounds_toArray, List.set_cons_zero, List.set_cons_succ, List.getElem_toArray, List.getElem_cons_zero, List.getElem_cons_succ])
          refine wpAnyH_ready (rs := [7, 10]) (by kernel_rfl) (by simp) ?_
          refine AllReadyH.cons rfl (fun KK hKK => ?_) (AllReadyH.cons rfl (fun KK hKK => ?_) AllReadyH.nil)
          · skip
            have hck := HCK.out (W.drew) ((Below.refl _ _).drew)
            go_simp
            clear hck
            refine hKK.out _ _ (hS.out _ ((Below.refl _ _).drew)) (fun hHeld => ?_)
            clear hKK KK
            (try simp only [Act.put, List.setIfInBounds_toArray, List.set_cons_zero, List.set_cons_succ, List.getElem_toArray, List.getElem_cons_zero, List.getElem_cons_succ])
            refine wpAnyH_ready (rs := [10]) (by kernel_rfl) (by simp) ?_
            refine AllReadyH.cons rfl (fun KK hKK => ?_) AllReadyH.nil
            go_simp
            have HZ : Hid (Below W.heap.size W (W.alloc (.cells #[.int .i64 y] 3)).drew) := (below1 W (.cells #[.int .i64 y] 3)).drew
            have HNN : Hid (SlC (W.alloc (.cells #[.int .i64 y] 3)).drew (.slice (some ⟨W.heap.size, 0, none⟩) 1 1) 1 1 (ints [y])) := (one_a W y).below (Below.refl _ _).drew
            refine hKK.out _ _ (hS.out _ HZ.out) (fun hHeld => ?_)
            clear hKK KK
            (try simp only [Act.put, List.setIfInBounds_toArray, List.set_cons_zero, List.set_cons_succ, List.getElem_toArray, List.getElem_cons_zero, List.getElem_cons_succ])
            generalize (W.alloc (.cells #[.int .i64 y] 3)).drew = Z at *
            refine wpAnyH_ready (rs := [11]) (by kernel_rfl) (by simp) ?_
            refine AllReadyH.cons rfl (fun KK hKK => ?_) AllReadyH.nil
            refine step_pushS rfl (.tmp 33) (.tmp 36) 30 rfl w.heap.size 3 1 8 (.int .i64 0) Try.underlying30 int_info rfl (by decide) v (fmk L k j).length ((fmk L k j).map (Value.int .i64)) (by simp [Act.eval, Act.put]) (by have q := (HFS.out.below HZ.out).row j HJ.out; rw [HV.out] at q; exact q) (.slice (some ⟨W.heap.size, 0, none⟩) 1 1) 1 (ints [y]) (by simp [Act.eval, Act.put]) HNN.out (ints_one _) (by decide) (by have := HLN.out j; omega) (by decide) (Nat.le_trans HBB.out.size HZ.out.size) ?_
            intro v5 w5 ho5 hg5 hl5
            have ht5 := turn_grown hg5
            have ho6 : Own w5 w.heap.size v5 (fmk L k j ++ [y]) := by
              show World.ownsRow _ _ _ _ _ _ _
              rw [List.length_append, List.map_append]; exact ho5
            have hp := HFS.out.put HJ.out HZ.out HBB.out.size ho6 (by rw [HV.out]; exact ht5) (by rw [HV.out]; exact hl5)
            have hS5 : w5.cell? ⟨bs, 0, none⟩ = some (.int .i64 (j : Int)) := by
              have q := hS.out Z HZ.out
              exact (ht5.cell (a := ⟨bs, 0, none⟩) (World.block_lt_of_cell? Z _ q) (fun r => HNB.out bs r rfl)).trans q
            have hB5 : w5.cell? ⟨w.heap.size, j, none⟩ = some v := (ht5.cell (a := ⟨w.heap.size, j, none⟩) (HFS.out.below HZ.out).lt (fun r => HFS.out.ne j HJ.out (by rw [HV.out]; exact r))).trans (HCK.out Z HZ.out)
            have hB6 : w5.frozen? ⟨w.heap.size, j, none⟩ = false := (ht5.frozen (a := ⟨w.heap.size, j, none⟩) (HFS.out.below HZ.out).lt (fun r => HFS.out.ne j HJ.out (by rw [HV.out]; exact r))).trans ((HFS.out.below HZ.out).fro j HJ.out)
            have hS6 : (w5.setCell ⟨w.heap.size, j, none⟩ v5).cell? ⟨bs, 0, none⟩ = some (.int .i64 (j : Int)) := by rw [World.cell?_setCell_other _ _ _ _ (fun q => HBN.out (by cases q; rfl))]; exact hS5
            have HS6 := Lib.hid hS6
            have HFIN : Hid ((∃ u, FamF (w5.setCell ⟨w.heap.size, j, none⟩ v5) w.heap.size w.heap.size m u (fmk L (k + 1))) ∧ Below w.heap.size w (w5.setCell ⟨w.heap.size, j, none⟩ v5)) := ⟨⟨_, hp.1.congr (fun i hi => HYJ.out i)⟩, HBB.out.trans hp.2⟩
            obtain ⟨a5, c5, hv5⟩ := (ownsRow_slc ho5).form
            subst hv5
            clear ho5 hg5 hl5 ht5 ho6 hp hS6
            refine hKK.out _ _ (hS5) (fun hHeld => ?_)
            clear hKK KK
            (try simp only [Act.put, List.setIfInBounds_toArray, List.set_cons_zero, List.set_cons_succ, List.getElem_toArray, List.getElem_cons_zero, List.getElem_cons_succ])
            refine wpAnyH_take (i := 12) (v := ?_) rfl (by kernel_rfl) (by kernel_rfl) (by kernel_rfl) (fun _ _ _ h => h) (Or.inl ⟨by rfl, ?y12⟩) (by assumption) ?_
            case y12 => intro w hSw; (try dsimp only at hSw); go_simp; (try with_reducible rfl)
            (try simp only [Act.put, List.setIfInBounds_toArray, List.set_cons_zero, List.set_cons_succ, List.getElem_toArray, List.getElem_cons_zero, List.getElem_cons_succ])
            refine wpAnyH_ready (rs := [13]) (by kernel_rfl) (by simp) ?_
            refine AllReadyH.cons rfl (fun KK hKK => ?_) AllReadyH.nil
            go_simp
            clear hB5 hB6 hS5
            refine hKK.out _ _ (HS6.out) (fun hHeld => ?_)
            clear hKK KK
            (try simp only [Act.put, List.setIfInBounds_toArray, List.set_cons_zero, List.set_cons_succ, List.getElem_toArray, List.getElem_cons_zero, List.getElem_cons_succ])
            refine wpAnyH_done (by kernel_rfl) ?_ _
            go_wp2_with fail
            go_roundw
            · exact ⟨k + 1, by have := HKK.out; omega, by go_num, HFIN.out.1, HFIN.out.2⟩
            · have := HKK.out; simp [RowKit.intOf]; omega
          · skip
            go_simp
            have HZ : Hid (Below W.heap.size W (W.alloc (.cells #[.int .i64 y] 3)).drew) := (below1 W (.cells #[.int .i64 y] 3)).drew
            have HNN : Hid (SlC (W.alloc (.cells #[.int .i64 y] 3)).drew (.slice (some ⟨W.heap.size, 0, none⟩) 1 1) 1 1 (ints [y])) := (one_a W y).below (Below.refl _ _).drew
            refine hKK.out _ _ (hS.out _ HZ.out) (fun hHeld => ?_)
            clear hKK KK
            (try simp only [Act.put, List.setIfInBounds_toArray, List.set_cons_zero, List.set_cons_succ, List.getElem_toArray, List.getElem_cons_zero, List.getElem_cons_succ])
            generalize (W.alloc (.cells #[.int .i64 y] 3)).drew = Z at *
            refine wpAnyH_ready (rs := [7]) (by kernel_rfl) (by simp) ?_
            refine AllReadyH.cons rfl (fun KK hKK => ?_) AllReadyH.nil
            have hck := HCK.out (Z) (HZ.out)
            go_simp
            clear hck
            refine hKK.out _ _ (hS.out _ (HZ.out)) (fun hHeld => ?_)
            clear hKK KK
            (try simp only [Act.put, List.setIfInBounds_toArray, List.set_cons_zero, List.set_cons_succ, List.getElem_toArray, List.getElem_cons_zero, List.getElem_cons_succ])
            refine wpAnyH_ready (rs := [11]) (by kernel_rfl) (by simp) ?_
            refine AllReadyH.cons rfl (fun KK hKK => ?_) AllReadyH.nil
            refine step_pushS rfl (.tmp 33) (.tmp 36) 30 rfl w.heap.size 3 1 8 (.int .i64 0) Try.underlying30 int_info rfl (by decide) v (fmk L k j).length ((fmk L k j).map (Value.int .i64)) (by simp [Act.eval, Act.put]) (by have q := (HFS.out.below HZ.out).row j HJ.out; rw [HV.out] at q; exact q) (.slice (some ⟨W.heap.size, 0, none⟩) 1 1) 1 (ints [y]) (by simp [Act.eval, Act.put]) HNN.out (ints_one _) (by decide) (by have := HLN.out j; omega) (by decide) (Nat.le_trans HBB.out.size HZ.out.size) ?_
            intro v5 w5 ho5 hg5 hl5
            have ht5 := turn_grown hg5
            have ho6 : Own w5 w.heap.size v5 (fmk L k j ++ [y]) := by
              show World.ownsRow _ _ _ _ _ _ _
              rw [List.length_append, List.map_append]; exact ho5
            have hp := HFS.out.put HJ.out HZ.out HBB.out.size ho6 (by rw [HV.out]; exact ht5) (by rw [HV.out]; exact hl5)
            have hS5 : w5.cell? ⟨bs, 0, none⟩ = some (.int .i64 (j : Int)) := by
              have q := hS.out Z HZ.out
              exact (ht5.cell (a := ⟨bs, 0, none⟩) (World.block_lt_of_cell? Z _ q) (fun r => HNB.out bs r rfl)).trans q
            have hB5 : w5.cell? ⟨w.heap.size, j, none⟩ = some v := (ht5.cell (a := ⟨w.heap.size, j, none⟩) (HFS.out.below HZ.out).lt (fun r => HFS.out.ne j HJ.out (by rw [HV.out]; exact r))).trans (HCK.out Z HZ.out)
            have hB6 : w5.frozen? ⟨w.heap.size, j, none⟩ = false := (ht5.frozen (a := ⟨w.heap.size, j, none⟩) (HFS.out.below HZ.out).lt (fun r => HFS.out.ne j HJ.out (by rw [HV.out]; exact r))).trans ((HFS.out.below HZ.out).fro j HJ.out)
            have hS6 : (w5.setCell ⟨w.heap.size, j, none⟩ v5).cell? ⟨bs, 0, none⟩ = some (.int .i64 (j : Int)) := by rw [World.cell?_setCell_other _ _ _ _ (fun q => HBN.out (by cases q; rfl))]; exact hS5
            have HS6 := Lib.hid hS6
            have HFIN : Hid ((∃ u, FamF (w5.setCell ⟨w.heap.size, j, none⟩ v5) w.heap.size w.heap.size m u (fmk L (k + 1))) ∧ Below w.heap.size w (w5.setCell ⟨w.heap.size, j, none⟩ v5)) := ⟨⟨_, hp.1.congr (fun i hi => HYJ.out i)⟩, HBB.out.trans hp.2⟩
            obtain ⟨a5, c5, hv5⟩ := (ownsRow_slc ho5).form
            subst hv5
            clear ho5 hg5 hl5 ht5 ho6 hp hS6
            refine hKK.out _ _ (hS5) (fun hHeld => ?_)
            clear hKK KK
            (try simp only [Act.put, List.setIfInBounds_toArray, List.set_cons_zero, List.set_cons_succ, List.getElem_toArray, List.getElem_cons_zero, List.getElem_cons_succ])
            refine wpAnyH_take (i := 12) (v := ?_) rfl (by kernel_rfl) (by kernel_rfl) (by kernel_rfl) (fun _ _ _ h => h) (Or.inl ⟨by rfl, ?y12⟩) (by assumption) ?_
            case y12 => intro w hSw; (try dsimp only at hSw); go_simp; (try with_reducible rfl)
            (try simp only [Act.put, List.setIfInBounds_toArray, List.set_cons_zero, List.set_cons_succ, List.getElem_toArray, List.getElem_cons_zero, List.getElem_cons_succ])
            refine wpAnyH_ready (rs := [13]) (by kernel_rfl) (by simp) ?_
            refine AllReadyH.cons rfl (fun KK hKK => ?_) AllReadyH.nil
            go_simp
            clear hB5 hB6 hS5
            refine hKK.out _ _ (HS6.out) (fun hHeld => ?_)
            clear hKK KK
            (try simp only [Act.put, List.setIfInBounds_toArray, List.set_cons_zero, List.set_cons_succ, List.getElem_toArray, List.getElem_cons_zero, List.getElem_cons_succ])
            refine wpAnyH_done (by kernel_rfl) ?_ _
            go_wp2_with fail
            go_roundw
            · exact ⟨k + 1, by have := HKK.out; omega, by go_num, HFIN.out.1, HFIN.out.2⟩
            · have := HKK.out; simp [RowKit.intOf]; omega
      · have hz : (p == 0) = false := by rw [beq_eq_false_iff_ne]; exact fun q => hE (Or.inl q)
        have hi := isone_c (some ⟨b, off, none⟩) L.length c p (wr.alloc (.cells #[.int .i64 p, .int .i64 kd, .bool sp, .bool pt] 35))
        rw [decide_eq_false (fun q => hE (Or.inr q))] at hi
        have HN2 := Lib.hid (HN.out (fun q => hE (Or.inl q)) (fun q => hE (Or.inr q)))
        have k1 := HKK.out.1
        clear hE
        go_wp2_with fail
        refine hi.mono ?_; clear hi; rintro e w0 ⟨rfl, rfl⟩
        go_wp2_with fail
        go_roundw
        · exact ⟨k + 1, by omega, by go_num, ⟨_, HFS.out.congr HN2.out⟩, HBB.out⟩
        · simp [RowKit.intOf]; omega
    · obtain rfl : k = L.length := by omega
      have hd0 : decide ((L.length : Int) < (L.length : Int)) = false := decide_eq_false (by omega)
      have HR := Lib.hid (hF.reads (fmk_in L L.length hn))
      clear hF hb hlt hk
      go_wp2_with fail
      go_ret
      exact ⟨rfl, HR.out, HB.out⟩
end Go.Proofs.Yteendpdidkekkaa
