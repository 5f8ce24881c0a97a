/-
  Layer 12's Made. No conditions.
-/
import Derived.Test.YtbaeanpdjdcheaaGreatGrX0
namespace Go.Proofs.YtbaeanpdjdcheaaGreat
open Go.RowKit
set_option linter.unusedSimpArgs false
set_option linter.unusedVariables false

def mdG (F : Nat → Prop) (bx br : Nat) (j : Nat) : Prop := F j ∨ j = bx ∨ j = br
/-- What Made keeps: the graph; the document's (x, of the rows Q), apart; a block of its own (bx), the result's block (br). -/
structure MadeP (w0 w : World) (B : Nat) (R : List (List Int)) (F : Nat → Prop) (x : Value) (Q : List (List Int)) (bx br : Nat) (vx : Value) : Prop where
  g : OneG w0 w B R F
  x : GRefO (mdG F bx br) w x Q
  cx : w.cell? ⟨bx, 0, none⟩ = some vx
  zx : w.frozen? ⟨bx, 0, none⟩ = false
  cr : w.cell? ⟨br, 0, none⟩ = some (.slice none 0 0)
  zr : w.frozen? ⟨br, 0, none⟩ = false
  n1 : ¬ F bx
  n2 : ¬ F br
  b1 : w0.heap.size ≤ bx
  b2 : w0.heap.size ≤ br
  b3 : br ≠ bx
section
variable {w0 w w' : World} {B : Nat} {R R' Q Q' : List (List Int)} {F F' : Nat → Prop} {x x' vx : Value} {bx br : Nat}
theorem MadeP.ltx (h : MadeP w0 w B R F x Q bx br vx) : bx < w.heap.size := World.block_lt_of_cell? w _ h.cx
theorem MadeP.ltr (h : MadeP w0 w B R F x Q bx br vx) : br < w.heap.size := World.block_lt_of_cell? w _ h.cr
theorem MadeP.foot (h : MadeP w0 w B R F x Q bx br vx) : ∀ j, mdG F bx br j → j < w.heap.size := by
  rintro j (q | rfl | rfl)
  · exact h.g.r.foot j q
  · exact h.ltx
  · exact h.ltr
theorem MadeP.below (h : MadeP w0 w B R F x Q bx br vx) (hb : Below w.heap.size w w') : MadeP w0 w' B R F x Q bx br vx :=
  ⟨h.g.below hb, h.x.below hb, (hb.cell h.ltx).trans h.cx, (hb.frozen (p := ⟨bx, 0, none⟩) h.ltx).trans h.zx, (hb.cell h.ltr).trans h.cr, (hb.frozen (p := ⟨br, 0, none⟩) h.ltr).trans h.zr, h.n1, h.n2, h.b1, h.b2, h.b3⟩
/-- The graph's own change. -/
theorem MadeP.turn (h : MadeP w0 w B R F x Q bx br vx) (hr : GrR w' B R' F') (ht : Turn F w w') (hs : ∀ j, F' j → F j ∨ w.heap.size ≤ j) : MadeP w0 w' B R' F' x Q bx br vx := by
  refine ⟨h.g.turn hr ht hs, h.x.turn ht (fun j q => Or.inl q) (fun j q => ?_), (ht.cell (a := ⟨bx, 0, none⟩) h.ltx h.n1).trans h.cx, (ht.frozen (a := ⟨bx, 0, none⟩) h.ltx h.n1).trans h.zx, (ht.cell (a := ⟨br, 0, none⟩) h.ltr h.n2).trans h.cr, (ht.frozen (a := ⟨br, 0, none⟩) h.ltr h.n2).trans h.zr, fun q => ?_, fun q => ?_, h.b1, h.b2, h.b3⟩
  · rcases q with q | q | q
    · exact (hs j q).imp Or.inl id
    · exact Or.inl (Or.inr (Or.inl q))
    · exact Or.inl (Or.inr (Or.inr q))
  · rcases hs bx q with r | r
    · exact h.n1 r
    · have := h.ltx; omega
  · rcases hs br q with r | r
    · exact h.n2 r
    · have := h.ltr; omega
/-- Another graph of the document's. -/
theorem MadeP.other (h : MadeP w0 w B R F x Q bx br vx) (hx : GRefO (mdG F bx br) w x' Q') : MadeP w0 w B R F x' Q' bx br vx := ⟨h.g, hx, h.cx, h.zx, h.cr, h.zr, h.n1, h.n2, h.b1, h.b2, h.b3⟩
/-- It is laid into its block. -/
theorem MadeP.put (h : MadeP w0 w B R F x Q bx br vx) (u : Value) : MadeP w0 (w.setCell ⟨bx, 0, none⟩ u) B R F x Q bx br u := by
  have ht : Turn (fun j => j = bx) w (w.setCell ⟨bx, 0, none⟩ u) := turn_set (F := fun j => j = bx) (p := ⟨bx, 0, none⟩) (Turn.refl _ _) (Or.inl (show bx = bx from rfl)) u
  refine ⟨⟨h.g.r.turn ht fun j hj e => h.n1 (e ▸ hj), h.g.b.trans (ht.below (fun j hj => by have := h.b1; omega) h.g.b.size), h.g.f⟩, h.x.turn ht (fun j q => Or.inr (Or.inl q)) (fun j q => Or.inl q), World.cell?_setCell_same _ _ _ h.cx, (World.frozen?_setCell _ _ _ _).trans h.zx,
    (World.cell?_setCell_other _ _ _ _ (fun q => h.b3 (by have := congrArg Addr.block q; simpa using this.symm))).trans h.cr, (World.frozen?_setCell _ _ _ _).trans h.zr, h.n1, h.n2, h.b1, h.b2, h.b3⟩
end
/-- The rows behind the first k acts. -/
def gfold (n : Nat) (l : List GA) (k : Nat) : List (List Int) := (l.take k).foldl (fun R x => gset R x.1 x.2) (List.replicate n [])
theorem gfold_step {n : Nat} {l : List GA} {k : Nat} (hk : k < l.length) : gfold n l (k + 1) = gset (gfold n l k) (gAt l k).1 (gAt l k).2 := by
  have e : gAt l k = l[k] := by simp [gAt, List.getD, hk]
  unfold gfold
  rw [List.take_succ_eq_append_getElem hk, List.foldl_append, e]
  rfl
theorem gfold_len (n : Nat) (l : List GA) : ∀ k, (gfold n l k).length = n := by
  intro k
  unfold gfold
  have : ∀ (L : List GA) (R : List (List Int)), (L.foldl (fun R x => gset R x.1 x.2) R).length = R.length := by
    intro L
    induction L with
    | nil => intro R; rfl
    | cons x L ih => intro R; rw [List.foldl_cons, ih, gset_len]
  rw [this, List.length_replicate]
theorem gset_hl {R : List (List Int)} (v : Int) (l : List Int) (h : R.length ≤ 20000) : (gset R v l).length ≤ 20000 := by rw [gset_len]; exact h
set_option maxHeartbeats 8000000 in
set_option maxRecDepth 100000 in
theorem made_at (n : Nat) (h1 : 1 ≤ n) (h12 : n ≤ 12) (a : Option Addr) (c : Nat) (l : List GA) (w : World) (h : ActsG w a l) (hf : gfew l = true) :
    Calls Tryz.prog 8 #[.int .i64 n, .slice a l.length c] w fun e w' => ∃ B F x, e = .returned (.tuple #[.pointer (some ⟨B, 0, none⟩), x, .bool true]) ∧ BothG w w' B (gfold n l l.length) F x := by
  obtain ⟨hl60, hl30⟩ := gfew_at hf
  have HL30 := Lib.hid hl30
  have H := Lib.hid h
  clear hl30 hf h
  have hb0 := below1 w (.cells #[.slice none 0 0] 32)
  have hcr : (w.alloc (.cells #[.slice none 0 0] 32)).cell? ⟨w.heap.size, 0, none⟩ = some (.slice none 0 0) := by simp
  have hzr : (w.alloc (.cells #[.slice none 0 0] 32)).frozen? ⟨w.heap.size, 0, none⟩ = false := by simp [go_sem]
  have hs0 : (w.alloc (.cells #[.slice none 0 0] 32)).heap.size = w.heap.size + 1 := by simp
  go_enter Tryz.func8, Tryz.ntmps8
  go_wp2_with fail
  generalize hW : w.alloc (.cells #[.slice none 0 0] 32) = W at *
  clear hW
  refine (new_g n _ (by omega) (by omega)).mono ?_; rintro e w2 ⟨B, F, rfl, hr, hb, hF⟩
  have h2 := OneG.new hb0 hr hb hF
  have hcr2 := (hb.cell (p := ⟨w.heap.size, 0, none⟩) (by show w.heap.size < W.heap.size; omega)).trans hcr
  have hzr2 := (hb.frozen (p := ⟨w.heap.size, 0, none⟩) (by show w.heap.size < W.heap.size; omega)).trans hzr
  have hn2 : ¬ F w.heap.size := fun q => by have := hF _ q; omega
  have hlt2 : w.heap.size < w2.heap.size := by have := hb.size; omega
  clear hr hb hF hcr hzr
  go_wp2_with fail
  refine (r12new n w2).mono ?_; rintro e w3 ⟨x, rfl, hxo, hb3⟩
  rw [if_pos (show 1 ≤ (n : Int) ∧ (n : Int) ≤ 20000 from ⟨by omega, by omega⟩), Int.toNat_natCast] at hxo
  have hxo2 := hxo (fun j => F j ∨ j = w.heap.size) (fun j q => by
    rcases q with q | q
    · exact h2.r.foot j q
    · omega)
  have hxr := hxo2.ref
  obtain ⟨xa, xc, _, hxe, _⟩ := hxr
  rw [List.length_replicate] at hxe
  subst hxe
  have hb4 := below1 w3 (.cells #[.slice xa n xc] 32)
  have hcx4 : (w3.alloc (.cells #[.slice xa n xc] 32)).cell? ⟨w3.heap.size, 0, none⟩ = some (.slice xa n xc) := by simp
  have hzx4 : (w3.alloc (.cells #[.slice xa n xc] 32)).frozen? ⟨w3.heap.size, 0, none⟩ = false := by simp [go_sem]
  have hs3 := hb3.size
  have HM : Hid (MadeP w (w3.alloc (.cells #[.slice xa n xc] 32)) B (List.replicate n []) F (.agg #[.slice xa n xc]) (List.replicate n []) w3.heap.size w.heap.size (.slice xa n xc)) :=
    ⟨(h2.below hb3).below hb4, hxo2.turn (T := fun _ => False) ⟨hb4.os, hb4.tape, hb4.output, hb4.size, fun k hk _ => hb4.block k hk⟩ (fun j q => q.elim) (fun j q => by
      rcases q with q | q | q
      · exact Or.inl (Or.inl q)
      · exact Or.inr (by omega)
      · exact Or.inl (Or.inr q)), hcx4, hzx4,
      (hb4.cell (p := ⟨w.heap.size, 0, none⟩) (by show w.heap.size < w3.heap.size; omega)).trans ((hb3.cell (p := ⟨w.heap.size, 0, none⟩) hlt2).trans hcr2), (hb4.frozen (p := ⟨w.heap.size, 0, none⟩) (by show w.heap.size < w3.heap.size; omega)).trans ((hb3.frozen (p := ⟨w.heap.size, 0, none⟩) hlt2).trans hzr2),
      fun q => by have := h2.r.foot _ q; omega, hn2, by omega, Nat.le_refl _, by omega⟩
  have HREP : Hid ((List.replicate n ([] : List Int)) = gfold n l 0) := rfl
  clear hxo hxo2 h2 hb3 hb4 hcx4 hzx4 hcr2 hzr2 hn2 hs0
  have d12 : decide (1 ≤ (n : Int) ∧ (n : Int) ≤ 20000) = true := decide_eq_true ⟨by omega, by omega⟩
  simp only [if_pos (show 1 ≤ (n : Int) ∧ (n : Int) ≤ 20000 from ⟨by omega, by omega⟩)]
  go_wp2_with fail
  obtain ⟨bx, hbx⟩ : ∃ bx, bx = w3.heap.size := ⟨_, rfl⟩
  rw [← hbx] at HM ⊢
  clear hbx hs3
  go_loopw [11] (fun i wr => ∃ (k : Nat) (R : List (List Int)) (F : Nat → Prop) (xa : Option Addr) (xc : Nat), k ≤ l.length ∧ i = .int .i64 (k : Int) ∧ R = gfold n l k ∧ MadeP w wr B R F (.agg #[.slice xa R.length xc]) R bx w.heap.size (.slice xa R.length xc)) (fun i _ => l.length - (RowKit.intOf i).toNat)
  case atStart => exact ⟨0, _, F, xa, xc, Nat.zero_le _, rfl, HREP.out, by have hm := HM.out; simp only [List.length_replicate]; exact hm⟩
  case round =>
    clear HM
    obtain ⟨k, R, F1, xa, xc, hk, rfl, hRl, hM⟩ := hrel
    have HRL := Lib.hid hRl
    clear hRl
    by_cases hlt : k < l.length
    · obtain ⟨b, off, u, rfl, hc1, hc2, hsl, hir⟩ := H.out k hlt
      have hlen := HL30.out k hlt
      have hx := slx_act hM.g hsl
      have hbl := World.block_lt_of_cell? _ _ hc1
      have HC1 := Lib.hid hc1; have HC2 := Lib.hid hc2
      have hc1 := (hM.g.b.cell (p := ⟨b, off + k * 2, none⟩) hbl).trans hc1
      have hc2 := (hM.g.b.cell (p := ⟨b, off + k * 2 + 1, none⟩) hbl).trans hc2
      have i0 : (0 : Int) ≤ (k : Int) := by omega
      have i1 : (k : Int) < (l.length : Int) := by omega
      have hset := fun W (hh : OneG w W B R F1) (hq : SlX F1 W u (gAt l k).2) => set_o hh (gAt l k).1 hq (by omega)
      have HGL : Hid (gset R (gAt l k).1 (gAt l k).2 = gfold n l (k + 1)) := by show _ = _; rw [gfold_step hlt, ← HRL.out]
      have HSL := Lib.hid hsl
      have HI := Lib.hid hM.g.r.1
      have hRn : R.length ≤ 20000 := HI.out.hi
      have HIR := Lib.hid (fun v => Nat.le_trans (HI.out.len v) hRn)
      obtain ⟨ua, uc, rfl, _⟩ := hsl
      generalize (gAt l k).1 = v at *
      generalize (gAt l k).2 = L at *
      obtain ⟨ea, hea⟩ : ∃ ea, ea = gadd R v L := ⟨_, rfl⟩
      obtain ⟨ed, hed⟩ : ∃ ed, ed = gdrop R v L := ⟨_, rfl⟩
      obtain ⟨ef, hef⟩ : ∃ ef, ef = gfault R.length v L := ⟨_, rfl⟩
      simp only [← hea, ← hed, ← hef] at hset
      have HEA := Lib.hid hea; have HED := Lib.hid hed; have HEF := Lib.hid hef
      clear hea hed hef
      have HM := Lib.hid hM; have HX := Lib.hid hx
      clear hM hx
      go_wp2_with fail
      go_region_held3 (fun wz => wz.cell? ⟨b, off + k * 2, none⟩ = some (.int .i64 v) ∧ wz.cell? ⟨b, off + k * 2 + 1, none⟩ = some (.slice ua L.length uc))
        (first | exact ⟨hc1, hc2⟩ | exact ⟨hc3, hc4⟩)
        (first
          | (go_at_call 21; refine (hset _ (HM.out.g.below ((Below.refl _ _).drew)) (HX.out.below ((Below.refl _ _).drew))).mono ?_; rintro e w4 ⟨rfl, F2, h4, ht4, hs4⟩
             have hb4 := (ht4.below HM.out.g.f HM.out.g.b.size)
             have hc3 := (hb4.cell (p := ⟨b, off + k * 2, none⟩) hbl).trans hc1
             have hc4 := (hb4.cell (p := ⟨b, off + k * 2 + 1, none⟩) hbl).trans hc2))
      have hM4 := (HM.out.below (Below.refl _ _).drew).turn h4.r ht4 hs4
      have hx4 := hM4.cx
      have hs5 : Hid (∀ W, Below w4.heap.size w4 W → W.cell? ⟨bx, 0, none⟩ = some (.slice xa R.length xc) ∧ W.cell? ⟨b, off + k * 2, none⟩ = some (.int .i64 v) ∧ W.cell? ⟨b, off + k * 2 + 1, none⟩ = some (.slice ua L.length uc)) := fun W hW =>
        ⟨(hM4.below hW).cx, (hW.cell (p := ⟨b, off + k * 2, none⟩) (World.block_lt_of_cell? _ _ hc3)).trans hc3, (hW.cell (p := ⟨b, off + k * 2 + 1, none⟩) (World.block_lt_of_cell? _ _ hc4)).trans hc4⟩
      have hse : Hid (∀ G W, (∀ j, G j → j < W.heap.size) → GRefO G W (.agg #[.slice xa R.length xc]) R → Below w4.heap.size w4 W → Calls Tryz.prog 22 #[.agg #[.slice xa R.length xc], .int .i64 v, .slice ua L.length uc] W fun e w' => ∃ x', e = .returned (.tuple #[x', .int .i64 ea, .int .i64 ed, .int .i64 ef]) ∧ GRefO G w' x' (gset R v L) ∧ Below W.heap.size W w') := fun G W hG hO hW => by
        rw [HEA.out, HED.out, HEF.out]
        exact r12set G hG hO HIR.out hRn v ((HSL.out.below h4.b).below hW) (by omega)
      have HM4 := Lib.hid hM4
      clear h4 ht4 hs4 hb4 hM4 hc1 hc2
      go_wp2_with fail

      refine wp_region_held_drew (S := fun wz => wz.cell? ⟨bx, 0, none⟩ = some (.slice xa R.length xc) ∧ wz.cell? ⟨b, off + k * 2, none⟩ = some (.int .i64 v) ∧ wz.cell? ⟨b, off + k * 2 + 1, none⟩ = some (.slice ua L.length uc)) (by kernel_rfl) (hs5.out _ (Below.refl w4.heap.size w4).drew) (fun hHeld => ?_)
      refine wpAnyH_take (i := 0) (v := ?_) rfl (by kernel_rfl) (by kernel_rfl) (by kernel_rfl) (fun _ _ _ h => h) (Or.inl ⟨by rfl, ?y0⟩) (by assumption) ?_
      case y0 => intro w hSw; (try dsimp only at hSw); go_simp; (try with_reducible rfl)
      (try simp only [Act.put, List.setIfInBounds_toArray, List.set_cons_zero, List.set_cons_succ, List.getElem_toArray, List.getElem_cons_zero, List.getElem_cons_succ])
      refine wpAnyH_take (i := 1) (v := ?_) rfl (by kernel_rfl) (by kernel_rfl) (by kernel_rfl) (fun _ _ _ h => h) (Or.inl ⟨by rfl, ?y1⟩) (by assumption) ?_
      case y1 => intro w hSw; (try dsimp only at hSw); go_simp; (try with_reducible rfl)
      (try simp only [Act.put, List.setIfInBounds_toArray, List.set_cons_zero, List.set_cons_succ, List.getElem_toArray, List.getElem_cons_zero, List.getElem_cons_succ])
      refine wpAnyH_take (i := 2) (v := ?_) rfl (by kernel_rfl) (by kernel_rfl) (by kernel_rfl) (fun _ _ _ h => h) (Or.inl ⟨by rfl, ?y2⟩) (by assumption) ?_
      case y2 => intro w hSw; (try dsimp only at hSw); go_simp; (try with_reducible rfl)
      (try simp only [Act.put, List.setIfInBounds_toArray, List.set_cons_zero, List.set_cons_succ, List.getElem_toArray, List.getElem_cons_zero, List.getElem_cons_succ])
      refine wpAnyH_take (i := 3) (v := ?_) rfl (by kernel_rfl) (by kernel_rfl) (by kernel_rfl) (fun _ _ _ h => h) (Or.inl ⟨by rfl, ?y3⟩) (by assumption) ?_
      case y3 => intro w hSw; (try dsimp only at hSw); go_simp; (try with_reducible rfl)
      (try simp only [Act.put, List.setIfInBounds_toArray, List.set_cons_zero, List.set_cons_succ, List.getElem_toArray, List.getElem_cons_zero, List.getElem_cons_succ])
      refine wpAnyH_take (i := 4) (v := ?_) rfl (by kernel_rfl) (by kernel_rfl) (by kernel_rfl) (fun _ _ _ h => h) (Or.inl ⟨by rfl, ?y4⟩) (by assumption) ?_
      case y4 => intro w hSw; (try dsimp only at hSw); go_simp; (try with_reducible rfl)
      (try simp only [Act.put, List.setIfInBounds_toArray, List.set_cons_zero, List.set_cons_succ, List.getElem_toArray, List.getElem_cons_zero, List.getElem_cons_succ])
      refine wpAnyH_take (i := 5) (v := ?_) rfl (by kernel_rfl) (by kernel_rfl) (by kernel_rfl) (fun _ _ _ h => h) (Or.inl ⟨by rfl, ?y5⟩) (by assumption) ?_
      case y5 => intro w hSw; (try dsimp only at hSw); go_simp; (try with_reducible rfl)
      (try simp only [Act.put, List.setIfInBounds_toArray, List.set_cons_zero, List.set_cons_succ, List.getElem_toArray, List.getElem_cons_zero, List.getElem_cons_succ])
      refine wpAnyH_take (i := 6) (v := ?_) rfl (by kernel_rfl) (by kernel_rfl) (by kernel_rfl) (fun _ _ _ h => h) (Or.inl ⟨by rfl, ?y6⟩) (by assumption) ?_
      case y6 => intro w hSw; (try dsimp only at hSw); go_simp; (try with_reducible rfl)
      (try simp only [Act.put, List.setIfInBounds_toArray, List.set_cons_zero, List.set_cons_succ, List.getElem_toArray, List.getElem_cons_zero, List.getElem_cons_succ])
      refine wpAnyH_take (i := 7) (v := ?_) rfl (by kernel_rfl) (by kernel_rfl) (by kernel_rfl) (fun _ _ _ h => h) (Or.inl ⟨by rfl, ?y7⟩) (by assumption) ?_
      case y7 => intro w hSw; (try dsimp only at hSw); go_simp; (try with_reducible rfl)
      (try simp only [Act.put, List.setIfInBounds_toArray, List.set_cons_zero, List.set_cons_succ, List.getElem_toArray, List.getElem_cons_zero, List.getElem_cons_succ])
      refine wpAnyH_take (i := 8) (v := ?_) rfl (by kernel_rfl) (by kernel_rfl) (by kernel_rfl) (fun _ _ _ h => h) (Or.inl ⟨by rfl, ?y8⟩) (by assumption) ?_
      case y8 => intro w hSw; (try dsimp only at hSw); go_simp; (try with_reducible rfl)
      (try simp only [Act.put, List.setIfInBounds_toArray, List.set_cons_zero, List.set_cons_succ, List.getElem_toArray, List.getElem_cons_zero, List.getElem_cons_succ])
      refine wpAnyH_take (i := 9) (v := ?_) rfl (by kernel_rfl) (by kernel_rfl) (by kernel_rfl) (fun _ _ _ h => h) (Or.inl ⟨by rfl, ?y9⟩) (by assumption) ?_
      case y9 => intro w hSw; (try dsimp only at hSw); go_simp; (try with_reducible rfl)
      (try simp only [Act.put, List.setIfInBounds_toArray, List.set_cons_zero, List.set_cons_succ, List.getElem_toArray, List.getElem_cons_zero, List.getElem_cons_succ])
      refine wpAnyH_take (i := 10) (v := ?_) rfl (by kernel_rfl) (by kernel_rfl) (by kernel_rfl) (fun _ _ _ h => h) (Or.inl ⟨by rfl, ?y10⟩) (by assumption) ?_
      case y10 => intro w hSw; (try dsimp only at hSw); go_simp; (try with_reducible rfl)
      (try simp only [Act.put, List.setIfInBounds_toArray, List.set_cons_zero, List.set_cons_succ, List.getElem_toArray, List.getElem_cons_zero, List.getElem_cons_succ])
      refine wpAnyH_ready (rs := [11, 17]) (by kernel_rfl) (by simp) ?_
      refine AllReadyH.cons rfl (fun KK hKK => ?_) (AllReadyH.cons rfl (fun KK hKK => ?_) AllReadyH.nil)
      · skip
        go_simp
        refine (hse.out (mdG F2 bx w.heap.size) _ ((HM4.out.below (Below.refl _ _).drew).foot) ((HM4.out.below (Below.refl _ _).drew).x) ((Below.refl w4.heap.size w4).drew)).mono ?_; rintro e w5 ⟨x', rfl, hxo, hb5⟩
        have hxr := hxo.ref
        obtain ⟨ya, yc, _, rfl, _⟩ := hxr
        have hb5r := hb5
        have hb5 := ((Below.refl w4.heap.size w4).drew).trans (hb5.mono ((Below.refl w4.heap.size w4).drew).size)
        refine hKK.out _ _ (hs5.out _ hb5) (fun hHeld => ?_)
        clear hKK KK
        (try simp only [Act.put, List.setIfInBounds_toArray, List.set_cons_zero, List.set_cons_succ, List.getElem_toArray, List.getElem_cons_zero, List.getElem_cons_succ])
        refine wpAnyH_take (i := 12) (v := ?_) rfl (by kernel_rfl) (by kernel_rfl) (by kernel_rfl) (fun _ _ _ h => h) (Or.inl ⟨by rfl, ?y12⟩) (by assumption) ?_
        case y12 => intro w hSw; (try dsimp only at hSw); go_simp; (try with_reducible rfl)
        (try simp only [Act.put, List.setIfInBounds_toArray, List.set_cons_zero, List.set_cons_succ, List.getElem_toArray, List.getElem_cons_zero, List.getElem_cons_succ])
        refine wpAnyH_take (i := 13) (v := ?_) rfl (by kernel_rfl) (by kernel_rfl) (by kernel_rfl) (fun _ _ _ h => h) (Or.inl ⟨by rfl, ?y13⟩) (by assumption) ?_
        case y13 => intro w hSw; (try dsimp only at hSw); go_simp; (try with_reducible rfl)
        (try simp only [Act.put, List.setIfInBounds_toArray, List.set_cons_zero, List.set_cons_succ, List.getElem_toArray, List.getElem_cons_zero, List.getElem_cons_succ])
        refine wpAnyH_take (i := 14) (v := ?_) rfl (by kernel_rfl) (by kernel_rfl) (by kernel_rfl) (fun _ _ _ h => h) (Or.inl ⟨by rfl, ?y14⟩) (by assumption) ?_
        case y14 => intro w hSw; (try dsimp only at hSw); go_simp; (try with_reducible rfl)
        (try simp only [Act.put, List.setIfInBounds_toArray, List.set_cons_zero, List.set_cons_succ, List.getElem_toArray, List.getElem_cons_zero, List.getElem_cons_succ])
        refine wpAnyH_take (i := 15) (v := ?_) rfl (by kernel_rfl) (by kernel_rfl) (by kernel_rfl) (fun _ _ _ h => h) (Or.inl ⟨by rfl, ?y15⟩) (by assumption) ?_
        case y15 => intro w hSw; (try dsimp only at hSw); go_simp; (try with_reducible rfl)
        (try simp only [Act.put, List.setIfInBounds_toArray, List.set_cons_zero, List.set_cons_succ, List.getElem_toArray, List.getElem_cons_zero, List.getElem_cons_succ])
        refine wpAnyH_take (i := 16) (v := ?_) rfl (by kernel_rfl) (by kernel_rfl) (by kernel_rfl) (fun _ _ _ h => h) (Or.inl ⟨by rfl, ?y16⟩) (by assumption) ?_
        case y16 => intro w hSw; (try dsimp only at hSw); go_simp; (try with_reducible rfl)
        (try simp only [Act.put, List.setIfInBounds_toArray, List.set_cons_zero, List.set_cons_succ, List.getElem_toArray, List.getElem_cons_zero, List.getElem_cons_succ])
        refine wpAnyH_ready (rs := [17]) (by kernel_rfl) (by simp) ?_
        refine AllReadyH.cons rfl (fun KK hKK => ?_) AllReadyH.nil
        go_simp
        refine hKK.out _ _ (hs5.out _ (hb5.trans ((below1 w5 (.cells #[.slice none 0 0] 32)).mono hb5.size))) (fun hHeld => ?_)
        clear hKK KK
        (try simp only [Act.put, List.setIfInBounds_toArray, List.set_cons_zero, List.set_cons_succ, List.getElem_toArray, List.getElem_cons_zero, List.getElem_cons_succ])
        refine wpAnyH_ready (rs := [18]) (by kernel_rfl) (by simp) ?_
        refine AllReadyH.cons rfl (fun KK hKK => ?_) AllReadyH.nil
        go_simp
        have hb6 := hb5.trans ((below1 w5 (.cells #[.slice ya (gset R v L).length yc] 32)).mono hb5.size)
        have hxo6 := hxo.below (below1 w5 (.cells #[.slice ya (gset R v L).length yc] 32))
        refine hKK.out _ _ (hs5.out _ hb6) (fun hHeld => ?_)
        clear hKK KK
        (try simp only [Act.put, List.setIfInBounds_toArray, List.set_cons_zero, List.set_cons_succ, List.getElem_toArray, List.getElem_cons_zero, List.getElem_cons_succ])
        have HXO := Lib.hid hxo6; have HB6 := Lib.hid hb6
        have hby6 : (w5.alloc (.cells #[.slice ya (gset R v L).length yc] 32)).cell? ⟨w5.heap.size, 0, none⟩ = some (.slice ya (gset R v L).length yc) := by simp
        clear hxo6 hb6
        generalize w5.alloc (.cells #[.slice ya (gset R v L).length yc] 32) = w6 at *
        have hM6 := (HM4.out.below HB6.out).other HXO.out
        have hcx6 := hM6.cx
        have hzx6 := hM6.zx
        have HM7 := Lib.hid (hM6.put (.slice ya (gset R v L).length yc))
        clear hM6
        refine wpAnyH_take (i := 19) (v := ?_) rfl (by kernel_rfl) (by kernel_rfl) (by kernel_rfl) (fun _ _ _ h => h) (Or.inl ⟨by rfl, ?y19⟩) (by assumption) ?_
        case y19 => intro w hSw; (try dsimp only at hSw); go_simp; (try with_reducible rfl)
        (try simp only [Act.put, List.setIfInBounds_toArray, List.set_cons_zero, List.set_cons_succ, List.getElem_toArray, List.getElem_cons_zero, List.getElem_cons_succ])
        refine wpAnyH_take (i := 20) (v := ?_) rfl (by kernel_rfl) (by kernel_rfl) (by kernel_rfl) (fun _ _ _ h => h) (Or.inl ⟨by rfl, ?y20⟩) (by assumption) ?_
        case y20 => intro w hSw; (try dsimp only at hSw); go_simp; (try with_reducible rfl)
        (try simp only [Act.put, List.setIfInBounds_toArray, List.set_cons_zero, List.set_cons_succ, List.getElem_toArray, List.getElem_cons_zero, List.getElem_cons_succ])
        refine wpAnyH_take (i := 21) (v := ?_) rfl (by kernel_rfl) (by kernel_rfl) (by kernel_rfl) (fun _ _ _ h => h) (Or.inl ⟨by rfl, ?y21⟩) (by assumption) ?_
        case y21 => intro w hSw; (try dsimp only at hSw); go_simp; (try with_reducible rfl)
        (try simp only [Act.put, List.setIfInBounds_toArray, List.set_cons_zero, List.set_cons_succ, List.getElem_toArray, List.getElem_cons_zero, List.getElem_cons_succ])
        refine wpAnyH_done (by kernel_rfl) ?_ _
        go_wp2_with fail
        go_roundw
        · exact ⟨k + 1, gset R v L, F2, ya, yc, by omega, by go_num, HGL.out, HM7.out⟩
        · simp [RowKit.intOf]; omega
      · skip
        go_simp
        have hb9 := ((Below.refl w4.heap.size w4).drew).alloc (Nat.le_refl _) (.cells #[.slice none 0 0] 32)
        have hcy : (w4.drew.alloc (.cells #[.slice none 0 0] 32)).cell? ⟨w4.heap.size, 0, none⟩ = some (.slice none 0 0) := World.cell?_alloc_new w4.drew _ _ 0
        have hzy : (w4.drew.alloc (.cells #[.slice none 0 0] 32)).frozen? ⟨w4.heap.size, 0, none⟩ = false := by rw [frozen?_alloc_cells]; simp [World.frozen?]
        have hsy : w4.heap.size < (w4.drew.alloc (.cells #[.slice none 0 0] 32)).heap.size := by simp
        refine hKK.out _ _ (hs5.out _ hb9) (fun hHeld => ?_)
        clear hKK KK
        (try simp only [Act.put, List.setIfInBounds_toArray, List.set_cons_zero, List.set_cons_succ, List.getElem_toArray, List.getElem_cons_zero, List.getElem_cons_succ])
        refine wpAnyH_ready (rs := [11]) (by kernel_rfl) (by simp) ?_
        refine AllReadyH.cons rfl (fun KK hKK => ?_) AllReadyH.nil
        go_simp
        refine (hse.out (fun j => mdG F2 bx w.heap.size j ∨ j = w4.heap.size) _ (fun j q => by rcases q with q | q; exact (HM4.out.below hb9).foot j q; omega) (HM4.out.x.turn (T := fun _ => False) ⟨hb9.os, hb9.tape, hb9.output, hb9.size, fun k hk _ => hb9.block k hk⟩ (fun j q => q.elim) (fun j q => by rcases q with q | q; exact Or.inl q; exact Or.inr (by omega))) (hb9)).mono ?_; rintro e w5 ⟨x', rfl, hxo, hb5⟩
        have hxr := hxo.ref
        obtain ⟨ya, yc, _, rfl, _⟩ := hxr
        have hb5r := hb5
        have hb5 := (hb9).trans (hb5.mono (hb9).size)
        have hcy5 := (hb5r.cell (p := ⟨w4.heap.size, 0, none⟩) hsy).trans hcy
        have hzy5 := (hb5r.frozen (p := ⟨w4.heap.size, 0, none⟩) hsy).trans hzy
        clear hb5r hcy hzy
        refine hKK.out _ _ (hs5.out _ hb5) (fun hHeld => ?_)
        clear hKK KK
        (try simp only [Act.put, List.setIfInBounds_toArray, List.set_cons_zero, List.set_cons_succ, List.getElem_toArray, List.getElem_cons_zero, List.getElem_cons_succ])
        refine wpAnyH_take (i := 12) (v := ?_) rfl (by kernel_rfl) (by kernel_rfl) (by kernel_rfl) (fun _ _ _ h => h) (Or.inl ⟨by rfl, ?y12⟩) (by assumption) ?_
        case y12 => intro w hSw; (try dsimp only at hSw); go_simp; (try with_reducible rfl)
        (try simp only [Act.put, List.setIfInBounds_toArray, List.set_cons_zero, List.set_cons_succ, List.getElem_toArray, List.getElem_cons_zero, List.getElem_cons_succ])
        refine wpAnyH_take (i := 13) (v := ?_) rfl (by kernel_rfl) (by kernel_rfl) (by kernel_rfl) (fun _ _ _ h => h) (Or.inl ⟨by rfl, ?y13⟩) (by assumption) ?_
        case y13 => intro w hSw; (try dsimp only at hSw); go_simp; (try with_reducible rfl)
        (try simp only [Act.put, List.setIfInBounds_toArray, List.set_cons_zero, List.set_cons_succ, List.getElem_toArray, List.getElem_cons_zero, List.getElem_cons_succ])
        refine wpAnyH_take (i := 14) (v := ?_) rfl (by kernel_rfl) (by kernel_rfl) (by kernel_rfl) (fun _ _ _ h => h) (Or.inl ⟨by rfl, ?y14⟩) (by assumption) ?_
        case y14 => intro w hSw; (try dsimp only at hSw); go_simp; (try with_reducible rfl)
        (try simp only [Act.put, List.setIfInBounds_toArray, List.set_cons_zero, List.set_cons_succ, List.getElem_toArray, List.getElem_cons_zero, List.getElem_cons_succ])
        refine wpAnyH_take (i := 15) (v := ?_) rfl (by kernel_rfl) (by kernel_rfl) (by kernel_rfl) (fun _ _ _ h => h) (Or.inl ⟨by rfl, ?y15⟩) (by assumption) ?_
        case y15 => intro w hSw; (try dsimp only at hSw); go_simp; (try with_reducible rfl)
        (try simp only [Act.put, List.setIfInBounds_toArray, List.set_cons_zero, List.set_cons_succ, List.getElem_toArray, List.getElem_cons_zero, List.getElem_cons_succ])
        refine wpAnyH_take (i := 16) (v := ?_) rfl (by kernel_rfl) (by kernel_rfl) (by kernel_rfl) (fun _ _ _ h => h) (Or.inl ⟨by rfl, ?y16⟩) (by assumption) ?_
        case y16 => intro w hSw; (try dsimp only at hSw); go_simp; (try with_reducible rfl)
        (try simp only [Act.put, List.setIfInBounds_toArray, List.set_cons_zero, List.set_cons_succ, List.getElem_toArray, List.getElem_cons_zero, List.getElem_cons_succ])
        refine wpAnyH_ready (rs := [18]) (by kernel_rfl) (by simp) ?_
        refine AllReadyH.cons rfl (fun KK hKK => ?_) AllReadyH.nil
        go_simp
        have hb6 := hb5.setCell (p := ⟨w4.heap.size, 0, none⟩) (Nat.le_refl _) (.slice ya (gset R v L).length yc)
        have hxo6 := hxo.turn (T := fun j => j = w4.heap.size) (G' := mdG F2 bx w.heap.size) (turn_set (F := fun j => j = w4.heap.size) (p := ⟨w4.heap.size, 0, none⟩) (Turn.refl _ _) (Or.inl (show w4.heap.size = w4.heap.size from rfl)) (.slice ya (gset R v L).length yc)) (fun j q => Or.inr q) (fun j q => Or.inl (Or.inl q))
        refine hKK.out _ _ (hs5.out _ hb6) (fun hHeld => ?_)
        clear hKK KK
        (try simp only [Act.put, List.setIfInBounds_toArray, List.set_cons_zero, List.set_cons_succ, List.getElem_toArray, List.getElem_cons_zero, List.getElem_cons_succ])
        have HXO := Lib.hid hxo6; have HB6 := Lib.hid hb6
        have hby6 : (w5.setCell ⟨w4.heap.size, 0, none⟩ (.slice ya (gset R v L).length yc)).cell? ⟨w4.heap.size, 0, none⟩ = some (.slice ya (gset R v L).length yc) := World.cell?_setCell_same _ _ _ hcy5
        clear hxo6 hb6
        generalize w5.setCell ⟨w4.heap.size, 0, none⟩ (.slice ya (gset R v L).length yc) = w6 at *
        have hM6 := (HM4.out.below HB6.out).other HXO.out
        have hcx6 := hM6.cx
        have hzx6 := hM6.zx
        have HM7 := Lib.hid (hM6.put (.slice ya (gset R v L).length yc))
        clear hM6
        refine wpAnyH_take (i := 19) (v := ?_) rfl (by kernel_rfl) (by kernel_rfl) (by kernel_rfl) (fun _ _ _ h => h) (Or.inl ⟨by rfl, ?y19⟩) (by assumption) ?_
        case y19 => intro w hSw; (try dsimp only at hSw); go_simp; (try with_reducible rfl)
        (try simp only [Act.put, List.setIfInBounds_toArray, List.set_cons_zero, List.set_cons_succ, List.getElem_toArray, List.getElem_cons_zero, List.getElem_cons_succ])
        refine wpAnyH_take (i := 20) (v := ?_) rfl (by kernel_rfl) (by kernel_rfl) (by kernel_rfl) (fun _ _ _ h => h) (Or.inl ⟨by rfl, ?y20⟩) (by assumption) ?_
        case y20 => intro w hSw; (try dsimp only at hSw); go_simp; (try with_reducible rfl)
        (try simp only [Act.put, List.setIfInBounds_toArray, List.set_cons_zero, List.set_cons_succ, List.getElem_toArray, List.getElem_cons_zero, List.getElem_cons_succ])
        refine wpAnyH_take (i := 21) (v := ?_) rfl (by kernel_rfl) (by kernel_rfl) (by kernel_rfl) (fun _ _ _ h => h) (Or.inl ⟨by rfl, ?y21⟩) (by assumption) ?_
        case y21 => intro w hSw; (try dsimp only at hSw); go_simp; (try with_reducible rfl)
        (try simp only [Act.put, List.setIfInBounds_toArray, List.set_cons_zero, List.set_cons_succ, List.getElem_toArray, List.getElem_cons_zero, List.getElem_cons_succ])
        refine wpAnyH_done (by kernel_rfl) ?_ _
        go_wp2_with fail
        go_roundw
        · exact ⟨k + 1, gset R v L, F2, ya, yc, by omega, by go_num, HGL.out, HM7.out⟩
        · simp [RowKit.intOf]; omega
    · obtain rfl : k = l.length := by omega
      have hd0 : decide ((l.length : Int) < (l.length : Int)) = false := decide_eq_false (by omega)
      have hcx := hM.cx
      have hcrr := hM.cr
      have hzrr := hM.zr
      have HM := Lib.hid hM
      have ht9 : Turn (fun j => j = w.heap.size) wr (wr.setCell ⟨w.heap.size, 0, none⟩ (.slice xa R.length xc)).drew := (turn_set (F := fun j => j = w.heap.size) (p := ⟨w.heap.size, 0, none⟩) (Turn.refl _ _) (Or.inl (show w.heap.size = w.heap.size from rfl)) (.slice xa R.length xc)).trans (G := fun j => j = w.heap.size) (Turn.of_below ((Below.refl _ _).drew)) (fun j hj => Or.inl hj)
      have HEND : Hid (BothG w (wr.setCell ⟨w.heap.size, 0, none⟩ (.slice xa R.length xc)).drew B R F1 (.agg #[.slice xa R.length xc])) :=
        ⟨⟨hM.g.r.turn ht9 fun j hj e => hM.n2 (e ▸ hj), hM.g.b.trans (ht9.below (fun j hj => by omega) hM.g.b.size), hM.g.f⟩, (hM.x.turn (G' := mdG F1 bx w.heap.size) ht9 (fun j q => Or.inr (Or.inr q)) (fun j q => Or.inl q)).ref⟩
      have hr9 : (wr.setCell ⟨w.heap.size, 0, none⟩ (.slice xa R.length xc)).drew.cell? ⟨w.heap.size, 0, none⟩ = some (.slice xa R.length xc) := World.cell?_setCell_same _ _ _ hcrr
      clear hM ht9
      go_wp2_with fail
      go_region
      go_wp2_with fail
      exact bodyPost_ret (v := .tuple #[.pointer (some ⟨B, 0, none⟩), .agg #[.slice xa R.length xc], .bool true]) (by simp [results, Tryz.results8, go_sem, hr9]) rfl ⟨B, F1, _, rfl, HRL.out ▸ HEND.out⟩
theorem made_ok (n : Nat) (h1 : 1 ≤ n) (h12 : n ≤ 12) (a : Option Addr) (c : Nat) (l : List GA) (w : World) (h : ActsG w a l) (hf : gfew l = true) :
    Calls Tryz.prog 8 #[.int .i64 n, .slice a l.length c] w fun e w' => ∃ B R F x, e = .returned (.tuple #[.pointer (some ⟨B, 0, none⟩), x, .bool true]) ∧ BothG w w' B R F x :=
  (made_at n h1 h12 a c l w h hf).mono fun e w' ⟨B, F, x, h1, h2⟩ => ⟨B, _, F, x, h1, h2⟩
end Go.Proofs.YtbaeanpdjdcheaaGreat
