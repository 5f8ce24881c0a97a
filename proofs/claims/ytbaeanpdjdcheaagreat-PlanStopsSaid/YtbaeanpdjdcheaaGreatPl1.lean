/-
  What a law keeps for the closure that it hands to Run, and the closure; the landed calm and what it makes of a do. The conditions: the blocks. The landed plan's calm and lay: what a desk holds. The conditions: the graph's blocks; the planned nodes are nodes.
-/
import Derived.Test.YtbaeanpdjdcheaaGreatRf5
import Derived.Test.YtbaeanpdjdcheaaGreatIntB0
import Derived.Defers
import Derived.Recover
import Derived.Test.YtbaeanpdjdcheaaGreatOr3
namespace Go.Proofs.YtbaeanpdjdcheaaGreat
open Go.RowKit
set_option linter.unusedSimpArgs false
set_option linter.unusedVariables false

/- What a law keeps for the closure that it hands to Run, and the closure; the landed calm and what it makes of a do. The conditions: the blocks. -/
/-- The blocks that are turned while nodes are done: that of what is told, and the row of those that were called. -/
def TldF (tb : Nat) (u : Value) (j : Nat) : Prop := j = tb ∨ u.ownBlock = some j
/-- What is told so far, in block tb: those that were called; the row of truths, named in block xb. -/
structure TldJ (w : World) (base tb xb : Nat) (ta : Option Addr) (tc : Nat) (T : List Bool) (u : Value) (out : List Int) : Prop where
  c0 : w.cell? ⟨tb, 0, none⟩ = some (.slice none 0 0)
  c1 : w.cell? ⟨tb, 1, none⟩ = some u
  z0 : w.frozen? ⟨tb, 0, none⟩ = false
  z1 : w.frozen? ⟨tb, 1, none⟩ = false
  cx : w.cell? ⟨xb, 0, none⟩ = some (.slice ta T.length tc)
  rd : ReadsB w ta T
  own : OwnO (fun j => j = tb) w base 3 1 u out.length (out.map (Value.int .i64))
  lt : tb < base ∧ xb < base ∧ tb ≠ xb
  tt : ∀ b off, ta = some ⟨b, off, none⟩ → T ≠ [] → b < base ∧ b ≠ tb
  sz : base ≤ w.heap.size
section
variable {w w' : World} {base tb xb : Nat} {ta : Option Addr} {tc : Nat} {T : List Bool} {u : Value} {out : List Int}
theorem TldJ.foot (h : TldJ w base tb xb ta tc T u out) : ∀ j, TldF tb u j → j < w.heap.size := by
  rintro j (rfl | q)
  · exact World.block_lt_of_cell? w _ h.c0
  · exact (h.own.2 j q).1
/-- Other blocks are turned. -/
theorem TldJ.keep {G : Nat → Prop} (h : TldJ w base tb xb ta tc T u out) (t : Turn G w w') (hG : ∀ j, G j → base ≤ j ∧ ¬ TldF tb u j) : TldJ w' base tb xb ta tc T u out := by
  have nl : ∀ j, j < base → ¬ G j := fun j hj q => by have := (hG j q).1; omega
  have hs := h.sz
  refine ⟨(t.cell (a := ⟨tb, 0, none⟩) (show tb < _ by have := h.lt.1; omega) (nl _ h.lt.1)).trans h.c0, (t.cell (a := ⟨tb, 1, none⟩) (show tb < _ by have := h.lt.1; omega) (nl _ h.lt.1)).trans h.c1,
    (t.frozen (a := ⟨tb, 0, none⟩) (show tb < _ by have := h.lt.1; omega) (nl _ h.lt.1)).trans h.z0, (t.frozen (a := ⟨tb, 1, none⟩) (show tb < _ by have := h.lt.1; omega) (nl _ h.lt.1)).trans h.z1,
    (t.cell (a := ⟨xb, 0, none⟩) (show xb < _ by have := h.lt.2.1; omega) (nl _ h.lt.2.1)).trans h.cx, fun k hk => ?_,
    h.own.turn t (fun b q r => (hG b r).2 (Or.inr q)) (fun j q => Or.inl q), h.lt, h.tt, Nat.le_trans hs t.size⟩
  obtain ⟨b, off, rfl, hc⟩ := h.rd k hk
  have hb := (h.tt b off rfl (fun e => by rw [e] at hk; cases hk)).1
  exact ⟨b, off, rfl, (t.cell (a := ⟨b, off + k, none⟩) (show b < _ by omega) (nl _ hb)).trans hc⟩
theorem TldJ.push {w4 : World} {v' : Value} {v : Int} (h : TldJ w base tb xb ta tc T u out) (t : Turn (fun j => u.ownBlock = some j) w w4) (o : OwnO (fun j => j = tb) w4 base 3 1 v' (out.length + 1) (out.map (Value.int .i64) ++ [.int .i64 v]))
    (l : v'.ownBlock = u.ownBlock ∨ ∃ g, v'.ownBlock = some g ∧ w.heap.size ≤ g) : TldJ (w4.setCell ⟨tb, 1, none⟩ v') base tb xb ta tc T v' (out ++ [v]) ∧ Turn (TldF tb u) w (w4.setCell ⟨tb, 1, none⟩ v') ∧ ∀ j, TldF tb v' j → TldF tb u j ∨ w.heap.size ≤ j := by
  have htb := h.foot tb (Or.inl rfl)
  have hs := h.sz
  have hlt := h.lt
  have ntb : ¬ u.ownBlock = some tb := fun q => (h.own.2 tb q).2 rfl
  have lo : ∀ j, u.ownBlock = some j → base ≤ j := fun j q => (World.ownsRow.lt h.own.1 j q).1
  have nx : ¬ u.ownBlock = some xb := fun q => by have := lo _ q; omega
  have t2 : Turn (fun j => j = tb) w4 (w4.setCell ⟨tb, 1, none⟩ v') := turn_set (F := fun j => j = tb) (p := ⟨tb, 1, none⟩) (Turn.refl _ _) (Or.inl (show tb = tb from rfl)) _
  have d0 := (t.cell (a := ⟨tb, 0, none⟩) htb ntb).trans h.c0
  have d1 := (t.cell (a := ⟨tb, 1, none⟩) htb ntb).trans h.c1
  have dx := (t.cell (a := ⟨xb, 0, none⟩) (show xb < _ by omega) nx).trans h.cx
  have t3 : Turn (TldF tb u) w (w4.setCell ⟨tb, 1, none⟩ v') := (t.mono fun j q => Or.inr q).trans t2 fun j q => Or.inl (Or.inl q)
  have dz : (w4.setCell ⟨tb, 1, none⟩ v').cell? ⟨tb, 0, none⟩ = some (.slice none 0 0) := (World.cell?_setCell_other _ _ _ _ (by simp)).trans d0
  refine ⟨⟨dz, World.cell?_setCell_same _ _ _ d1, (World.frozen?_setCell _ _ _ _).trans ((t.frozen (a := ⟨tb, 0, none⟩) htb ntb).trans h.z0), (World.frozen?_setCell _ _ _ _).trans ((t.frozen (a := ⟨tb, 1, none⟩) htb ntb).trans h.z1),
    (World.cell?_setCell_other _ _ _ _ (fun q => by cases q)).trans dx, fun k hk => ?_, ?_, hlt, h.tt, Nat.le_trans hs t3.size⟩, t3, fun j q => ?_⟩
  · obtain ⟨b, off, rfl, hc⟩ := h.rd k hk
    obtain ⟨hb, hn⟩ := h.tt b off rfl (fun e => by rw [e] at hk; cases hk)
    exact ⟨b, off, rfl, (t3.cell (a := ⟨b, off + k, none⟩) (show b < _ by omega) (fun q => q.elim hn fun q => by have : base ≤ b := lo b q; omega)).trans hc⟩
  · have := o.turn t2 (fun b q r => (o.2 b q).2 r) (fun j q => Or.inl q) (F' := fun j => j = tb)
    simpa using this
  · rcases q with q | q
    · exact Or.inl (Or.inl q)
    · rcases l with l | ⟨g, l, hg⟩
      · exact Or.inl (Or.inr (l ▸ q))
      · rw [l] at q; cases q; exact Or.inr hg
/-- What the closure is told of a node that is done. -/
def TldQ (w w' : World) (base tb xb : Nat) (ta : Option Addr) (tc : Nat) (T : List Bool) (u : Value) (out : List Int) (v : Int) : Prop :=
  ∃ u', TldJ w' base tb xb ta tc T u' (out ++ [v]) ∧ Turn (TldF tb u) w w' ∧ ∀ j, TldF tb u' j → TldF tb u j ∨ w.heap.size ≤ j
set_option maxHeartbeats 4000000 in
set_option maxRecDepth 100000 in
theorem told_c (h : TldJ w base tb xb ta tc T u out) (hl : out.length ≤ 20000) (v : Int) :
    Calls Tryz.prog 27 #[.int .i64 v, .pointer (some ⟨tb, 0, none⟩), .pointer (some ⟨xb, 0, none⟩)] w fun e w' => e = .returned (.bool (chv T v)) ∧ TldQ w w' base tb xb ta tc T u out v := by
  obtain ⟨ra, rc, rfl⟩ := (ownsRow_slc h.own.1).form
  have c1 := h.c1
  have htb := h.foot tb (Or.inl rfl)
  have hsz := h.sz
  have HO := Lib.hid h.own
  have HJ := Lib.hid h
  clear h
  go_enter Tryz.func27, Tryz.ntmps27
  go_wp2_with
    (at_builtin
     refine wpList_push1 (w := w) rfl (.tmp 6) (.tmp 8) 23 rfl (fun j => j = tb) base 3 1 8 (.int .i64 0) Tryz.underlying23 int_info rfl (by decide) [.int .i64 v] rfl _ _ _ rfl HO.out (by simp [Act.eval]) (by intro u hu; simp at hu; subst hu; rfl) (by omega) (by decide) hsz (fun j q => q ▸ htb) ?_
     intro v4 w4 o4 t4 l4
     obtain ⟨ra', rc', rfl⟩ := (ownsRow_slc o4.1).form
     have hp := HJ.out.push t4 o4 l4
     have ntb : ¬ (Value.slice ra out.length rc).ownBlock = some tb := fun q => (HO.out.2 tb q).2 rfl
     have d1 := (t4.cell (a := ⟨tb, 1, none⟩) htb ntb).trans HJ.out.c1
     have y1 := (t4.frozen (a := ⟨tb, 1, none⟩) htb ntb).trans HJ.out.z1
     have x4 := hp.1.cx
     have q4 := r15ch hp.1.rd (c := tc) v
     have HP := Lib.hid hp
     clear o4 t4 l4 ntb hp)
  refine q4.mono ?_; clear q4; rintro e w5 ⟨rfl, hw⟩
  subst hw
  go_wp2_with fail
  go_ret
  exact ⟨rfl, _, HP.out⟩
/-- The do of a law's run, as a value. -/
abbrev DoV (tb xb : Nat) : Value := .func (.func 27) #[] #[.pointer (some ⟨tb, 0, none⟩), .pointer (some ⟨xb, 0, none⟩)]
theorem idle_p (p : Addr) (w : World) :
    CallsD Tryz.prog 69 #[.pointer (some p)] .returning w fun e u' w' => e = .returned (.tuple #[]) ∧ u' = .returning ∧ w' = w := by
  refine callsD_of_wpS Tryz.func69 rfl fun c₀ cs hu => ?_
  apply wpS_seq
  apply wpS_region
  simp [wpOpsS, go_sem, recoverD, hu, Tryz.ntmps69, Exit.thenS]
  refine wpS_cond (t := false) (by simp [Act.eval, Array.replicate]) ?_
  simp only [Bool.false_eq_true, if_false]
  refine wpS_of_wp (wp_skip ?_)
  cases c₀
  simp_all [bodyPostS, results, Tryz.results69]
set_option maxHeartbeats 4000000 in
set_option maxRecDepth 100000 in
/-- What calm makes of it: told as it is. -/
theorem calm_p {b : Nat} (h : TldJ w base tb xb ta tc T u out) (hb : w.cell? ⟨b, 0, none⟩ = some (DoV tb xb)) (hl : out.length ≤ 20000) (v : Int) :
    Calls Tryz.prog 68 #[.int .i64 v, .pointer (some ⟨b, 0, none⟩)] w fun e w' => e = .returned (.bool (chv T v)) ∧ TldQ w w' base tb xb ta tc T u out v := by
  have hmf : ∀ (fn : Fn) (first cap : Array Value) (w : World), (Instr.makeFunc fn first cap).run Tryz.prog w = .ok (.func fn first cap) w := fun _ _ _ _ => rfl
  have hb1 := below1 w (.cells #[.bool false] 4)
  have hb2 := (hb1.cell (p := ⟨b, 0, none⟩) (World.block_lt_of_cell? w _ hb)).trans hb
  have h1 := told_c (h.keep (Turn.of_below (F := fun _ => False) hb1) (fun j q => q.elim)) hl v
  have hr0 : (w.alloc (.cells #[.bool false] 4)).cell? ⟨w.heap.size, 0, none⟩ = some (.bool false) := by simp [go_sem]
  have hz0 : (w.alloc (.cells #[.bool false] 4)).frozen? ⟨w.heap.size, 0, none⟩ = false := by simp [go_sem]
  have hs1 : w.heap.size < (w.alloc (.cells #[.bool false] 4)).heap.size := by simp
  have hnF : ¬ TldF tb u w.heap.size := fun q => Nat.lt_irrefl _ (h.foot _ q)
  have hsz := h.sz
  obtain ⟨rb, hrb⟩ : ∃ rb, rb = w.heap.size := ⟨_, rfl⟩
  have HB := Lib.hid (And.intro hb1 (And.intro hs1 (And.intro hnF hrb)))
  clear h hb hb1 hs1 hnF
  go_enter_defers Tryz.func68, Tryz.ntmps68
  go_wp2_with fail
  rw [← hrb] at hr0 hz0 ⊢
  clear hrb
  generalize w.alloc (.cells #[.bool false] 4) = w1 at *
  refine h1.mono ?_; clear h1; rintro e w2 ⟨rfl, u', hJ, ht, hF⟩
  have hlt : rb < w1.heap.size := by rw [HB.out.2.2.2]; exact HB.out.2.1
  have hnr : ¬ TldF tb u rb := by rw [HB.out.2.2.2]; exact HB.out.2.2.1
  have hr := (ht.cell (a := ⟨rb, 0, none⟩) hlt hnr).trans hr0
  have hz := (ht.frozen (a := ⟨rb, 0, none⟩) hlt hnr).trans hz0
  have hnr' : ¬ TldF tb u' rb := fun q => (hF rb q).elim hnr (fun q => by omega)
  have hr2 : (w2.setCell ⟨rb, 0, none⟩ (.bool (chv T v))).cell? ⟨rb, 0, none⟩ = some (.bool (chv T v)) := World.cell?_setCell_same _ _ _ hr
  have t2 : Turn (fun j => j = rb) w2 (w2.setCell ⟨rb, 0, none⟩ (.bool (chv T v))) := turn_set (F := fun j => j = rb) (p := ⟨rb, 0, none⟩) (Turn.refl _ _) (Or.inl (show rb = rb from rfl)) _
  have hend : TldQ w (w2.setCell ⟨rb, 0, none⟩ (.bool (chv T v))) base tb xb ta tc T u out v := by
    refine ⟨u', hJ.keep t2 (fun j q => by rw [q]; exact ⟨by have := HB.out.2.2.2; omega, hnr'⟩), ?_, fun j q => (hF j q).imp id fun q => by have := HB.out.1.size; omega⟩
    exact ((Turn.of_below HB.out.1).trans ht (fun j q => Or.inl q)).trans t2 fun j q => Or.inr (by rw [q, HB.out.2.2.2]; exact Nat.le_refl _)
  have HEND := Lib.hid hend
  clear hJ ht hF hend t2 hnr' hnr
  go_wp2_with fail
  refine leaves_cons (f := 69) (args := #[.pointer (some ⟨rb, 0, none⟩)]) (by simp) (by simp [go_sem]) ?_
  refine (idle_p ⟨rb, 0, none⟩ _).mono ?_
  rintro e u' w'' ⟨rfl, rfl, rfl⟩
  simp [Leaves, settle, results, Tryz.results68, go_sem, hr2]
  exact HEND.out
end
/- The landed plan's calm and lay: what a desk holds. The conditions: the graph's blocks; the planned nodes are nodes. -/
theorem do_under : Tryz.prog.underlying 63 = some (.func #[3] #[4] false) := by kernel_rfl
theorem in_do (d : Nat) (fn : Fn) (a c : Array Value) (w : World) : (Op.equalIn (d + 1) 63 (.func fn a c) .nilFunc).run Tryz.prog w = .ok false w := by
  simp [Op.equalIn, run_underlying do_under]
theorem in_don (d : Nat) (w : World) : (Op.equalIn (d + 1) 63 .nilFunc .nilFunc).run Tryz.prog w = .ok true w := by
  simp [Op.equalIn, run_underlying do_under]
theorem eql_do (fn : Fn) (a c : Array Value) (w : World) : (binOp .eql 63 (.func fn a c) .nilFunc).run Tryz.prog w = .ok (.bool false) w := by
  simp only [binOp]
  simp [Op.equal, Op.maxDepth, in_do 9999]
theorem eql_nil (w : World) : (binOp .eql 63 .nilFunc .nilFunc).run Tryz.prog w = .ok (.bool true) w := by
  simp only [binOp]
  simp [Op.equal, Op.maxDepth, in_don 9999]
/-- What a desk keeps for a do: nil's own, or one that is told as it is. -/
def CalmQ (dov cv : Value) (base : Nat) (w : World) : Prop :=
  (dov = .nilFunc ∧ cv = .func (.func 67) #[] #[]) ∨ ∃ tb xb b, dov = DoV tb xb ∧ cv = .func (.func 68) #[] #[.pointer (some ⟨b, 0, none⟩)] ∧ base ≤ b ∧ w.cell? ⟨b, 0, none⟩ = some dov
theorem CalmQ.below {dov cv : Value} {base : Nat} {w w' : World} (h : CalmQ dov cv base w) (hb : Below w.heap.size w w') : CalmQ dov cv base w' := by
  rcases h with h | ⟨tb, xb, b, h1, h2, h3, h4⟩
  · exact Or.inl h
  · exact Or.inr ⟨tb, xb, b, h1, h2, h3, (hb.cell (p := ⟨b, 0, none⟩) (World.block_lt_of_cell? _ _ h4)).trans h4⟩
theorem CalmQ.form {dov cv : Value} {base : Nat} {w : World} (h : CalmQ dov cv base w) : ∃ fn cap, cv = .func fn #[] cap := by
  rcases h with ⟨_, rfl⟩ | ⟨_, _, _, _, rfl, _⟩
  · exact ⟨_, _, rfl⟩
  · exact ⟨_, _, rfl⟩
theorem CalmQ.low {dov cv : Value} {a b : Nat} {w : World} (h : CalmQ dov cv a w) (hb : b ≤ a) : CalmQ dov cv b w := by
  rcases h with h | ⟨tb, xb, c, h1, h2, h3, h4⟩
  · exact Or.inl h
  · exact Or.inr ⟨tb, xb, c, h1, h2, Nat.le_trans hb h3, h4⟩
theorem calm_v (w : World) (dov : Value) (hd : dov = .nilFunc ∨ ∃ tb xb, dov = DoV tb xb) :
    Calls Tryz.prog 48 #[dov] w fun e w' => ∃ cv, e = .returned cv ∧ CalmQ dov cv w.heap.size w' ∧ Below w.heap.size w w' := by
  have hmf : ∀ (fn : Fn) (first cap : Array Value) (w : World), (Instr.makeFunc fn first cap).run Tryz.prog w = .ok (.func fn first cap) w := fun _ _ _ _ => rfl
  have hb := below1 w (.cells #[dov] 63)
  have hc : (w.alloc (.cells #[dov] 63)).cell? ⟨w.heap.size, 0, none⟩ = some dov := by simp [go_sem]
  rcases hd with rfl | ⟨tb, xb, rfl⟩
  · have he := eql_nil
    go_enter Tryz.func48, Tryz.ntmps48
    go_wp2_with fail
    go_ret
    exact ⟨_, rfl, Or.inl ⟨rfl, rfl⟩, hb⟩
  · have he := eql_do
    go_enter Tryz.func48, Tryz.ntmps48
    go_wp2_with fail
    go_ret
    exact ⟨_, rfl, Or.inr ⟨tb, xb, _, rfl, rfl, Nat.le_refl _, hc⟩, hb⟩
/-- Jobs, cell by cell. -/
def jcells (js : List (Int × Bool × Value)) : List Value := js.flatMap fun j => [.int .i64 j.1, .bool j.2.1, j.2.2]
theorem jcells_push (js : List (Int × Bool × Value)) (t : Int × Bool × Value) : jcells (js ++ [t]) = jcells js ++ [.int .i64 t.1, .bool t.2.1, t.2.2] := by simp [jcells]
theorem jcells_at : ∀ (js : List (Int × Bool × Value)) (i : Nat) (t : Int × Bool × Value), js[i]? = some t → (jcells js)[i * 3]? = some (.int .i64 t.1) ∧ (jcells js)[i * 3 + 1]? = some (.bool t.2.1) ∧ (jcells js)[i * 3 + 2]? = some t.2.2
  | [], i, t, h => by simp at h
  | x :: js, 0, t, h => by
    have : x = t := by simpa using h
    subst this
    exact ⟨rfl, rfl, rfl⟩
  | x :: js, i + 1, t, h => by
    have ih := jcells_at js i t (by simpa using h)
    have e : jcells (x :: js) = .int .i64 x.1 :: .bool x.2.1 :: x.2.2 :: jcells js := rfl
    rw [e, show (i + 1) * 3 = i * 3 + 1 + 1 + 1 by omega]
    refine ⟨?_, ?_, ?_⟩
    · simpa using ih.1
    · simpa using ih.2.1
    · simpa using ih.2.2
theorem jobs_info : (Tryz.prog.info? 87).map (fun i => (i.zero, i.size, i.bytes)) = some (some (.agg #[.int .i64 0, .bool false, .slice none 0 0]), 3, 40) := by kernel_rfl
/-- The blocks beside the jobs' row. -/
def jF (gd : Nat) (js : List (Int × Bool × Value)) (j : Nat) : Prop := j = gd ∨ ∃ t ∈ js, t.2.2.ownBlock = some j
/-- While jobs are laid. -/
structure JbI (w0 wr : World) (gd : Nat) (R : List (List Int)) (D l : List Int) (v : Value) (js : List (Int × Bool × Value)) : Prop where
  le : js.length ≤ l.length
  own : OwnO (jF gd js) wr w0.heap.size 87 3 v js.length (jcells js)
  at' : ∀ i, i < js.length → ∃ u, js[i]? = some (l.getD i 0, decide (l.getD i 0 ∈ D), u) ∧ Sl wr u (greads R (l.getD i 0))
  rb : ∀ t ∈ js, ∀ b, t.2.2.ownBlock = some b → w0.heap.size ≤ b ∧ b < wr.heap.size
  dc : ∀ i, i < R.length → wr.cell? ⟨gd, i, none⟩ = some (.bool (decide (((i : Nat) : Int) ∈ D)))
  g0 : w0.heap.size ≤ gd ∧ gd < wr.heap.size
  b : Below w0.heap.size w0 wr
section
variable {w0 w w' : World} {gd : Nat} {R : List (List Int)} {D l : List Int} {v : Value} {js : List (Int × Bool × Value)}
theorem JbI.below (h : JbI w0 w gd R D l v js) (hb : Below w.heap.size w w') : JbI w0 w' gd R D l v js :=
  ⟨h.le, h.own.below hb, fun i hi => by obtain ⟨u, h1, h2⟩ := h.at' i hi; exact ⟨u, h1, h2.below hb⟩, fun t ht b q => ⟨(h.rb t ht b q).1, Nat.lt_of_lt_of_le (h.rb t ht b q).2 hb.size⟩,
    fun i hi => (hb.cell (p := ⟨gd, i, none⟩) h.g0.2).trans (h.dc i hi), ⟨h.g0.1, Nat.lt_of_lt_of_le h.g0.2 hb.size⟩, h.b.trans (hb.mono h.b.size)⟩
theorem sl_stay {w w' : World} {u : Value} {L : List Int} (h : Sl w u L) (hk : ∀ b, u.ownBlock = some b → b < w.heap.size → w'.heap[b]? = w.heap[b]?) : Sl w' u L := by
  obtain ⟨a, cap, rfl, h2, h3, h4, h5⟩ := h
  refine ⟨a, cap, rfl, h2, h3, h4, fun i hi => ?_⟩
  obtain ⟨b, off, rfl, hc⟩ := h5 i hi
  exact ⟨b, off, rfl, (World.cell?_of_block (a := ⟨b, off + i, none⟩) (hk b rfl (World.block_lt_of_cell? _ _ hc))).trans hc⟩
/-- What is room for one more, whose reads were told meanwhile. -/
theorem JbI.room {u : Value} {x : Int} {d : Bool} (h : JbI w0 w gd R D l v js) (hb : Below w.heap.size w w') (hu : ∀ b, u.ownBlock = some b → w.heap.size ≤ b ∧ b < w'.heap.size) : OwnO (jF gd (js ++ [(x, d, u)])) w' w0.heap.size 87 3 v js.length (jcells js) := by
  refine ⟨(h.own.below hb).1, fun b q => ⟨((h.own.below hb).2 b q).1, fun r => ?_⟩⟩
  have h1 := h.own.2 b q
  rcases r with r | ⟨t, ht, r⟩
  · exact h1.2 (Or.inl r)
  · rcases List.mem_append.1 ht with ht | ht
    · exact h1.2 (Or.inr ⟨t, ht, r⟩)
    · simp only [List.mem_singleton] at ht
      subst ht
      have := (hu b r).1
      have := h1.1
      omega
theorem JbI.push {W w4 : World} {u v' : Value} (h : JbI w0 w gd R D l v js) (hk : js.length < l.length) (hb : Below w.heap.size w W) (hr : W.ownsRow w.heap.size 3 1 u (greads R (l.getD js.length 0)).length ((greads R (l.getD js.length 0)).map (Value.int .i64))) (hin : ∀ z ∈ greads R (l.getD js.length 0), InR z)
    (o : OwnO (jF gd (js ++ [(l.getD js.length 0, decide (l.getD js.length 0 ∈ D), u)])) w4 w0.heap.size 87 3 v' (js.length + 1) (jcells js ++ [.int .i64 (l.getD js.length 0), .bool (decide (l.getD js.length 0 ∈ D)), u]))
    (t : Turn (fun j => v.ownBlock = some j) W w4) : JbI w0 w4 gd R D l v' (js ++ [(l.getD js.length 0, decide (l.getD js.length 0 ∈ D), u)]) := by
  have hw := h.below hb
  have hlo : ∀ j, v.ownBlock = some j → w0.heap.size ≤ j := fun j q => (World.ownsRow.lt h.own.1 j q).1
  have hgd : ¬ v.ownBlock = some gd := fun q => (h.own.2 gd q).2 (Or.inl rfl)
  have hub := World.ownsRow.lt hr
  have hvu : ∀ b, u.ownBlock = some b → ¬ v.ownBlock = some b := fun b q r => by have := (hub b q).1; have := (h.own.2 b r).1; omega
  have hsl : Sl W u (greads R (l.getD js.length 0)) := (show Own W w.heap.size u (greads R (l.getD js.length 0)) from hr).sl hin
  refine ⟨by simp; omega, by rw [jcells_push]; simpa using o, fun i hi => ?_, fun s hs b q => ?_, fun i hi => (t.cell (a := ⟨gd, i, none⟩) hw.g0.2 hgd).trans (hw.dc i hi), ⟨hw.g0.1, Nat.lt_of_lt_of_le hw.g0.2 t.size⟩, hw.b.trans (t.below hlo hw.b.size)⟩
  · simp only [List.length_append, List.length_singleton] at hi
    by_cases e : i = js.length
    · subst e
      exact ⟨u, by simp, sl_stay hsl fun b q hl => t.block b hl (hvu b q)⟩
    · obtain ⟨u2, h1, h2⟩ := hw.at' i (by omega)
      refine ⟨u2, by rw [List.getElem?_append_left (by omega)]; exact h1, sl_stay h2 fun b q hl => t.block b hl fun r => ?_⟩
      exact (h.own.2 b r).2 (Or.inr ⟨_, List.mem_of_getElem? h1, q⟩)
  · rcases List.mem_append.1 hs with hs | hs
    · exact ⟨(hw.rb s hs b q).1, Nat.lt_of_lt_of_le (hw.rb s hs b q).2 t.size⟩
    · simp only [List.mem_singleton] at hs
      subst hs
      have := hub b q
      exact ⟨by have := h.b.size; omega, Nat.lt_of_lt_of_le this.2 t.size⟩
end
/-- A desk: its do, its jobs. -/
structure DskP (w0 w : World) (B : Nat) (ja : Option Addr) (gj gc : Nat) (cv : Value) (R : List (List Int)) (D l : List Int) (RV : Nat → Value) : Prop where
  c0 : w.cell? ⟨B, 0, none⟩ = some cv
  c1 : w.cell? ⟨B, 1, none⟩ = some (.slice ja l.length gc)
  at' : ∀ i, i < l.length → ja = some ⟨gj, 0, none⟩ ∧ w.cell? ⟨gj, i * 3, none⟩ = some (.int .i64 (l.getD i 0)) ∧ w.cell? ⟨gj, i * 3 + 1, none⟩ = some (.bool (decide (l.getD i 0 ∈ D))) ∧ w.cell? ⟨gj, i * 3 + 2, none⟩ = some (RV i) ∧ Sl w (RV i) (greads R (l.getD i 0))
  rb : ∀ i, i < l.length → ∀ b, (RV i).ownBlock = some b → w0.heap.size ≤ b ∧ b < w.heap.size
  b0 : w0.heap.size ≤ B
  g0 : l ≠ [] → w0.heap.size ≤ gj ∧ gj < w.heap.size
  b : Below w0.heap.size w0 w
theorem JbI.desk {w0 w w6 : World} {gd : Nat} {R : List (List Int)} {D l : List Int} {js : List (Int × Bool × Value)} {va : Option Addr} {vc : Nat} {cv : Value} (h : JbI w0 w gd R D l (.slice va js.length vc) js) (hk : js.length = l.length) (hb : Below w.heap.size w w6) (t : TypeId) :
    ∃ gj RV, DskP w0 (w6.alloc (.cells #[cv, .slice va js.length vc] t)) w6.heap.size va gj vc cv R D l RV := by
  have hb2 := hb.trans ((below1 w6 (.cells #[cv, .slice va js.length vc] t)).mono hb.size)
  have h2 := h.below hb2
  obtain ⟨gj, hgj⟩ : ∃ gj, l ≠ [] → va = some ⟨gj, 0, none⟩ := by
    rcases h2.own.1.2 with ⟨_, q⟩ | ⟨g, cap, cur, e, _⟩
    · exact ⟨0, fun r => absurd (List.length_pos_iff.2 r) (by omega)⟩
    · cases e; exact ⟨g, fun _ => rfl⟩
  refine ⟨gj, fun i => (js.getD i (0, false, undef)).2.2, ⟨by simp [go_sem], by rw [← hk]; simp [go_sem], fun i hi => ?_, fun i hi b q => ?_, Nat.le_trans h.b.size hb.size, fun hl => ?_, h2.b⟩⟩
  · have hl : l ≠ [] := fun e => by rw [e] at hi; cases hi
    have hva := hgj hl
    subst hva
    obtain ⟨u, h3, h4⟩ := h2.at' i (by omega)
    obtain ⟨c1, c2, c3⟩ := jcells_at js i _ h3
    have hd : js.getD i (0, false, undef) = (l.getD i 0, decide (l.getD i 0 ∈ D), u) := by rw [List.getD_eq_getElem?_getD, h3]; rfl
    refine ⟨rfl, (World.ownsRow.cellAt h2.own.1 (i * 3) (by omega)).trans c1, (World.ownsRow.cellAt h2.own.1 (i * 3 + 1) (by omega)).trans c2, ?_, ?_⟩
    · show _ = some (js.getD i (0, false, undef)).2.2
      rw [hd]; exact (World.ownsRow.cellAt h2.own.1 (i * 3 + 2) (by omega)).trans c3
    · show Sl _ (js.getD i (0, false, undef)).2.2 _
      rw [hd]; exact h4
  · have q2 : (js.getD i (0, false, undef)).2.2.ownBlock = some b := q
    refine h2.rb _ ?_ b q2
    rw [List.getD_eq_getElem?_getD, List.getElem?_eq_getElem (by omega)]
    exact List.getElem_mem (by omega)
  · have hva := hgj hl
    subst hva
    exact World.ownsRow.lt h2.own.1 gj rfl
set_option maxHeartbeats 8000000 in
set_option maxRecDepth 100000 in
theorem lay_p {w00 w : World} {Bg : Nat} {R : List (List Int)} {Fg : Nat → Prop} (h : OneG w00 w Bg R Fg) (fa : Option Addr) (fc : Nat) (D : List Int) (hr : Reads w fa D) (hn : D.length ≤ 1000000) (pa : Option Addr) (pc : Nat) (l : List Int) (hp : Reads w pa l) (hl : l.length ≤ 20000) (hg : ∀ z ∈ l, gnd R.length z)
    (dov : Value) (hd : dov = .nilFunc ∨ ∃ tb xb, dov = DoV tb xb) :
    Calls Tryz.prog 28 #[.pointer (some ⟨Bg, 0, none⟩), .slice fa D.length fc, .slice pa l.length pc, dov] w fun e w' => ∃ B ja gj gc cv RV, e = .returned (.pointer (some ⟨B, 0, none⟩)) ∧ DskP w w' B ja gj gc cv R D l RV ∧ CalmQ dov cv w.heap.size w' := by
  have hI := h.r.1
  have hIh := hI.hi
  have hmb := mk_bools R.length hIh
  have hnd := nodes_o h
  have HG := Lib.hid h
  have HR := Lib.hid hr
  have HP := Lib.hid hp
  have HI := Lib.hid hI
  have HN := Lib.hid hg
  have HD := Lib.hid hd
  clear h hr hp hI hg hd
  go_enter Tryz.func28, Tryz.ntmps28
  go_wp2_with fail
  refine hnd.mono ?_; clear hnd; rintro e w1 ⟨rfl, hw⟩
  replace hw := hw.symm
  subst hw
  go_wp2_with fail
  have hb0 := below1 w (.cells (madeCells #[.bool false] R.length) 4)
  have H0 : Hid (LfI w (w.alloc (.cells (madeCells #[.bool false] R.length) 4)) w.heap.size R.length D 0) := by
    have q := heap_alloc_new w (.cells (madeCells #[.bool false] R.length) 4)
    exact ⟨fun i hi => ⟨by rw [cell_ofO i q, made_cells _ _ _ hi]; simp, free_of i q⟩, hb0⟩
  have hs0 : w.heap.size < (w.alloc (.cells (madeCells #[.bool false] R.length) 4)).heap.size := by simp
  generalize w.alloc (.cells (madeCells #[.bool false] R.length) 4) = w1 at *
  clear hmb hb0
  go_loopw [20] (fun i wr => ∃ k : Nat, k ≤ D.length ∧ i = .int .i64 (k : Int) ∧ LfI w wr w.heap.size R.length D k ∧ w.heap.size < wr.heap.size) (fun i _ => D.length - (RowKit.intOf i).toNat)
  case atStart => exact ⟨0, Nat.zero_le _, rfl, H0.out, hs0⟩
  case round =>
    clear H0 hs0
    obtain ⟨k, hk, rfl, hL, hs0⟩ := hrel
    by_cases hlt : k < D.length
    · obtain ⟨b, off, rfl, hcx⟩ := (HR.out.below hL.b).2 k hlt
      have i0 : (0 : Int) ≤ (k : Int) := by omega
      have i1 : (k : Int) < (D.length : Int) := by omega
      by_cases hg : gnd R.length (D.getD k 0)
      · obtain ⟨x, hx⟩ : ∃ x : Nat, D.getD k 0 = (x : Int) := ⟨(D.getD k 0).toNat, by unfold gnd at hg; omega⟩
        have hxl : x < R.length := by unfold gnd at hg; omega
        have HS := Lib.hid (And.intro (hL.store (Nat.le_refl _) hlt hx hxl) hs0)
        obtain ⟨c0, z0⟩ := hL.c x hxl
        rw [hx] at hcx
        have j0 : (0 : Int) ≤ (x : Int) := by omega
        have j1 : (x : Int) < (R.length : Int) := by omega
        have d0 : decide ((0 : Int) ≤ (x : Int)) = true := decide_eq_true j0
        have d1 : decide ((x : Int) < (R.length : Int)) = true := decide_eq_true j1
        have HLT := Lib.hid hlt
        clear hL hx hg hk hlt hs0
        go_wp2_with fail
        go_roundw
        · exact ⟨k + 1, HLT.out, by go_num, HS.out.1, by simpa [World.setCell] using HS.out.2⟩
        · have := HLT.out; simp [RowKit.intOf]; omega
      · have HS := Lib.hid (And.intro (hL.skip hlt hg) hs0)
        have HLT := Lib.hid hlt
        generalize D.getD k 0 = z at *
        by_cases h0 : 0 ≤ z
        · have d0 : decide ((0 : Int) ≤ z) = true := decide_eq_true h0
          have d1 : decide (z < (R.length : Int)) = false := decide_eq_false fun q => hg ⟨h0, q⟩
          clear hL hg hk hlt h0 hs0
          go_wp2_with fail
          go_roundw
          · exact ⟨k + 1, HLT.out, by go_num, HS.out.1, HS.out.2⟩
          · have := HLT.out; simp [RowKit.intOf]; omega
        · have d0 : decide ((0 : Int) ≤ z) = false := decide_eq_false h0
          clear hL hg hk hlt h0 hs0
          go_wp2_with fail
          go_roundw
          · exact ⟨k + 1, HLT.out, by go_num, HS.out.1, HS.out.2⟩
          · have := HLT.out; simp [RowKit.intOf]; omega
    · obtain rfl : k = D.length := by omega
      have hd0 : decide ((D.length : Int) < (D.length : Int)) = false := decide_eq_false (by omega)
      have hsz := hL.b.size
      have HL := Lib.hid (And.intro hL hs0)
      obtain ⟨ii, hi, hz0, hz1, hz2⟩ := info_parts jobs_info
      clear hL hk hlt hs0
      go_wp2_with (at_make; refine wpList_make_own _ rfl _ _ 84 rfl w.heap.size 87 ii (.agg #[.int .i64 0, .bool false, .slice none 0 0]) 3 Tryz.underlying84 hi hz0 hz1 .i64 .i64 _ l.length rfl rfl rfl (by rw [hz2]; omega) (by unfold maxLen; omega) hsz ?_; intro w5 hown5 hgrow5)
      have hb5 : Below wr.heap.size wr w5 := (Below.refl _ wr).grown hgrow5 (Nat.le_refl _) (fun k h => by cases h)
      obtain ⟨gd, hgd⟩ : ∃ gd, gd = w.heap.size := ⟨_, rfl⟩
      have H1 : Hid (JbI w w5 gd R D l (.slice (some ⟨wr.heap.size, 0, none⟩) 0 l.length) []) := by
        refine ⟨Nat.zero_le _, ⟨hown5, fun b q => ⟨(World.ownsRow.lt hown5 b q).2, fun r => ?_⟩⟩, fun i hi => absurd hi (Nat.not_lt_zero i), fun t ht => (by cases ht), fun i hi => ?_, ⟨by omega, by have := HL.out.2; have := hb5.size; omega⟩, HL.out.1.b.trans (hb5.mono hsz)⟩
        · rcases r with r | ⟨t, ht, _⟩
          · have q2 : wr.heap.size = b := by simpa [Value.ownBlock] using q
            have := HL.out.2; omega
          · cases ht
        · obtain ⟨q1, _⟩ := HL.out.1.c i hi
          rw [List.take_length] at q1
          subst hgd
          exact (hb5.cell (p := ⟨w.heap.size, i, none⟩) HL.out.2).trans q1
      have HGD := Lib.hid hgd
      rw [← hgd] at hsz ⊢
      clear hown5 hgrow5 hb5 HL hi hz0 hz1 hz2 hd0 hgd hsz
      go_loopw [12, 41] (fun v i wr => ∃ js : List (Int × Bool × Value), i = .int .i64 (js.length : Int) ∧ JbI w wr gd R D l v js) (fun _ i _ => l.length - (RowKit.intOf i).toNat)
      case atStart => exact ⟨[], rfl, H1.out⟩
      case round =>
        clear H1
        obtain ⟨js, rfl, hJ⟩ := hrel
        have hk := hJ.le
        by_cases hlt : js.length < l.length
        · have hgx := HN.out (l.getD js.length 0) (by rw [getD_lt _ _ hlt]; exact List.getElem_mem hlt)
          obtain ⟨x, hx⟩ : ∃ x : Nat, l.getD js.length 0 = ((x : Nat) : Int) := ⟨(l.getD js.length 0).toNat, by unfold gnd at hgx; omega⟩
          have hxl : x < R.length := by unfold gnd at hgx; omega
          obtain ⟨pb, po, rfl, hcp⟩ := (HP.out.below hJ.b).2 js.length hlt
          rw [hx] at hcp
          have i0 : (0 : Int) ≤ (js.length : Int) := by omega
          have i1 : (js.length : Int) < (l.length : Int) := by omega
          have j0 : (0 : Int) ≤ (x : Int) := by omega
          have j1 : (x : Int) < (R.length : Int) := by omega
          have hcd := hJ.dc x hxl
          obtain ⟨va, vc, rfl⟩ := (ownsRow_slc hJ.own.1).form
          have hdr := (Below.refl wr.heap.size wr).drew
          have q8 := reads_o (HG.out.below (hJ.b.trans (hdr.mono hJ.b.size))) ((x : Nat) : Int)
          have hin := inr_greads HI.out ((x : Nat) : Int)
          have hpush := fun W w4 u v' hb hr hin o t => JbI.push (W := W) (w4 := w4) (u := u) (v' := v') hJ hlt hb hr hin o t
          have hroom := fun W u hb hu => JbI.room (w' := W) (u := u) (x := ((x : Nat) : Int)) (d := decide (((x : Nat) : Int) ∈ D)) hJ hb hu
          rw [hx] at hpush
          have hsz := hJ.b.size
          have hnv : ¬ (Value.slice va js.length vc).ownBlock = some gd := fun q => (hJ.own.2 gd q).2 (Or.inl rfl)
          have hgl := hJ.g0.2
          have hft : ∀ j, jF gd js j → j < wr.heap.size := by
            rintro j (r | ⟨t, ht, r⟩)
            · rw [r]; exact hgl
            · exact (hJ.rb t ht j r).2
          have hS : Hid (∀ W', Below wr.heap.size wr W' → W'.cell? ⟨gd, x, none⟩ = some (.bool (decide (((x : Nat) : Int) ∈ D)))) := fun W' q => (q.cell (p := ⟨gd, x, none⟩) hgl).trans hcd
          have HPU := Lib.hid hpush; have HRO := Lib.hid hroom; have HIN := Lib.hid hin; have HFT := Lib.hid hft; have HLT := Lib.hid hlt; have HNV := Lib.hid hnv; have HGL := Lib.hid hgl
          generalize decide (((x : Nat) : Int) ∈ D) = d at *
          clear hJ hgx hx hcd hpush hroom hin hft hnv hgl hdr
          go_wp2_with fail
          refine wp_region_held_drew (S := fun wz => wz.cell? ⟨gd, x, none⟩ = some (.bool d)) (by kernel_rfl) (hS.out _ (Below.refl wr.heap.size wr).drew) (fun hHeld => ?_)
          refine wpAnyH_take (i := 0) (v := ?_) rfl (by kernel_rfl) (by kernel_rfl) (by kernel_rfl) (fun _ _ _ h => h) (Or.inl ⟨by rfl, ?y0⟩) (by assumption) ?_
          case y0 => intro w hSw; (try dsimp only at hSw); go_simp; (try with_reducible rfl)
          (try simp only [Act.put, List.setIfInBounds_toArray, List.set_cons_zero, List.set_cons_succ, List.getElem_toArray, List.getElem_cons_zero, List.getElem_cons_succ])
          refine wpAnyH_take (i := 1) (v := ?_) rfl (by kernel_rfl) (by kernel_rfl) (by kernel_rfl) (fun _ _ _ h => h) (Or.inl ⟨by rfl, ?y1⟩) (by assumption) ?_
          case y1 => intro w hSw; (try dsimp only at hSw); go_simp; (try with_reducible rfl)
          (try simp only [Act.put, List.setIfInBounds_toArray, List.set_cons_zero, List.set_cons_succ, List.getElem_toArray, List.getElem_cons_zero, List.getElem_cons_succ])
          refine wpAnyH_take (i := 2) (v := ?_) rfl (by kernel_rfl) (by kernel_rfl) (by kernel_rfl) (fun _ _ _ h => h) (Or.inl ⟨by rfl, ?y2⟩) (by assumption) ?_
          case y2 => intro w hSw; (try dsimp only at hSw); go_simp; (try with_reducible rfl)
          (try simp only [Act.put, List.setIfInBounds_toArray, List.set_cons_zero, List.set_cons_succ, List.getElem_toArray, List.getElem_cons_zero, List.getElem_cons_succ])
          refine wpAnyH_take (i := 3) (v := ?_) rfl (by kernel_rfl) (by kernel_rfl) (by kernel_rfl) (fun _ _ _ h => h) (Or.inl ⟨by rfl, ?y3⟩) (by assumption) ?_
          case y3 => intro w hSw; (try dsimp only at hSw); go_simp; (try with_reducible rfl)
          (try simp only [Act.put, List.setIfInBounds_toArray, List.set_cons_zero, List.set_cons_succ, List.getElem_toArray, List.getElem_cons_zero, List.getElem_cons_succ])
          refine wpAnyH_take (i := 4) (v := ?_) rfl (by kernel_rfl) (by kernel_rfl) (by kernel_rfl) (fun _ _ _ h => h) (Or.inl ⟨by rfl, ?y4⟩) (by assumption) ?_
          case y4 => intro w hSw; (try dsimp only at hSw); go_simp; (try with_reducible rfl)
          (try simp only [Act.put, List.setIfInBounds_toArray, List.set_cons_zero, List.set_cons_succ, List.getElem_toArray, List.getElem_cons_zero, List.getElem_cons_succ])
          refine wpAnyH_take (i := 5) (v := ?_) rfl (by kernel_rfl) (by kernel_rfl) (by kernel_rfl) (fun _ _ _ h => h) (Or.inl ⟨by rfl, ?y5⟩) (by assumption) ?_
          case y5 => intro w hSw; (try dsimp only at hSw); go_simp; (try with_reducible rfl)
          (try simp only [Act.put, List.setIfInBounds_toArray, List.set_cons_zero, List.set_cons_succ, List.getElem_toArray, List.getElem_cons_zero, List.getElem_cons_succ])
          refine wpAnyH_take (i := 6) (v := ?_) rfl (by kernel_rfl) (by kernel_rfl) (by kernel_rfl) (fun _ _ _ h => h) (Or.inl ⟨by rfl, ?y6⟩) (by assumption) ?_
          case y6 => intro w hSw; (try dsimp only at hSw); go_simp; (try with_reducible rfl)
          (try simp only [Act.put, List.setIfInBounds_toArray, List.set_cons_zero, List.set_cons_succ, List.getElem_toArray, List.getElem_cons_zero, List.getElem_cons_succ])
          refine wpAnyH_take (i := 7) (v := ?_) rfl (by kernel_rfl) (by kernel_rfl) (by kernel_rfl) (fun _ _ _ h => h) (Or.inl ⟨by rfl, ?y7⟩) (by assumption) ?_
          case y7 => intro w hSw; (try dsimp only at hSw); go_simp; (try with_reducible rfl)
          (try simp only [Act.put, List.setIfInBounds_toArray, List.set_cons_zero, List.set_cons_succ, List.getElem_toArray, List.getElem_cons_zero, List.getElem_cons_succ])
          refine wpAnyH_ready (rs := [8]) (by kernel_rfl) (by simp) ?_
          refine AllReadyH.cons rfl (fun K hK => ?_) AllReadyH.nil
          go_simp
          refine q8.mono ?_; clear q8; rintro e y8 ⟨u, rfl, ho, _, hb8⟩
          obtain ⟨ua, uc, rfl⟩ := (ownsRow_slc ho).form
          have hb8' : Below wr.heap.size wr y8 := ((Below.refl wr.heap.size wr).drew).trans hb8
          have H8 := Lib.hid (And.intro ho hb8')
          have HRM := Lib.hid (HRO.out y8 _ hb8' (fun b q => World.ownsRow.lt ho b q))
          have hs8 : w.heap.size ≤ y8.heap.size := Nat.le_trans hsz hb8'.size
          have hf8 : ∀ j, jF gd (js ++ [(((x : Nat) : Int), d, .slice ua (greads R ((x : Nat) : Int)).length uc)]) j → j < y8.heap.size := by
            rintro j (r | ⟨t, ht, r⟩)
            · exact Nat.lt_of_lt_of_le (HFT.out j (Or.inl r)) hb8'.size
            · rcases List.mem_append.1 ht with ht | ht
              · exact Nat.lt_of_lt_of_le (HFT.out j (Or.inr ⟨t, ht, r⟩)) hb8'.size
              · simp only [List.mem_singleton] at ht; subst ht; exact (World.ownsRow.lt ho j r).2
          have HF8 := Lib.hid hf8
          clear ho hb8 hf8
          refine hK.out _ _ (hS.out _ hb8') (fun hHeld => ?_)
          clear hK K
          (try simp only [Act.put, List.setIfInBounds_toArray, List.set_cons_zero, List.set_cons_succ, List.getElem_toArray, List.getElem_cons_zero, List.getElem_cons_succ])
          refine wpAnyH_take (i := 9) (v := ?_) rfl (by kernel_rfl) (by kernel_rfl) (by kernel_rfl) (fun _ _ _ h => h) (Or.inl ⟨by rfl, ?y9⟩) (by assumption) ?_
          case y9 => intro w hSw; (try dsimp only at hSw); go_simp; (try with_reducible rfl)
          (try simp only [Act.put, List.setIfInBounds_toArray, List.set_cons_zero, List.set_cons_succ, List.getElem_toArray, List.getElem_cons_zero, List.getElem_cons_succ])
          refine wpAnyH_ready (rs := [10]) (by kernel_rfl) (by simp) ?_
          refine AllReadyH.cons rfl (fun KK hKK => ?_) AllReadyH.nil
          go_simp
          refine hKK.out _ _ (hS.out _ (hb8'.trans ((below1 y8 _).mono hb8'.size))) (fun hHeld => ?_)
          clear hKK KK
          (try simp only [Act.put, List.setIfInBounds_toArray, List.set_cons_zero, List.set_cons_succ, List.getElem_toArray, List.getElem_cons_zero, List.getElem_cons_succ])
          refine wpAnyH_ready (rs := [11]) (by kernel_rfl) (by simp) ?_
          refine AllReadyH.cons rfl (fun KK hKK => ?_) AllReadyH.nil
          refine step_push1 rfl (.tmp 45) (.tmp 55) 84 rfl (jF gd (js ++ [(((x : Nat) : Int), d, .slice ua (greads R ((x : Nat) : Int)).length uc)])) w.heap.size 87 3 40 (.agg #[.int .i64 0, .bool false, .slice none 0 0]) Tryz.underlying84 jobs_info rfl (by decide) [.int .i64 ((x : Nat) : Int), .bool d, .slice ua (greads R ((x : Nat) : Int)).length uc] rfl (.slice va js.length vc) js.length (jcells js) (by simp [Act.eval, Act.put]) (w := y8) HRM.out (by simp [Act.eval, Act.put]) (by intro u hu; simp at hu; rcases hu with rfl | rfl | rfl <;> rfl) (by omega) (by decide) hs8 HF8.out ?_
          intro v3 w3 o3 t3 l3
          have hJ3 := HPU.out y8 w3 _ v3 hb8' H8.out.1 HIN.out o3 t3
          have hc3 : w3.cell? ⟨gd, x, none⟩ = some (.bool d) := (t3.cell (a := ⟨gd, x, none⟩) (Nat.lt_of_lt_of_le HGL.out hb8'.size) HNV.out).trans (hS.out _ hb8')
          have HJ3 := Lib.hid hJ3
          obtain ⟨v3a, v3c, rfl⟩ := (ownsRow_slc o3.1).form
          clear o3 t3 l3 hJ3
          refine hKK.out _ _ hc3 (fun hHeld => ?_)
          clear hKK KK
          (try simp only [Act.put, List.setIfInBounds_toArray, List.set_cons_zero, List.set_cons_succ, List.getElem_toArray, List.getElem_cons_zero, List.getElem_cons_succ])
          refine wpAnyH_take (i := 12) (v := ?_) rfl (by kernel_rfl) (by kernel_rfl) (by kernel_rfl) (fun _ _ _ h => h) (Or.inl ⟨by rfl, ?y12⟩) (by assumption) ?_
          case y12 => intro w hSw; (try dsimp only at hSw); go_simp; (try with_reducible rfl)
          (try simp only [Act.put, List.setIfInBounds_toArray, List.set_cons_zero, List.set_cons_succ, List.getElem_toArray, List.getElem_cons_zero, List.getElem_cons_succ])
          refine wpAnyH_done (by kernel_rfl) ?_ _
          have HJ4 := Lib.hid (HJ3.out.below (Below.refl _ _).drew)
          clear hc3
          go_wp2_with fail
          go_roundw
          · first | exact ⟨_, by rw [List.length_append]; go_num, HJ3.out⟩ | exact ⟨_, by rw [List.length_append]; go_num, HJ4.out⟩
          · have := HLT.out; simp [RowKit.intOf]; omega
        · have hkl : js.length = l.length := by omega
          have hd0 : decide ((js.length : Int) < (l.length : Int)) = false := decide_eq_false (by omega)
          have hd1 : decide (js.length < l.length) = false := decide_eq_false (by omega)
          have hcv := calm_v wr dov HD.out
          obtain ⟨va, vc, rfl⟩ := (ownsRow_slc hJ.own.1).form
          have HJ := Lib.hid hJ
          have HKL := Lib.hid hkl
          clear hJ hk hlt hkl
          go_wp2_with fail
          refine hcv.mono ?_; clear hcv; rintro e w6 ⟨cv, rfl, hcq, hb6⟩
          obtain ⟨cfn, ccap, rfl⟩ := hcq.form
          obtain ⟨gj, RV, hdk⟩ := HJ.out.desk (cv := .func cfn #[] ccap) HKL.out hb6 90
          have hcl := (hcq.below (below1 w6 (.cells #[.func cfn #[] ccap, .slice va js.length vc] 90))).low HJ.out.b.size
          have HDK := Lib.hid (And.intro hdk hcl)
          clear hcq hb6 hdk hcl
          go_wp2_with fail
          go_ret
          exact ⟨_, va, gj, vc, _, RV, rfl, HDK.out⟩
end Go.Proofs.YtbaeanpdjdcheaaGreat
