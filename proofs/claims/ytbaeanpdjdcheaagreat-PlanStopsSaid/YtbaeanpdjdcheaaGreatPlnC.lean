/-
  The landed desk's run, over whatever do: J tells what is kept of those that were called. The conditions: the desk's blocks; a do that keeps J.
-/
import Derived.Test.YtbaeanpdjdcheaaGreatPl1
import Derived.Test.YtbaeanpdjdcheaaGreatGrC
namespace Go.Proofs.YtbaeanpdjdcheaaGreat
open Go.RowKit MapSets
set_option linter.unusedSimpArgs false
set_option linter.unusedVariables false
set_option linter.unusedSectionVars false

theorem any_row (L : List Int) (f : Int → Bool) : ((List.range L.length).any fun k => f (L.getD k 0)) = L.any f := by
  rw [Bool.eq_iff_iff, List.any_eq_true, List.any_eq_true]
  constructor
  · rintro ⟨k, hk, h⟩
    have hk := List.mem_range.1 hk
    rw [getD_lt _ _ hk] at h
    exact ⟨L[k], List.getElem_mem hk, h⟩
  · rintro ⟨x, hx, h⟩
    obtain ⟨k, hk, e⟩ := List.mem_iff_getElem.1 hx
    exact ⟨k, List.mem_range.2 hk, by rw [getD_lt _ _ hk, e]; exact h⟩
set_option maxHeartbeats 1000000 in
theorem has_c {w : World} {cb mb : Nat} {f : Int → Bool} (hb : w.cell? ⟨cb, 0, none⟩ = some (.map (some mb))) (hf : MSet w mb f) (z : Int) (hz : InR z) :
    Calls Tryz.prog 49 #[.int .i64 z, .pointer (some ⟨cb, 0, none⟩)] w fun e w' => e = .returned (.bool (f z)) ∧ Below w.heap.size w w' := by
  have hlk := run_look gkit hf hz
  have hb1 := below1 w (.cells #[] 67)
  generalize f z = r at *
  clear hf
  go_enter Tryz.func49, Tryz.ntmps49
  go_wp2_with fail
  go_ret
  exact ⟨rfl, hb1⟩
/-- A desk's blocks, that were there. -/
def dskA (B gj : Nat) (l : List Int) (RV : Nat → Value) (j : Nat) : Prop := j = B ∨ (l ≠ [] ∧ j = gj) ∨ ∃ i, i < l.length ∧ (RV i).ownBlock = some j
/-- .. with those of its run. -/
def dskX (B gj mb cb : Nat) (l : List Int) (RV : Nat → Value) (j : Nat) : Prop := dskA B gj l RV j ∨ j = mb ∨ j = cb
section
variable {base B gj mb cb : Nat} {J : (Nat → Prop) → List Int → World → Prop} {F0 F F' G : Nat → Prop} {w wr w' : World} {ja : Option Addr} {cv dv dv' : Value} {R : List (List Int)} {D l cl dn dn' : List Int} {RV : Nat → Value} {f f' : Int → Bool} {v : Int}
/-- What a do keeps. -/
structure DoJ (base : Nat) (J : (Nat → Prop) → List Int → World → Prop) : Prop where
  keep : ∀ {F G : Nat → Prop} {cl : List Int} {W W' : World}, J F cl W → Turn G W W' → (∀ j, G j → base ≤ j ∧ ¬ F j) → J F cl W'
  foot : ∀ {F : Nat → Prop} {cl : List Int} {W : World}, J F cl W → ∀ j, F j → j < W.heap.size
/-- While the jobs are gone through. -/
structure DskI (base : Nat) (J : (Nat → Prop) → List Int → World → Prop) (F0 : Nat → Prop) (w wr : World) (B gj mb cb : Nat) (ja : Option Addr) (cv : Value) (R : List (List Int)) (D l : List Int) (RV : Nat → Value) (F : Nat → Prop) (cl : List Int) (f : Int → Bool) (dv : Value) (dn : List Int) : Prop where
  j : J F cl wr
  c0 : wr.cell? ⟨B, 0, none⟩ = some cv
  at' : ∀ i, i < l.length → ja = some ⟨gj, 0, none⟩ ∧ wr.cell? ⟨gj, i * 3, none⟩ = some (.int .i64 (l.getD i 0)) ∧ wr.cell? ⟨gj, i * 3 + 1, none⟩ = some (.bool (decide (l.getD i 0 ∈ D))) ∧ wr.cell? ⟨gj, i * 3 + 2, none⟩ = some (RV i) ∧ Sl wr (RV i) (greads R (l.getD i 0))
  cm : wr.cell? ⟨cb, 0, none⟩ = some (.map (some mb))
  m : MSet wr mb f
  xa : ∀ j, dskA B gj l RV j → j < base
  xm : base ≤ mb ∧ base ≤ cb ∧ mb ≠ cb
  xo : ∀ j, dskX B gj mb cb l RV j → Out F wr j
  own : OwnO (fun j => F j ∨ dskX B gj mb cb l RV j) wr base 3 1 dv dn.length (dn.map (Value.int .i64))
  t : Turn F0 w wr
  ff : ∀ j, F j → F0 j ∨ base ≤ j
  sz : base ≤ w.heap.size
  bz : w.heap.size ≤ base
theorem DskI.keep (hJ : DoJ base J) (h : DskI base J F0 w wr B gj mb cb ja cv R D l RV F cl f dv dn) (t : Turn G wr w') (hG : ∀ j, G j → base ≤ j ∧ ¬ F j ∧ j ≠ cb) (hm : MSet w' mb f') (ho : OwnO (fun j => F j ∨ dskX B gj mb cb l RV j) w' base 3 1 dv' dn'.length (dn'.map (Value.int .i64))) :
    DskI base J F0 w w' B gj mb cb ja cv R D l RV F cl f' dv' dn' := by
  have na : ∀ j, dskA B gj l RV j → ¬ G j := fun j q r => by have := h.xa j q; have := (hG j r).1; omega
  have la : ∀ j, dskA B gj l RV j → j < wr.heap.size := fun j q => (h.xo j (Or.inl q)).1
  refine ⟨hJ.keep h.j t (fun j q => ⟨(hG j q).1, (hG j q).2.1⟩), (t.cell (a := ⟨B, 0, none⟩) (la B (Or.inl rfl)) (na B (Or.inl rfl))).trans h.c0, fun i hi => ?_,
    (t.cell (a := ⟨cb, 0, none⟩) (h.xo cb (Or.inr (Or.inr rfl))).1 (fun q => (hG cb q).2.2 rfl)).trans h.cm, hm, h.xa, h.xm, fun j q => ⟨Nat.lt_of_lt_of_le (h.xo j q).1 t.size, (h.xo j q).2⟩, ho,
    h.t.trans t (fun j q => Or.inr (Nat.le_trans h.bz (hG j q).1)), h.ff, h.sz, h.bz⟩
  obtain ⟨h1, h2, h3, h4, h5⟩ := h.at' i hi
  have hl : l ≠ [] := fun e => by rw [e] at hi; cases hi
  have ng := na gj (Or.inr (Or.inl ⟨hl, rfl⟩))
  have lg := la gj (Or.inr (Or.inl ⟨hl, rfl⟩))
  exact ⟨h1, (t.cell (a := ⟨gj, i * 3, none⟩) lg ng).trans h2, (t.cell (a := ⟨gj, i * 3 + 1, none⟩) lg ng).trans h3, (t.cell (a := ⟨gj, i * 3 + 2, none⟩) lg ng).trans h4, sl_stay h5 fun b q hb => t.block b hb (na b (Or.inr (Or.inr ⟨i, hi, q⟩)))⟩
theorem DskI.below (hJ : DoJ base J) (h : DskI base J F0 w wr B gj mb cb ja cv R D l RV F cl f dv dn) (hb : Below wr.heap.size wr w') : DskI base J F0 w w' B gj mb cb ja cv R D l RV F cl f dv dn :=
  h.keep hJ (Turn.of_below (F := fun _ => False) hb) (fun j q => q.elim) (h.m.keep (hb.block mb (h.xo mb (Or.inr (Or.inl rfl))).1)) (h.own.below hb)
/-- A node is put into the map. -/
theorem DskI.store (hJ : DoJ base J) (h : DskI base J F0 w wr B gj mb cb ja cv R D l RV F cl f dv dn) (hm : MSet w' mb f') (hg : wr.grownBy w' (some mb)) : DskI base J F0 w w' B gj mb cb ja cv R D l RV F cl f' dv dn := by
  have t : Turn (fun j => j = mb) wr w' := (turn_grown hg).mono fun j q => by cases q; rfl
  exact h.keep hJ t (fun j q => by subst q; exact ⟨h.xm.1, (h.xo _ (Or.inr (Or.inl rfl))).2, h.xm.2.2⟩) hm (h.own.turn t (fun b q r => (h.own.2 b q).2 (Or.inr (Or.inr (Or.inl r)))) (fun j q => Or.inl q))
/-- A node is put behind those that were done. -/
theorem DskI.push (hJ : DoJ base J) (h : DskI base J F0 w wr B gj mb cb ja cv R D l RV F cl f dv dn) (t : Turn (fun j => dv.ownBlock = some j) wr w') (ho : OwnO (fun j => F j ∨ dskX B gj mb cb l RV j) w' base 3 1 dv' (dn.length + 1) (dn.map (Value.int .i64) ++ [.int .i64 v])) :
    DskI base J F0 w w' B gj mb cb ja cv R D l RV F cl f dv' (dn ++ [v]) := by
  have ho2 : OwnO (fun j => F j ∨ dskX B gj mb cb l RV j) w' base 3 1 dv' (dn ++ [v]).length ((dn ++ [v]).map (Value.int .i64)) := by simpa using ho
  refine h.keep hJ t (fun j q => ⟨(World.ownsRow.lt h.own.1 j q).1, fun r => (h.own.2 j q).2 (Or.inl r), fun r => (h.own.2 j q).2 (Or.inr (Or.inr (Or.inr r)))⟩) (h.m.keep ?_) ho2
  exact t.block mb (h.xo mb (Or.inr (Or.inl rfl))).1 fun q => (h.own.2 mb q).2 (Or.inr (Or.inr (Or.inl rfl)))
/-- A node is done. -/
theorem DskI.called (h : DskI base J F0 w wr B gj mb cb ja cv R D l RV F cl f dv dn) (hj : J F' (cl ++ [v]) w') (t : Turn F wr w') (hF : ∀ j, F' j → F j ∨ wr.heap.size ≤ j) : DskI base J F0 w w' B gj mb cb ja cv R D l RV F' (cl ++ [v]) f dv dn := by
  have nx : ∀ j, dskX B gj mb cb l RV j → ¬ F j := fun j q => (h.xo j q).2
  have lx : ∀ j, dskX B gj mb cb l RV j → j < wr.heap.size := fun j q => (h.xo j q).1
  have hb : dskX B gj mb cb l RV B := Or.inl (Or.inl rfl)
  have hc : dskX B gj mb cb l RV cb := Or.inr (Or.inr rfl)
  have hm : dskX B gj mb cb l RV mb := Or.inr (Or.inl rfl)
  refine ⟨hj, (t.cell (a := ⟨B, 0, none⟩) (lx B hb) (nx B hb)).trans h.c0, fun i hi => ?_, (t.cell (a := ⟨cb, 0, none⟩) (lx cb hc) (nx cb hc)).trans h.cm, h.m.keep (t.block mb (lx mb hm) (nx mb hm)), h.xa, h.xm,
    fun j q => (h.xo j q).turn t hF, h.own.turn t (fun b q r => (h.own.2 b q).2 (Or.inl r)) (fun j q => ?_), h.t.trans t (fun j q => (h.ff j q).imp id fun q => Nat.le_trans h.bz q), fun j q => ?_, h.sz, h.bz⟩
  · obtain ⟨h1, h2, h3, h4, h5⟩ := h.at' i hi
    have hl : l ≠ [] := fun e => by rw [e] at hi; cases hi
    have hg : dskX B gj mb cb l RV gj := Or.inl (Or.inr (Or.inl ⟨hl, rfl⟩))
    exact ⟨h1, (t.cell (a := ⟨gj, i * 3, none⟩) (lx gj hg) (nx gj hg)).trans h2, (t.cell (a := ⟨gj, i * 3 + 1, none⟩) (lx gj hg) (nx gj hg)).trans h3, (t.cell (a := ⟨gj, i * 3 + 2, none⟩) (lx gj hg) (nx gj hg)).trans h4, sl_stay h5 fun b q hb => t.block b hb (nx b (Or.inl (Or.inr (Or.inr ⟨i, hi, q⟩))))⟩
  · rcases q with q | q
    · exact (hF j q).imp Or.inl id
    · exact Or.inl (Or.inr q)
  · rcases hF j q with q | q
    · exact h.ff j q
    · exact Or.inr (Nat.le_trans h.sz (Nat.le_trans h.t.size q))
end
/-- The function of those that changed. -/
def chd (ch : Int → Bool) (dn : List Int) (z : Int) : Bool := decide (z ∈ dn) && ch z
theorem chd_yes {ch : Int → Bool} {dn : List Int} {v : Int} (h : ch v = true) : (fun j => decide (j = v) || chd ch dn j) = chd ch (dn ++ [v]) := by
  funext j
  unfold chd
  by_cases e : j = v
  · subst e; simp [h]
  · simp [e]
theorem chd_no {ch : Int → Bool} {dn : List Int} {v : Int} (h : ch v = false) : chd ch dn = chd ch (dn ++ [v]) := by
  funext j
  unfold chd
  by_cases e : j = v
  · subst e; simp [h]
  · simp [e]
theorem mst_chd {R : List (List Int)} {D dn : List Int} {ch : Int → Bool} {v : Int} : mst R D ch dn v = (decide (v ∈ D) || (greads R v).any (chd ch dn)) := rfl
set_option maxHeartbeats 16000000 in
set_option maxRecDepth 100000 in
theorem deskrun_f {w0 w : World} {B gj gc : Nat} {ja : Option Addr} {R : List (List Int)} {D l : List Int} {RV : Nat → Value} {J : (Nat → Prop) → List Int → World → Prop} {F0 : Nat → Prop} {ch : Int → Bool} (Fd : FuncId) (pv : Value)
    (he : ∀ args w, (callFunc Fd args).run Tryz.prog w = .ok (.enter Fd args) w) (hJ : DoJ w.heap.size J) (hp : DskP w0 w B ja gj gc (.func (.func Fd) #[] #[pv]) R D l RV) (hj : J F0 [] w) (hx : ∀ j, dskA B gj l RV j → ¬ F0 j)
    (hI : GrI R) (hl : l.length ≤ 20000) (hg : ∀ z ∈ l, gnd R.length z)
    (hdo : ∀ F cl W v, J F cl W → cl.length ≤ 20000 → Calls Tryz.prog Fd #[.int .i64 v, pv] W fun e W' => e = .returned (.bool (ch v)) ∧ ∃ F', J F' (cl ++ [v]) W' ∧ Turn F W W' ∧ ∀ j, F' j → F j ∨ W.heap.size ≤ j) :
    Calls Tryz.prog 29 #[.pointer (some ⟨B, 0, none⟩)] w fun e w' => ∃ u, e = .returned u ∧ Own w' w.heap.size u (don R D ch l) ∧ ∃ F', J F' (don R D ch l) w' ∧ Turn F0 w w' ∧ ∀ j, F' j → F0 j ∨ w.heap.size ≤ j := by
  have hmf : ∀ (fn : Fn) (first cap : Array Value) (w : World), (Instr.makeFunc fn first cap).run Tryz.prog w = .ok (.func fn first cap) w := fun _ _ _ _ => rfl
  have hmm := @run_makeMap Tryz.prog
  have hIh := hI.hi
  have c1 := hp.c1
  have hb2 := below2 w (.map #[] 0) (.cells #[.map (some w.heap.size)] 69)
  have hs1 : (w.alloc (.map #[] 0)).heap.size = w.heap.size + 1 := by simp
  have hk : ∀ j, dskA B gj l RV j → j < w.heap.size := by
    rintro j (rfl | ⟨q, rfl⟩ | ⟨i, hi, q⟩)
    · exact World.block_lt_of_cell? _ _ hp.c0
    · exact (hp.g0 q).2
    · exact (hp.rb i hi j q).2
  have HI1 : Hid (DskI w.heap.size J F0 w ((w.alloc (.map #[] 0)).alloc (.cells #[.map (some w.heap.size)] 69)) B gj w.heap.size (w.heap.size + 1) ja (.func (.func Fd) #[] #[pv]) R D l RV F0 [] (chd ch []) (.slice none 0 0) []) := by
    have hm : MSet ((w.alloc (.map #[] 0)).alloc (.cells #[.map (some w.heap.size)] 69)) w.heap.size (chd ch []) := (MapSet.keep (made w) (heap_alloc_old _ _ (by omega))).same fun k _ => by simp [chd]
    refine ⟨hJ.keep hj (Turn.of_below (F := fun _ => False) hb2) (fun j q => q.elim), (hb2.cell (p := ⟨B, 0, none⟩) (hk B (Or.inl rfl))).trans hp.c0, fun i hi => ?_, by rw [← hs1]; simp [go_sem], hm, hk, ⟨Nat.le_refl _, by omega, by omega⟩, ?_, OwnO.nil _ _ _ _ _, Turn.of_below hb2, fun j q => Or.inl q, Nat.le_refl _, Nat.le_refl _⟩
    · obtain ⟨h1, h2, h3, h4, h5⟩ := hp.at' i hi
      have lg := hk gj (Or.inr (Or.inl ⟨fun e => (by rw [e] at hi; cases hi), rfl⟩))
      exact ⟨h1, (hb2.cell (p := ⟨gj, i * 3, none⟩) lg).trans h2, (hb2.cell (p := ⟨gj, i * 3 + 1, none⟩) lg).trans h3, (hb2.cell (p := ⟨gj, i * 3 + 2, none⟩) lg).trans h4, h5.below hb2⟩
    · have hft := hJ.foot hj
      rintro j (q | q | q)
      · exact ⟨Nat.lt_of_lt_of_le (hk j q) hb2.size, hx j q⟩
      · subst q; exact ⟨by simp; omega, fun r => Nat.lt_irrefl _ (hft _ r)⟩
      · subst q; exact ⟨by simp, fun r => by have := hft _ r; omega⟩
  have c1' := (hb2.cell (p := ⟨B, 1, none⟩) (World.block_lt_of_cell? _ _ c1)).trans c1
  have HJ := Lib.hid hJ; have HD := Lib.hid hdo; have HG := Lib.hid hg; have HI := Lib.hid hI
  clear hJ hdo hg hI hp hj hx hk hb2 c1
  go_enter Tryz.func29, Tryz.ntmps29
  go_wp2_with fail
  generalize (w.alloc (.map #[] 0)).alloc (.cells #[.map (some w.heap.size)] 69) = w2 at *
  obtain ⟨cb, hcb⟩ : ∃ cb, cb = w.heap.size + 1 := ⟨_, rfl⟩
  rw [← hcb] at HI1 ⊢
  clear hcb hs1
  go_loopw [5, 15] (fun dv i wr => ∃ (k : Nat) (F : Nat → Prop), k ≤ l.length ∧ i = .int .i64 (k : Int) ∧ DskI w.heap.size J F0 w wr B gj w.heap.size cb ja (.func (.func Fd) #[] #[pv]) R D l RV F (don R D ch (l.take k)) (chd ch (don R D ch (l.take k))) dv (don R D ch (l.take k))) (fun _ i _ => l.length - (RowKit.intOf i).toNat)
  case atStart => exact ⟨0, F0, Nat.zero_le _, rfl, by rw [List.take_zero]; exact HI1.out⟩
  case round =>
    clear HI1 c1'
    obtain ⟨k, F, hk, rfl, hJI⟩ := hrel
    by_cases hlt : k < l.length
    · obtain ⟨hja, a0, a1, a2, hsl⟩ := hJI.at' k hlt
      subst hja
      have hgx := HG.out (l.getD k 0) (by rw [getD_lt _ _ hlt]; exact List.getElem_mem hlt)
      have hdl := don_lenk (R := R) (D := D) (ch := ch) hk
      have hdm : ∀ z, chd ch (don R D ch (l.take k)) z = true → 0 ≤ z ∧ z < (R.length : Int) := fun z hz => by
        unfold chd at hz
        rw [Bool.and_eq_true, decide_eq_true_iff] at hz
        exact HG.out z (List.mem_of_mem_take (don_of hz.1))
      have HY := Lib.hid (fun (q : mst R D ch (don R D ch (l.take k)) (l.getD k 0) = true) => don_yes (R := R) (D := D) (ch := ch) hlt q)
      have HN := Lib.hid (fun (q : mst R D ch (don R D ch (l.take k)) (l.getD k 0) = false) => don_no (R := R) (D := D) (ch := ch) hlt q)
      have HLT := Lib.hid hlt
      rw [mst_chd] at HY HN
      generalize l.getD k 0 = v at *
      have hvr : InR v := by unfold gnd at hgx; unfold InR; omega
      obtain ⟨ra, rc, hrv, r1, r2, r3⟩ := hsl
      rw [hrv] at a2
      have hLr := inr_greads HI.out v
      have hLl : (greads R v).length ≤ 1000000 := by
        unfold greads; rw [if_pos hgx]
        exact Nat.le_trans (HI.out.len _) (by omega)
      generalize greads R v = L at *
      obtain ⟨dn, hdn⟩ : ∃ dn, dn = don R D ch (l.take k) := ⟨_, rfl⟩
      rw [← hdn] at hJI hdl hdm HY HN
      obtain ⟨da, dc, rfl⟩ := (ownsRow_slc hJI.own.1).form
      have hft := HJ.out.foot hJI.j
      have hb1 := below1 wr (.cells #[.int .i64 v, .bool (decide (v ∈ D)), .slice ra L.length rc] 87)
      have HDW := Lib.hid (hJI.below HJ.out hb1)
      have HRD := Lib.hid (r3.below hb1)
      have j0 : (wr.alloc (.cells #[.int .i64 v, .bool (decide (v ∈ D)), .slice ra L.length rc] 87)).cell? ⟨wr.heap.size, 0, none⟩ = some (.int .i64 v) := by simp [go_sem]
      have j1 : (wr.alloc (.cells #[.int .i64 v, .bool (decide (v ∈ D)), .slice ra L.length rc] 87)).cell? ⟨wr.heap.size, 1, none⟩ = some (.bool (decide (v ∈ D))) := by simp [go_sem]
      have j2 : (wr.alloc (.cells #[.int .i64 v, .bool (decide (v ∈ D)), .slice ra L.length rc] 87)).cell? ⟨wr.heap.size, 2, none⟩ = some (.slice ra L.length rc) := by simp [go_sem]
      have hjs : wr.heap.size < (wr.alloc (.cells #[.int .i64 v, .bool (decide (v ∈ D)), .slice ra L.length rc] 87)).heap.size := by simp
      have hjm : w.heap.size < wr.heap.size := (hJI.xo _ (Or.inr (Or.inl rfl))).1
      have hjF : ¬ F wr.heap.size := fun q => Nat.lt_irrefl _ (hft _ q)
      have i0 : (0 : Int) ≤ (k : Int) := by omega
      have i1 : (k : Int) < (l.length : Int) := by omega
      have HFT := Lib.hid hft
      have HLR := Lib.hid hLr
      have HDM := Lib.hid hdm
      have HDN := Lib.hid hdn
      clear hJI hrv r1 r2 r3 hLr hgx hdm hdn hft hlt hb1
      go_upto_region 7 with fail
      generalize wr.alloc (.cells #[.int .i64 v, .bool (decide (v ∈ D)), .slice ra L.length rc] 87) = W1 at *
      obtain ⟨jb, hjb⟩ : ∃ jb, jb = wr.heap.size := ⟨_, rfl⟩
      rw [← hjb] at j0 j1 j2 hjs hjF hjm ⊢
      clear hjb a0 a1 a2
      cases hd : decide (v ∈ D) with
      | true =>
        rw [hd] at j1
        rw [hd, Bool.true_or] at HY
        have HQ := Lib.hid (HY.out rfl)
        clear HY HN hd HRD j2
        go_wp2_with fail
        have hjd := HJ.out.keep HDW.out.j (Turn.of_below (F := fun _ => False) ((Below.refl W1.heap.size W1).drew)) (fun j q => q.elim)
        have hcl := HD.out F dn W1.drew v hjd (by omega)
        have hbc := HDW.out.c0
        clear hjd
        refine wp_region_held_drew (S := fun wz => wz.cell? ⟨B, 0, none⟩ = some (.func (.func Fd) #[] #[pv]) ∧ wz.cell? ⟨jb, 0, none⟩ = some (.int .i64 v)) (by kernel_rfl) (⟨hbc, j0⟩) (fun hHeld => ?_)
        refine wpAnyH_take (i := 0) (v := ?_) rfl (by kernel_rfl) (by kernel_rfl) (by kernel_rfl) (fun _ _ _ h => h) (Or.inl ⟨by rfl, ?y0⟩) (by assumption) ?_
        case y0 => intro w hSw; (try dsimp only at hSw); go_simp; (try with_reducible rfl)
        (try simp only [Act.put, List.setIfInBounds_toArray, List.set_cons_zero, List.set_cons_succ, List.getElem_toArray, List.getElem_cons_zero, List.getElem_cons_succ])
        refine wpAnyH_take (i := 1) (v := ?_) rfl (by kernel_rfl) (by kernel_rfl) (by kernel_rfl) (fun _ _ _ h => h) (Or.inl ⟨by rfl, ?y1⟩) (by assumption) ?_
        case y1 => intro w hSw; (try dsimp only at hSw); go_simp; (try with_reducible rfl)
        (try simp only [Act.put, List.setIfInBounds_toArray, List.set_cons_zero, List.set_cons_succ, List.getElem_toArray, List.getElem_cons_zero, List.getElem_cons_succ])
        refine wpAnyH_take (i := 2) (v := ?_) rfl (by kernel_rfl) (by kernel_rfl) (by kernel_rfl) (fun _ _ _ h => h) (Or.inl ⟨by rfl, ?y2⟩) (by assumption) ?_
        case y2 => intro w hSw; (try dsimp only at hSw); go_simp; (try with_reducible rfl)
        (try simp only [Act.put, List.setIfInBounds_toArray, List.set_cons_zero, List.set_cons_succ, List.getElem_toArray, List.getElem_cons_zero, List.getElem_cons_succ])
        refine wpAnyH_take (i := 3) (v := ?_) rfl (by kernel_rfl) (by kernel_rfl) (by kernel_rfl) (fun _ _ _ h => h) (Or.inl ⟨by rfl, ?y3⟩) (by assumption) ?_
        case y3 => intro w hSw; (try dsimp only at hSw); go_simp; (try with_reducible rfl)
        (try simp only [Act.put, List.setIfInBounds_toArray, List.set_cons_zero, List.set_cons_succ, List.getElem_toArray, List.getElem_cons_zero, List.getElem_cons_succ])
        refine wpAnyH_take (i := 4) (v := ?_) rfl (by kernel_rfl) (by kernel_rfl) (by kernel_rfl) (fun _ _ _ h => h) (Or.inl ⟨by rfl, ?y4⟩) (by assumption) ?_
        case y4 => intro w hSw; (try dsimp only at hSw); go_simp; (try with_reducible rfl)
        (try simp only [Act.put, List.setIfInBounds_toArray, List.set_cons_zero, List.set_cons_succ, List.getElem_toArray, List.getElem_cons_zero, List.getElem_cons_succ])
        refine wpAnyH_take (i := 5) (v := ?_) rfl (by kernel_rfl) (by kernel_rfl) (by kernel_rfl) (fun _ _ _ h => h) (Or.inl ⟨by rfl, ?y5⟩) (by assumption) ?_
        case y5 => intro w hSw; (try dsimp only at hSw); go_simp; (try with_reducible rfl)
        (try simp only [Act.put, List.setIfInBounds_toArray, List.set_cons_zero, List.set_cons_succ, List.getElem_toArray, List.getElem_cons_zero, List.getElem_cons_succ])
        refine wpAnyH_ready (rs := [6]) (by kernel_rfl) (by simp) ?_
        refine AllReadyH.cons rfl (fun K hK => ?_) AllReadyH.nil
        go_simp
        refine hcl.mono ?_; clear hcl; rintro e y8 ⟨rfl, F', hj8, ht8, hF8⟩
        have ht8' : Turn F W1 y8 := (Turn.of_below (F := F) ((Below.refl W1.heap.size W1).drew)).trans ht8 (fun j q => Or.inl q)
        have hF8' : ∀ j, F' j → F j ∨ W1.heap.size ≤ j := hF8
        have hjd := HDW.out
        have HDY := Lib.hid (hjd.called hj8 ht8' hF8')
        have c8 := HDY.out.c0
        have k8 := (ht8'.cell (a := ⟨jb, 0, none⟩) hjs hjF).trans j0
        have hjF8 : ¬ F' jb := fun q => (hF8' jb q).elim hjF (fun q => by omega)
        have hjs8 : jb < y8.heap.size := Nat.lt_of_lt_of_le hjs ht8'.size
        clear hj8 ht8 ht8' hF8 hF8' hjd HDW j0 hjs hbc
        refine hK.out _ _ (⟨c8, k8⟩) (fun hHeld => ?_)
        clear hK K
        (try simp only [Act.put, List.setIfInBounds_toArray, List.set_cons_zero, List.set_cons_succ, List.getElem_toArray, List.getElem_cons_zero, List.getElem_cons_succ])
        refine wpAnyH_done (by kernel_rfl) ?_ _
        cases hc : ch v with
        | false =>
          have HCF := Lib.hid (chd_no (dn := dn) hc)
          clear hc
          obtain ⟨wz, hwz⟩ : ∃ wz, wz = y8 := ⟨_, rfl⟩
          subst hwz
          have HDZ := HDY
          clear HDY
          have hO := HDZ.out.own
          have hfz : ∀ j, (F' j ∨ dskX B gj w.heap.size cb l RV j) → j < wz.heap.size := fun j q => q.elim (HJ.out.foot HDZ.out.j j) (fun q => (HDZ.out.xo j q).1)
          have hbz : w.heap.size ≤ wz.heap.size := HDZ.out.t.size
          have HO := Lib.hid hO; have HFZ := Lib.hid hfz
          clear hO hfz
          go_wp2_with
            (at_builtin
             refine wpList_push1 (w := wz) rfl (.tmp 40) (.tmp 43) 23 rfl (fun j => F' j ∨ dskX B gj w.heap.size cb l RV j) w.heap.size 3 1 8 (.int .i64 0) Tryz.underlying23 int_info rfl (by decide) [.int .i64 v] rfl _ _ _ rfl HO.out (by simp [Act.eval]) (by intro u hu; simp at hu; subst hu; rfl) (by omega) (by decide) hbz HFZ.out ?_
             intro v4 w4 o4 t4 l4
             have HP := Lib.hid (HDZ.out.push HJ.out t4 o4)
             clear o4 t4 l4)
          go_roundw
          · exact ⟨k + 1, F', HLT.out, by go_num, by rw [HQ.out]; rw [← HCF.out]; exact HP.out⟩
          · have := HLT.out; simp [RowKit.intOf]; omega
        | true =>
          have HCF := Lib.hid (chd_yes (dn := dn) hc)
          have hcm := HDY.out.cm
          obtain ⟨wz, hst, hm9, hg9⟩ := MapSets.run_store gkit HDY.out.m (fun z _ hz => HDM.out z hz) (by unfold maxLen; omega) hvr
          have HDZ := Lib.hid (HDY.out.store HJ.out hm9 hg9)
          have hzc : wz.cell? ⟨jb, 0, none⟩ = some (.int .i64 v) := ((turn_grown hg9).cell (a := ⟨jb, 0, none⟩) hjs8 (fun q => absurd (show w.heap.size = jb by simpa using q) (by omega))).trans k8
          clear hc hm9 hg9 HDY
          have hO := HDZ.out.own
          have hfz : ∀ j, (F' j ∨ dskX B gj w.heap.size cb l RV j) → j < wz.heap.size := fun j q => q.elim (HJ.out.foot HDZ.out.j j) (fun q => (HDZ.out.xo j q).1)
          have hbz : w.heap.size ≤ wz.heap.size := HDZ.out.t.size
          have HO := Lib.hid hO; have HFZ := Lib.hid hfz
          clear hO hfz
          go_wp2_with
            (at_builtin
             refine wpList_push1 (w := wz) rfl (.tmp 40) (.tmp 43) 23 rfl (fun j => F' j ∨ dskX B gj w.heap.size cb l RV j) w.heap.size 3 1 8 (.int .i64 0) Tryz.underlying23 int_info rfl (by decide) [.int .i64 v] rfl _ _ _ rfl HO.out (by simp [Act.eval]) (by intro u hu; simp at hu; subst hu; rfl) (by omega) (by decide) hbz HFZ.out ?_
             intro v4 w4 o4 t4 l4
             have HP := Lib.hid (HDZ.out.push HJ.out t4 o4)
             clear o4 t4 l4)
          go_roundw
          · exact ⟨k + 1, F', HLT.out, by go_num, by rw [HQ.out]; rw [← HCF.out]; exact HP.out⟩
          · have := HLT.out; simp [RowKit.intOf]; omega
      | false =>
        rw [hd] at j1
        rw [hd, Bool.false_or] at HY HN
        have hcf := containsf 49 (.pointer (some ⟨cb, 0, none⟩)) (fun _ _ => rfl) ra rc L W1 (fun _ W => Below W1.heap.size W1 W) (fun q => chd ch dn (L.getD q 0)) hLl (fun _ W hW => HRD.out.below hW)
          (fun q W hq hW => (has_c ((HDW.out.below HJ.out hW).cm) ((HDW.out.below HJ.out hW).m) (L.getD q 0) (HLR.out _ (by rw [getD_lt _ _ hq]; exact List.getElem_mem hq))).mono fun e W' ⟨h1, h2⟩ => ⟨h1, hW.trans (h2.mono hW.size)⟩) (Below.refl _ _)
        rw [any_row] at hcf
        clear hd HRD
        cases hm : L.any (chd ch dn) with
        | true =>
          rw [hm] at hcf HY
          have HQ := Lib.hid (HY.out rfl)
          clear HY HN hm
          go_wp2_with fail
          refine hcf.mono ?_; clear hcf; rintro e W2 ⟨rfl, _, hW2⟩
          have j0' := (hW2.cell (p := ⟨jb, 0, none⟩) hjs).trans j0
          have hjs' : jb < W2.heap.size := Nat.lt_of_lt_of_le hjs hW2.size
          have HDW' := Lib.hid (HDW.out.below HJ.out hW2)
          clear j0 j1 j2 hjs HDW hW2
          have j0 := j0'; have hjs := hjs'; have HDW := HDW'
          clear j0' hjs' HDW'
          go_wp2_with fail
          have hjd := HJ.out.keep HDW.out.j (Turn.of_below (F := fun _ => False) ((Below.refl W2.heap.size W2).drew)) (fun j q => q.elim)
          have hcl := HD.out F dn W2.drew v hjd (by omega)
          have hbc := HDW.out.c0
          clear hjd
          refine wp_region_held_drew (S := fun wz => wz.cell? ⟨B, 0, none⟩ = some (.func (.func Fd) #[] #[pv]) ∧ wz.cell? ⟨jb, 0, none⟩ = some (.int .i64 v)) (by kernel_rfl) (⟨hbc, j0⟩) (fun hHeld => ?_)
          refine wpAnyH_take (i := 0) (v := ?_) rfl (by kernel_rfl) (by kernel_rfl) (by kernel_rfl) (fun _ _ _ h => h) (Or.inl ⟨by rfl, ?y0⟩) (by assumption) ?_
          case y0 => intro w hSw; (try dsimp only at hSw); go_simp; (try with_reducible rfl)
          (try simp only [Act.put, List.setIfInBounds_toArray, List.set_cons_zero, List.set_cons_succ, List.getElem_toArray, List.getElem_cons_zero, List.getElem_cons_succ])
          refine wpAnyH_take (i := 1) (v := ?_) rfl (by kernel_rfl) (by kernel_rfl) (by kernel_rfl) (fun _ _ _ h => h) (Or.inl ⟨by rfl, ?y1⟩) (by assumption) ?_
          case y1 => intro w hSw; (try dsimp only at hSw); go_simp; (try with_reducible rfl)
          (try simp only [Act.put, List.setIfInBounds_toArray, List.set_cons_zero, List.set_cons_succ, List.getElem_toArray, List.getElem_cons_zero, List.getElem_cons_succ])
          refine wpAnyH_take (i := 2) (v := ?_) rfl (by kernel_rfl) (by kernel_rfl) (by kernel_rfl) (fun _ _ _ h => h) (Or.inl ⟨by rfl, ?y2⟩) (by assumption) ?_
          case y2 => intro w hSw; (try dsimp only at hSw); go_simp; (try with_reducible rfl)
          (try simp only [Act.put, List.setIfInBounds_toArray, List.set_cons_zero, List.set_cons_succ, List.getElem_toArray, List.getElem_cons_zero, List.getElem_cons_succ])
          refine wpAnyH_take (i := 3) (v := ?_) rfl (by kernel_rfl) (by kernel_rfl) (by kernel_rfl) (fun _ _ _ h => h) (Or.inl ⟨by rfl, ?y3⟩) (by assumption) ?_
          case y3 => intro w hSw; (try dsimp only at hSw); go_simp; (try with_reducible rfl)
          (try simp only [Act.put, List.setIfInBounds_toArray, List.set_cons_zero, List.set_cons_succ, List.getElem_toArray, List.getElem_cons_zero, List.getElem_cons_succ])
          refine wpAnyH_take (i := 4) (v := ?_) rfl (by kernel_rfl) (by kernel_rfl) (by kernel_rfl) (fun _ _ _ h => h) (Or.inl ⟨by rfl, ?y4⟩) (by assumption) ?_
          case y4 => intro w hSw; (try dsimp only at hSw); go_simp; (try with_reducible rfl)
          (try simp only [Act.put, List.setIfInBounds_toArray, List.set_cons_zero, List.set_cons_succ, List.getElem_toArray, List.getElem_cons_zero, List.getElem_cons_succ])
          refine wpAnyH_take (i := 5) (v := ?_) rfl (by kernel_rfl) (by kernel_rfl) (by kernel_rfl) (fun _ _ _ h => h) (Or.inl ⟨by rfl, ?y5⟩) (by assumption) ?_
          case y5 => intro w hSw; (try dsimp only at hSw); go_simp; (try with_reducible rfl)
          (try simp only [Act.put, List.setIfInBounds_toArray, List.set_cons_zero, List.set_cons_succ, List.getElem_toArray, List.getElem_cons_zero, List.getElem_cons_succ])
          refine wpAnyH_ready (rs := [6]) (by kernel_rfl) (by simp) ?_
          refine AllReadyH.cons rfl (fun K hK => ?_) AllReadyH.nil
          go_simp
          refine hcl.mono ?_; clear hcl; rintro e y8 ⟨rfl, F', hj8, ht8, hF8⟩
          have ht8' : Turn F W2 y8 := (Turn.of_below (F := F) ((Below.refl W2.heap.size W2).drew)).trans ht8 (fun j q => Or.inl q)
          have hF8' : ∀ j, F' j → F j ∨ W2.heap.size ≤ j := hF8
          have hjd := HDW.out
          have HDY := Lib.hid (hjd.called hj8 ht8' hF8')
          have c8 := HDY.out.c0
          have k8 := (ht8'.cell (a := ⟨jb, 0, none⟩) hjs hjF).trans j0
          have hjF8 : ¬ F' jb := fun q => (hF8' jb q).elim hjF (fun q => by omega)
          have hjs8 : jb < y8.heap.size := Nat.lt_of_lt_of_le hjs ht8'.size
          clear hj8 ht8 ht8' hF8 hF8' hjd HDW j0 hjs hbc
          refine hK.out _ _ (⟨c8, k8⟩) (fun hHeld => ?_)
          clear hK K
          (try simp only [Act.put, List.setIfInBounds_toArray, List.set_cons_zero, List.set_cons_succ, List.getElem_toArray, List.getElem_cons_zero, List.getElem_cons_succ])
          refine wpAnyH_done (by kernel_rfl) ?_ _
          cases hc : ch v with
          | false =>
            have HCF := Lib.hid (chd_no (dn := dn) hc)
            clear hc
            obtain ⟨wz, hwz⟩ : ∃ wz, wz = y8 := ⟨_, rfl⟩
            subst hwz
            have HDZ := HDY
            clear HDY
            have hO := HDZ.out.own
            have hfz : ∀ j, (F' j ∨ dskX B gj w.heap.size cb l RV j) → j < wz.heap.size := fun j q => q.elim (HJ.out.foot HDZ.out.j j) (fun q => (HDZ.out.xo j q).1)
            have hbz : w.heap.size ≤ wz.heap.size := HDZ.out.t.size
            have HO := Lib.hid hO; have HFZ := Lib.hid hfz
            clear hO hfz
            go_wp2_with
              (at_builtin
               refine wpList_push1 (w := wz) rfl (.tmp 40) (.tmp 43) 23 rfl (fun j => F' j ∨ dskX B gj w.heap.size cb l RV j) w.heap.size 3 1 8 (.int .i64 0) Tryz.underlying23 int_info rfl (by decide) [.int .i64 v] rfl _ _ _ rfl HO.out (by simp [Act.eval]) (by intro u hu; simp at hu; subst hu; rfl) (by omega) (by decide) hbz HFZ.out ?_
               intro v4 w4 o4 t4 l4
               have HP := Lib.hid (HDZ.out.push HJ.out t4 o4)
               clear o4 t4 l4)
            go_roundw
            · exact ⟨k + 1, F', HLT.out, by go_num, by rw [HQ.out]; rw [← HCF.out]; exact HP.out⟩
            · have := HLT.out; simp [RowKit.intOf]; omega
          | true =>
            have HCF := Lib.hid (chd_yes (dn := dn) hc)
            have hcm := HDY.out.cm
            obtain ⟨wz, hst, hm9, hg9⟩ := MapSets.run_store gkit HDY.out.m (fun z _ hz => HDM.out z hz) (by unfold maxLen; omega) hvr
            have HDZ := Lib.hid (HDY.out.store HJ.out hm9 hg9)
            have hzc : wz.cell? ⟨jb, 0, none⟩ = some (.int .i64 v) := ((turn_grown hg9).cell (a := ⟨jb, 0, none⟩) hjs8 (fun q => absurd (show w.heap.size = jb by simpa using q) (by omega))).trans k8
            clear hc hm9 hg9 HDY
            have hO := HDZ.out.own
            have hfz : ∀ j, (F' j ∨ dskX B gj w.heap.size cb l RV j) → j < wz.heap.size := fun j q => q.elim (HJ.out.foot HDZ.out.j j) (fun q => (HDZ.out.xo j q).1)
            have hbz : w.heap.size ≤ wz.heap.size := HDZ.out.t.size
            have HO := Lib.hid hO; have HFZ := Lib.hid hfz
            clear hO hfz
            go_wp2_with
              (at_builtin
               refine wpList_push1 (w := wz) rfl (.tmp 40) (.tmp 43) 23 rfl (fun j => F' j ∨ dskX B gj w.heap.size cb l RV j) w.heap.size 3 1 8 (.int .i64 0) Tryz.underlying23 int_info rfl (by decide) [.int .i64 v] rfl _ _ _ rfl HO.out (by simp [Act.eval]) (by intro u hu; simp at hu; subst hu; rfl) (by omega) (by decide) hbz HFZ.out ?_
               intro v4 w4 o4 t4 l4
               have HP := Lib.hid (HDZ.out.push HJ.out t4 o4)
               clear o4 t4 l4)
            go_roundw
            · exact ⟨k + 1, F', HLT.out, by go_num, by rw [HQ.out]; rw [← HCF.out]; exact HP.out⟩
            · have := HLT.out; simp [RowKit.intOf]; omega
        | false =>
          rw [hm] at hcf HN
          have HQ := Lib.hid (HN.out rfl)
          clear HY HN hm
          go_wp2_with fail
          refine hcf.mono ?_; clear hcf; rintro e W2 ⟨rfl, _, hW2⟩
          have HDW' := Lib.hid (HDW.out.below HJ.out hW2)
          clear j0 j1 j2 hjs HDW hW2
          go_wp2_with fail
          go_roundw
          · exact ⟨k + 1, F, HLT.out, by go_num, by rw [HQ.out]; exact HDW'.out⟩
          · have := HLT.out; simp [RowKit.intOf]; omega
    · obtain rfl : k = l.length := by omega
      have hd0 : decide ((l.length : Int) < (l.length : Int)) = false := decide_eq_false (by omega)
      rw [List.take_length] at hJI
      have HF := Lib.hid hJI
      clear hJI hk
      go_wp2_with fail
      go_ret
      exact ⟨_, rfl, HF.out.own.1, F, HF.out.j, HF.out.t, HF.out.ff⟩
set_option maxHeartbeats 16000000 in
set_option maxRecDepth 100000 in
theorem deskrun_n {w0 w : World} {B gj gc : Nat} {ja : Option Addr} {R : List (List Int)} {D l : List Int} {RV : Nat → Value} {J : (Nat → Prop) → List Int → World → Prop} {F0 : Nat → Prop} {ch : Int → Bool} (Fd : FuncId) 
    (he : ∀ args w, (callFunc Fd args).run Tryz.prog w = .ok (.enter Fd args) w) (hJ : DoJ w.heap.size J) (hp : DskP w0 w B ja gj gc (.func (.func Fd) #[] #[]) R D l RV) (hj : J F0 [] w) (hx : ∀ j, dskA B gj l RV j → ¬ F0 j)
    (hI : GrI R) (hl : l.length ≤ 20000) (hg : ∀ z ∈ l, gnd R.length z)
    (hdo : ∀ F cl W v, J F cl W → cl.length ≤ 20000 → Calls Tryz.prog Fd #[.int .i64 v] W fun e W' => e = .returned (.bool (ch v)) ∧ ∃ F', J F' (cl ++ [v]) W' ∧ Turn F W W' ∧ ∀ j, F' j → F j ∨ W.heap.size ≤ j) :
    Calls Tryz.prog 29 #[.pointer (some ⟨B, 0, none⟩)] w fun e w' => ∃ u, e = .returned u ∧ Own w' w.heap.size u (don R D ch l) ∧ ∃ F', J F' (don R D ch l) w' ∧ Turn F0 w w' ∧ ∀ j, F' j → F0 j ∨ w.heap.size ≤ j := by
  have hmf : ∀ (fn : Fn) (first cap : Array Value) (w : World), (Instr.makeFunc fn first cap).run Tryz.prog w = .ok (.func fn first cap) w := fun _ _ _ _ => rfl
  have hmm := @run_makeMap Tryz.prog
  have hIh := hI.hi
  have c1 := hp.c1
  have hb2 := below2 w (.map #[] 0) (.cells #[.map (some w.heap.size)] 69)
  have hs1 : (w.alloc (.map #[] 0)).heap.size = w.heap.size + 1 := by simp
  have hk : ∀ j, dskA B gj l RV j → j < w.heap.size := by
    rintro j (rfl | ⟨q, rfl⟩ | ⟨i, hi, q⟩)
    · exact World.block_lt_of_cell? _ _ hp.c0
    · exact (hp.g0 q).2
    · exact (hp.rb i hi j q).2
  have HI1 : Hid (DskI w.heap.size J F0 w ((w.alloc (.map #[] 0)).alloc (.cells #[.map (some w.heap.size)] 69)) B gj w.heap.size (w.heap.size + 1) ja (.func (.func Fd) #[] #[]) R D l RV F0 [] (chd ch []) (.slice none 0 0) []) := by
    have hm : MSet ((w.alloc (.map #[] 0)).alloc (.cells #[.map (some w.heap.size)] 69)) w.heap.size (chd ch []) := (MapSet.keep (made w) (heap_alloc_old _ _ (by omega))).same fun k _ => by simp [chd]
    refine ⟨hJ.keep hj (Turn.of_below (F := fun _ => False) hb2) (fun j q => q.elim), (hb2.cell (p := ⟨B, 0, none⟩) (hk B (Or.inl rfl))).trans hp.c0, fun i hi => ?_, by rw [← hs1]; simp [go_sem], hm, hk, ⟨Nat.le_refl _, by omega, by omega⟩, ?_, OwnO.nil _ _ _ _ _, Turn.of_below hb2, fun j q => Or.inl q, Nat.le_refl _, Nat.le_refl _⟩
    · obtain ⟨h1, h2, h3, h4, h5⟩ := hp.at' i hi
      have lg := hk gj (Or.inr (Or.inl ⟨fun e => (by rw [e] at hi; cases hi), rfl⟩))
      exact ⟨h1, (hb2.cell (p := ⟨gj, i * 3, none⟩) lg).trans h2, (hb2.cell (p := ⟨gj, i * 3 + 1, none⟩) lg).trans h3, (hb2.cell (p := ⟨gj, i * 3 + 2, none⟩) lg).trans h4, h5.below hb2⟩
    · have hft := hJ.foot hj
      rintro j (q | q | q)
      · exact ⟨Nat.lt_of_lt_of_le (hk j q) hb2.size, hx j q⟩
      · subst q; exact ⟨by simp; omega, fun r => Nat.lt_irrefl _ (hft _ r)⟩
      · subst q; exact ⟨by simp, fun r => by have := hft _ r; omega⟩
  have c1' := (hb2.cell (p := ⟨B, 1, none⟩) (World.block_lt_of_cell? _ _ c1)).trans c1
  have HJ := Lib.hid hJ; have HD := Lib.hid hdo; have HG := Lib.hid hg; have HI := Lib.hid hI
  clear hJ hdo hg hI hp hj hx hk hb2 c1
  go_enter Tryz.func29, Tryz.ntmps29
  go_wp2_with fail
  generalize (w.alloc (.map #[] 0)).alloc (.cells #[.map (some w.heap.size)] 69) = w2 at *
  obtain ⟨cb, hcb⟩ : ∃ cb, cb = w.heap.size + 1 := ⟨_, rfl⟩
  rw [← hcb] at HI1 ⊢
  clear hcb hs1
  go_loopw [5, 15] (fun dv i wr => ∃ (k : Nat) (F : Nat → Prop), k ≤ l.length ∧ i = .int .i64 (k : Int) ∧ DskI w.heap.size J F0 w wr B gj w.heap.size cb ja (.func (.func Fd) #[] #[]) R D l RV F (don R D ch (l.take k)) (chd ch (don R D ch (l.take k))) dv (don R D ch (l.take k))) (fun _ i _ => l.length - (RowKit.intOf i).toNat)
  case atStart => exact ⟨0, F0, Nat.zero_le _, rfl, by rw [List.take_zero]; exact HI1.out⟩
  case round =>
    clear HI1 c1'
    obtain ⟨k, F, hk, rfl, hJI⟩ := hrel
    by_cases hlt : k < l.length
    · obtain ⟨hja, a0, a1, a2, hsl⟩ := hJI.at' k hlt
      subst hja
      have hgx := HG.out (l.getD k 0) (by rw [getD_lt _ _ hlt]; exact List.getElem_mem hlt)
      have hdl := don_lenk (R := R) (D := D) (ch := ch) hk
      have hdm : ∀ z, chd ch (don R D ch (l.take k)) z = true → 0 ≤ z ∧ z < (R.length : Int) := fun z hz => by
        unfold chd at hz
        rw [Bool.and_eq_true, decide_eq_true_iff] at hz
        exact HG.out z (List.mem_of_mem_take (don_of hz.1))
      have HY := Lib.hid (fun (q : mst R D ch (don R D ch (l.take k)) (l.getD k 0) = true) => don_yes (R := R) (D := D) (ch := ch) hlt q)
      have HN := Lib.hid (fun (q : mst R D ch (don R D ch (l.take k)) (l.getD k 0) = false) => don_no (R := R) (D := D) (ch := ch) hlt q)
      have HLT := Lib.hid hlt
      rw [mst_chd] at HY HN
      generalize l.getD k 0 = v at *
      have hvr : InR v := by unfold gnd at hgx; unfold InR; omega
      obtain ⟨ra, rc, hrv, r1, r2, r3⟩ := hsl
      rw [hrv] at a2
      have hLr := inr_greads HI.out v
      have hLl : (greads R v).length ≤ 1000000 := by
        unfold greads; rw [if_pos hgx]
        exact Nat.le_trans (HI.out.len _) (by omega)
      generalize greads R v = L at *
      obtain ⟨dn, hdn⟩ : ∃ dn, dn = don R D ch (l.take k) := ⟨_, rfl⟩
      rw [← hdn] at hJI hdl hdm HY HN
      obtain ⟨da, dc, rfl⟩ := (ownsRow_slc hJI.own.1).form
      have hft := HJ.out.foot hJI.j
      have hb1 := below1 wr (.cells #[.int .i64 v, .bool (decide (v ∈ D)), .slice ra L.length rc] 87)
      have HDW := Lib.hid (hJI.below HJ.out hb1)
      have HRD := Lib.hid (r3.below hb1)
      have j0 : (wr.alloc (.cells #[.int .i64 v, .bool (decide (v ∈ D)), .slice ra L.length rc] 87)).cell? ⟨wr.heap.size, 0, none⟩ = some (.int .i64 v) := by simp [go_sem]
      have j1 : (wr.alloc (.cells #[.int .i64 v, .bool (decide (v ∈ D)), .slice ra L.length rc] 87)).cell? ⟨wr.heap.size, 1, none⟩ = some (.bool (decide (v ∈ D))) := by simp [go_sem]
      have j2 : (wr.alloc (.cells #[.int .i64 v, .bool (decide (v ∈ D)), .slice ra L.length rc] 87)).cell? ⟨wr.heap.size, 2, none⟩ = some (.slice ra L.length rc) := by simp [go_sem]
      have hjs : wr.heap.size < (wr.alloc (.cells #[.int .i64 v, .bool (decide (v ∈ D)), .slice ra L.length rc] 87)).heap.size := by simp
      have hjm : w.heap.size < wr.heap.size := (hJI.xo _ (Or.inr (Or.inl rfl))).1
      have hjF : ¬ F wr.heap.size := fun q => Nat.lt_irrefl _ (hft _ q)
      have i0 : (0 : Int) ≤ (k : Int) := by omega
      have i1 : (k : Int) < (l.length : Int) := by omega
      have HFT := Lib.hid hft
      have HLR := Lib.hid hLr
      have HDM := Lib.hid hdm
      have HDN := Lib.hid hdn
      clear hJI hrv r1 r2 r3 hLr hgx hdm hdn hft hlt hb1
      go_upto_region 7 with fail
      generalize wr.alloc (.cells #[.int .i64 v, .bool (decide (v ∈ D)), .slice ra L.length rc] 87) = W1 at *
      obtain ⟨jb, hjb⟩ : ∃ jb, jb = wr.heap.size := ⟨_, rfl⟩
      rw [← hjb] at j0 j1 j2 hjs hjF hjm ⊢
      clear hjb a0 a1 a2
      cases hd : decide (v ∈ D) with
      | true =>
        rw [hd] at j1
        rw [hd, Bool.true_or] at HY
        have HQ := Lib.hid (HY.out rfl)
        clear HY HN hd HRD j2
        go_wp2_with fail
        have hjd := HJ.out.keep HDW.out.j (Turn.of_below (F := fun _ => False) ((Below.refl W1.heap.size W1).drew)) (fun j q => q.elim)
        have hcl := HD.out F dn W1.drew v hjd (by omega)
        have hbc := HDW.out.c0
        clear hjd
        refine wp_region_held_drew (S := fun wz => wz.cell? ⟨B, 0, none⟩ = some (.func (.func Fd) #[] #[]) ∧ wz.cell? ⟨jb, 0, none⟩ = some (.int .i64 v)) (by kernel_rfl) (⟨hbc, j0⟩) (fun hHeld => ?_)
        refine wpAnyH_take (i := 0) (v := ?_) rfl (by kernel_rfl) (by kernel_rfl) (by kernel_rfl) (fun _ _ _ h => h) (Or.inl ⟨by rfl, ?y0⟩) (by assumption) ?_
        case y0 => intro w hSw; (try dsimp only at hSw); go_simp; (try with_reducible rfl)
        (try simp only [Act.put, List.setIfInBounds_toArray, List.set_cons_zero, List.set_cons_succ, List.getElem_toArray, List.getElem_cons_zero, List.getElem_cons_succ])
        refine wpAnyH_take (i := 1) (v := ?_) rfl (by kernel_rfl) (by kernel_rfl) (by kernel_rfl) (fun _ _ _ h => h) (Or.inl ⟨by rfl, ?y1⟩) (by assumption) ?_
        case y1 => intro w hSw; (try dsimp only at hSw); go_simp; (try with_reducible rfl)
        (try simp only [Act.put, List.setIfInBounds_toArray, List.set_cons_zero, List.set_cons_succ, List.getElem_toArray, List.getElem_cons_zero, List.getElem_cons_succ])
        refine wpAnyH_take (i := 2) (v := ?_) rfl (by kernel_rfl) (by kernel_rfl) (by kernel_rfl) (fun _ _ _ h => h) (Or.inl ⟨by rfl, ?y2⟩) (by assumption) ?_
        case y2 => intro w hSw; (try dsimp only at hSw); go_simp; (try with_reducible rfl)
        (try simp only [Act.put, List.setIfInBounds_toArray, List.set_cons_zero, List.set_cons_succ, List.getElem_toArray, List.getElem_cons_zero, List.getElem_cons_succ])
        refine wpAnyH_take (i := 3) (v := ?_) rfl (by kernel_rfl) (by kernel_rfl) (by kernel_rfl) (fun _ _ _ h => h) (Or.inl ⟨by rfl, ?y3⟩) (by assumption) ?_
        case y3 => intro w hSw; (try dsimp only at hSw); go_simp; (try with_reducible rfl)
        (try simp only [Act.put, List.setIfInBounds_toArray, List.set_cons_zero, List.set_cons_succ, List.getElem_toArray, List.getElem_cons_zero, List.getElem_cons_succ])
        refine wpAnyH_take (i := 4) (v := ?_) rfl (by kernel_rfl) (by kernel_rfl) (by kernel_rfl) (fun _ _ _ h => h) (Or.inl ⟨by rfl, ?y4⟩) (by assumption) ?_
        case y4 => intro w hSw; (try dsimp only at hSw); go_simp; (try with_reducible rfl)
        (try simp only [Act.put, List.setIfInBounds_toArray, List.set_cons_zero, List.set_cons_succ, List.getElem_toArray, List.getElem_cons_zero, List.getElem_cons_succ])
        refine wpAnyH_take (i := 5) (v := ?_) rfl (by kernel_rfl) (by kernel_rfl) (by kernel_rfl) (fun _ _ _ h => h) (Or.inl ⟨by rfl, ?y5⟩) (by assumption) ?_
        case y5 => intro w hSw; (try dsimp only at hSw); go_simp; (try with_reducible rfl)
        (try simp only [Act.put, List.setIfInBounds_toArray, List.set_cons_zero, List.set_cons_succ, List.getElem_toArray, List.getElem_cons_zero, List.getElem_cons_succ])
        refine wpAnyH_ready (rs := [6]) (by kernel_rfl) (by simp) ?_
        refine AllReadyH.cons rfl (fun K hK => ?_) AllReadyH.nil
        go_simp
        refine hcl.mono ?_; clear hcl; rintro e y8 ⟨rfl, F', hj8, ht8, hF8⟩
        have ht8' : Turn F W1 y8 := (Turn.of_below (F := F) ((Below.refl W1.heap.size W1).drew)).trans ht8 (fun j q => Or.inl q)
        have hF8' : ∀ j, F' j → F j ∨ W1.heap.size ≤ j := hF8
        have hjd := HDW.out
        have HDY := Lib.hid (hjd.called hj8 ht8' hF8')
        have c8 := HDY.out.c0
        have k8 := (ht8'.cell (a := ⟨jb, 0, none⟩) hjs hjF).trans j0
        have hjF8 : ¬ F' jb := fun q => (hF8' jb q).elim hjF (fun q => by omega)
        have hjs8 : jb < y8.heap.size := Nat.lt_of_lt_of_le hjs ht8'.size
        clear hj8 ht8 ht8' hF8 hF8' hjd HDW j0 hjs hbc
        refine hK.out _ _ (⟨c8, k8⟩) (fun hHeld => ?_)
        clear hK K
        (try simp only [Act.put, List.setIfInBounds_toArray, List.set_cons_zero, List.set_cons_succ, List.getElem_toArray, List.getElem_cons_zero, List.getElem_cons_succ])
        refine wpAnyH_done (by kernel_rfl) ?_ _
        cases hc : ch v with
        | false =>
          have HCF := Lib.hid (chd_no (dn := dn) hc)
          clear hc
          obtain ⟨wz, hwz⟩ : ∃ wz, wz = y8 := ⟨_, rfl⟩
          subst hwz
          have HDZ := HDY
          clear HDY
          have hO := HDZ.out.own
          have hfz : ∀ j, (F' j ∨ dskX B gj w.heap.size cb l RV j) → j < wz.heap.size := fun j q => q.elim (HJ.out.foot HDZ.out.j j) (fun q => (HDZ.out.xo j q).1)
          have hbz : w.heap.size ≤ wz.heap.size := HDZ.out.t.size
          have HO := Lib.hid hO; have HFZ := Lib.hid hfz
          clear hO hfz
          go_wp2_with
            (at_builtin
             refine wpList_push1 (w := wz) rfl (.tmp 40) (.tmp 43) 23 rfl (fun j => F' j ∨ dskX B gj w.heap.size cb l RV j) w.heap.size 3 1 8 (.int .i64 0) Tryz.underlying23 int_info rfl (by decide) [.int .i64 v] rfl _ _ _ rfl HO.out (by simp [Act.eval]) (by intro u hu; simp at hu; subst hu; rfl) (by omega) (by decide) hbz HFZ.out ?_
             intro v4 w4 o4 t4 l4
             have HP := Lib.hid (HDZ.out.push HJ.out t4 o4)
             clear o4 t4 l4)
          go_roundw
          · exact ⟨k + 1, F', HLT.out, by go_num, by rw [HQ.out]; rw [← HCF.out]; exact HP.out⟩
          · have := HLT.out; simp [RowKit.intOf]; omega
        | true =>
          have HCF := Lib.hid (chd_yes (dn := dn) hc)
          have hcm := HDY.out.cm
          obtain ⟨wz, hst, hm9, hg9⟩ := MapSets.run_store gkit HDY.out.m (fun z _ hz => HDM.out z hz) (by unfold maxLen; omega) hvr
          have HDZ := Lib.hid (HDY.out.store HJ.out hm9 hg9)
          have hzc : wz.cell? ⟨jb, 0, none⟩ = some (.int .i64 v) := ((turn_grown hg9).cell (a := ⟨jb, 0, none⟩) hjs8 (fun q => absurd (show w.heap.size = jb by simpa using q) (by omega))).trans k8
          clear hc hm9 hg9 HDY
          have hO := HDZ.out.own
          have hfz : ∀ j, (F' j ∨ dskX B gj w.heap.size cb l RV j) → j < wz.heap.size := fun j q => q.elim (HJ.out.foot HDZ.out.j j) (fun q => (HDZ.out.xo j q).1)
          have hbz : w.heap.size ≤ wz.heap.size := HDZ.out.t.size
          have HO := Lib.hid hO; have HFZ := Lib.hid hfz
          clear hO hfz
          go_wp2_with
            (at_builtin
             refine wpList_push1 (w := wz) rfl (.tmp 40) (.tmp 43) 23 rfl (fun j => F' j ∨ dskX B gj w.heap.size cb l RV j) w.heap.size 3 1 8 (.int .i64 0) Tryz.underlying23 int_info rfl (by decide) [.int .i64 v] rfl _ _ _ rfl HO.out (by simp [Act.eval]) (by intro u hu; simp at hu; subst hu; rfl) (by omega) (by decide) hbz HFZ.out ?_
             intro v4 w4 o4 t4 l4
             have HP := Lib.hid (HDZ.out.push HJ.out t4 o4)
             clear o4 t4 l4)
          go_roundw
          · exact ⟨k + 1, F', HLT.out, by go_num, by rw [HQ.out]; rw [← HCF.out]; exact HP.out⟩
          · have := HLT.out; simp [RowKit.intOf]; omega
      | false =>
        rw [hd] at j1
        rw [hd, Bool.false_or] at HY HN
        have hcf := containsf 49 (.pointer (some ⟨cb, 0, none⟩)) (fun _ _ => rfl) ra rc L W1 (fun _ W => Below W1.heap.size W1 W) (fun q => chd ch dn (L.getD q 0)) hLl (fun _ W hW => HRD.out.below hW)
          (fun q W hq hW => (has_c ((HDW.out.below HJ.out hW).cm) ((HDW.out.below HJ.out hW).m) (L.getD q 0) (HLR.out _ (by rw [getD_lt _ _ hq]; exact List.getElem_mem hq))).mono fun e W' ⟨h1, h2⟩ => ⟨h1, hW.trans (h2.mono hW.size)⟩) (Below.refl _ _)
        rw [any_row] at hcf
        clear hd HRD
        cases hm : L.any (chd ch dn) with
        | true =>
          rw [hm] at hcf HY
          have HQ := Lib.hid (HY.out rfl)
          clear HY HN hm
          go_wp2_with fail
          refine hcf.mono ?_; clear hcf; rintro e W2 ⟨rfl, _, hW2⟩
          have j0' := (hW2.cell (p := ⟨jb, 0, none⟩) hjs).trans j0
          have hjs' : jb < W2.heap.size := Nat.lt_of_lt_of_le hjs hW2.size
          have HDW' := Lib.hid (HDW.out.below HJ.out hW2)
          clear j0 j1 j2 hjs HDW hW2
          have j0 := j0'; have hjs := hjs'; have HDW := HDW'
          clear j0' hjs' HDW'
          go_wp2_with fail
          have hjd := HJ.out.keep HDW.out.j (Turn.of_below (F := fun _ => False) ((Below.refl W2.heap.size W2).drew)) (fun j q => q.elim)
          have hcl := HD.out F dn W2.drew v hjd (by omega)
          have hbc := HDW.out.c0
          clear hjd
          refine wp_region_held_drew (S := fun wz => wz.cell? ⟨B, 0, none⟩ = some (.func (.func Fd) #[] #[]) ∧ wz.cell? ⟨jb, 0, none⟩ = some (.int .i64 v)) (by kernel_rfl) (⟨hbc, j0⟩) (fun hHeld => ?_)
          refine wpAnyH_take (i := 0) (v := ?_) rfl (by kernel_rfl) (by kernel_rfl) (by kernel_rfl) (fun _ _ _ h => h) (Or.inl ⟨by rfl, ?y0⟩) (by assumption) ?_
          case y0 => intro w hSw; (try dsimp only at hSw); go_simp; (try with_reducible rfl)
          (try simp only [Act.put, List.setIfInBounds_toArray, List.set_cons_zero, List.set_cons_succ, List.getElem_toArray, List.getElem_cons_zero, List.getElem_cons_succ])
          refine wpAnyH_take (i := 1) (v := ?_) rfl (by kernel_rfl) (by kernel_rfl) (by kernel_rfl) (fun _ _ _ h => h) (Or.inl ⟨by rfl, ?y1⟩) (by assumption) ?_
          case y1 => intro w hSw; (try dsimp only at hSw); go_simp; (try with_reducible rfl)
          (try simp only [Act.put, List.setIfInBounds_toArray, List.set_cons_zero, List.set_cons_succ, List.getElem_toArray, List.getElem_cons_zero, List.getElem_cons_succ])
          refine wpAnyH_take (i := 2) (v := ?_) rfl (by kernel_rfl) (by kernel_rfl) (by kernel_rfl) (fun _ _ _ h => h) (Or.inl ⟨by rfl, ?y2⟩) (by assumption) ?_
          case y2 => intro w hSw; (try dsimp only at hSw); go_simp; (try with_reducible rfl)
          (try simp only [Act.put, List.setIfInBounds_toArray, List.set_cons_zero, List.set_cons_succ, List.getElem_toArray, List.getElem_cons_zero, List.getElem_cons_succ])
          refine wpAnyH_take (i := 3) (v := ?_) rfl (by kernel_rfl) (by kernel_rfl) (by kernel_rfl) (fun _ _ _ h => h) (Or.inl ⟨by rfl, ?y3⟩) (by assumption) ?_
          case y3 => intro w hSw; (try dsimp only at hSw); go_simp; (try with_reducible rfl)
          (try simp only [Act.put, List.setIfInBounds_toArray, List.set_cons_zero, List.set_cons_succ, List.getElem_toArray, List.getElem_cons_zero, List.getElem_cons_succ])
          refine wpAnyH_take (i := 4) (v := ?_) rfl (by kernel_rfl) (by kernel_rfl) (by kernel_rfl) (fun _ _ _ h => h) (Or.inl ⟨by rfl, ?y4⟩) (by assumption) ?_
          case y4 => intro w hSw; (try dsimp only at hSw); go_simp; (try with_reducible rfl)
          (try simp only [Act.put, List.setIfInBounds_toArray, List.set_cons_zero, List.set_cons_succ, List.getElem_toArray, List.getElem_cons_zero, List.getElem_cons_succ])
          refine wpAnyH_take (i := 5) (v := ?_) rfl (by kernel_rfl) (by kernel_rfl) (by kernel_rfl) (fun _ _ _ h => h) (Or.inl ⟨by rfl, ?y5⟩) (by assumption) ?_
          case y5 => intro w hSw; (try dsimp only at hSw); go_simp; (try with_reducible rfl)
          (try simp only [Act.put, List.setIfInBounds_toArray, List.set_cons_zero, List.set_cons_succ, List.getElem_toArray, List.getElem_cons_zero, List.getElem_cons_succ])
          refine wpAnyH_ready (rs := [6]) (by kernel_rfl) (by simp) ?_
          refine AllReadyH.cons rfl (fun K hK => ?_) AllReadyH.nil
          go_simp
          refine hcl.mono ?_; clear hcl; rintro e y8 ⟨rfl, F', hj8, ht8, hF8⟩
          have ht8' : Turn F W2 y8 := (Turn.of_below (F := F) ((Below.refl W2.heap.size W2).drew)).trans ht8 (fun j q => Or.inl q)
          have hF8' : ∀ j, F' j → F j ∨ W2.heap.size ≤ j := hF8
          have hjd := HDW.out
          have HDY := Lib.hid (hjd.called hj8 ht8' hF8')
          have c8 := HDY.out.c0
          have k8 := (ht8'.cell (a := ⟨jb, 0, none⟩) hjs hjF).trans j0
          have hjF8 : ¬ F' jb := fun q => (hF8' jb q).elim hjF (fun q => by omega)
          have hjs8 : jb < y8.heap.size := Nat.lt_of_lt_of_le hjs ht8'.size
          clear hj8 ht8 ht8' hF8 hF8' hjd HDW j0 hjs hbc
          refine hK.out _ _ (⟨c8, k8⟩) (fun hHeld => ?_)
          clear hK K
          (try simp only [Act.put, List.setIfInBounds_toArray, List.set_cons_zero, List.set_cons_succ, List.getElem_toArray, List.getElem_cons_zero, List.getElem_cons_succ])
          refine wpAnyH_done (by kernel_rfl) ?_ _
          cases hc : ch v with
          | false =>
            have HCF := Lib.hid (chd_no (dn := dn) hc)
            clear hc
            obtain ⟨wz, hwz⟩ : ∃ wz, wz = y8 := ⟨_, rfl⟩
            subst hwz
            have HDZ := HDY
            clear HDY
            have hO := HDZ.out.own
            have hfz : ∀ j, (F' j ∨ dskX B gj w.heap.size cb l RV j) → j < wz.heap.size := fun j q => q.elim (HJ.out.foot HDZ.out.j j) (fun q => (HDZ.out.xo j q).1)
            have hbz : w.heap.size ≤ wz.heap.size := HDZ.out.t.size
            have HO := Lib.hid hO; have HFZ := Lib.hid hfz
            clear hO hfz
            go_wp2_with
              (at_builtin
               refine wpList_push1 (w := wz) rfl (.tmp 40) (.tmp 43) 23 rfl (fun j => F' j ∨ dskX B gj w.heap.size cb l RV j) w.heap.size 3 1 8 (.int .i64 0) Tryz.underlying23 int_info rfl (by decide) [.int .i64 v] rfl _ _ _ rfl HO.out (by simp [Act.eval]) (by intro u hu; simp at hu; subst hu; rfl) (by omega) (by decide) hbz HFZ.out ?_
               intro v4 w4 o4 t4 l4
               have HP := Lib.hid (HDZ.out.push HJ.out t4 o4)
               clear o4 t4 l4)
            go_roundw
            · exact ⟨k + 1, F', HLT.out, by go_num, by rw [HQ.out]; rw [← HCF.out]; exact HP.out⟩
            · have := HLT.out; simp [RowKit.intOf]; omega
          | true =>
            have HCF := Lib.hid (chd_yes (dn := dn) hc)
            have hcm := HDY.out.cm
            obtain ⟨wz, hst, hm9, hg9⟩ := MapSets.run_store gkit HDY.out.m (fun z _ hz => HDM.out z hz) (by unfold maxLen; omega) hvr
            have HDZ := Lib.hid (HDY.out.store HJ.out hm9 hg9)
            have hzc : wz.cell? ⟨jb, 0, none⟩ = some (.int .i64 v) := ((turn_grown hg9).cell (a := ⟨jb, 0, none⟩) hjs8 (fun q => absurd (show w.heap.size = jb by simpa using q) (by omega))).trans k8
            clear hc hm9 hg9 HDY
            have hO := HDZ.out.own
            have hfz : ∀ j, (F' j ∨ dskX B gj w.heap.size cb l RV j) → j < wz.heap.size := fun j q => q.elim (HJ.out.foot HDZ.out.j j) (fun q => (HDZ.out.xo j q).1)
            have hbz : w.heap.size ≤ wz.heap.size := HDZ.out.t.size
            have HO := Lib.hid hO; have HFZ := Lib.hid hfz
            clear hO hfz
            go_wp2_with
              (at_builtin
               refine wpList_push1 (w := wz) rfl (.tmp 40) (.tmp 43) 23 rfl (fun j => F' j ∨ dskX B gj w.heap.size cb l RV j) w.heap.size 3 1 8 (.int .i64 0) Tryz.underlying23 int_info rfl (by decide) [.int .i64 v] rfl _ _ _ rfl HO.out (by simp [Act.eval]) (by intro u hu; simp at hu; subst hu; rfl) (by omega) (by decide) hbz HFZ.out ?_
               intro v4 w4 o4 t4 l4
               have HP := Lib.hid (HDZ.out.push HJ.out t4 o4)
               clear o4 t4 l4)
            go_roundw
            · exact ⟨k + 1, F', HLT.out, by go_num, by rw [HQ.out]; rw [← HCF.out]; exact HP.out⟩
            · have := HLT.out; simp [RowKit.intOf]; omega
        | false =>
          rw [hm] at hcf HN
          have HQ := Lib.hid (HN.out rfl)
          clear HY HN hm
          go_wp2_with fail
          refine hcf.mono ?_; clear hcf; rintro e W2 ⟨rfl, _, hW2⟩
          have HDW' := Lib.hid (HDW.out.below HJ.out hW2)
          clear j0 j1 j2 hjs HDW hW2
          go_wp2_with fail
          go_roundw
          · exact ⟨k + 1, F, HLT.out, by go_num, by rw [HQ.out]; exact HDW'.out⟩
          · have := HLT.out; simp [RowKit.intOf]; omega
    · obtain rfl : k = l.length := by omega
      have hd0 : decide ((l.length : Int) < (l.length : Int)) = false := decide_eq_false (by omega)
      rw [List.take_length] at hJI
      have HF := Lib.hid hJI
      clear hJI hk
      go_wp2_with fail
      go_ret
      exact ⟨_, rfl, HF.out.own.1, F, HF.out.j, HF.out.t, HF.out.ff⟩
end Go.Proofs.YtbaeanpdjdcheaaGreat
