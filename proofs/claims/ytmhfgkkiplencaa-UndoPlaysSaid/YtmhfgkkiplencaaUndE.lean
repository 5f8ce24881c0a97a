/-
  The landed book's end and Begin. The conditions: the book's blocks.
-/
import Derived.Test.YtmhfgkkiplencaaUndD
namespace Go.Proofs.Ytmhfgkkiplencaa
open Go.RowKit Go.Maps
set_option linter.unusedSimpArgs false
set_option linter.unusedVariables false

/-- The last two cells of a row are wiped, the row is one shorter. -/
theorem row_cut {w : World} {e : TypeId} {g n cap : Nat} {xs : List Value} {p q : Value} (h : w.ownsRow 0 e 2 (.slice (some ⟨g, 0, none⟩) (n + 1) cap) (n + 1) (xs ++ [p, q])) (hx : xs.length = n * 2) (a b : Value) :
    ((w.setCell ⟨g, n * 2, none⟩ a).setCell ⟨g, n * 2 + 1, none⟩ b).ownsRow 0 e 2 (.slice (some ⟨g, 0, none⟩) n cap) n xs ∧ n + 1 ≤ cap := by
  have h3 := ((h.stored (n * 2) a).1.stored (n * 2 + 1) b).1
  generalize (w.setCell ⟨g, n * 2, none⟩ a).setCell ⟨g, n * 2 + 1, none⟩ b = W at *
  rcases h3.2 with ⟨q, _⟩ | ⟨g', cap', cur, q, q1, q2, q3, q4, q5, q6⟩
  · cases q
  · cases q
    refine ⟨⟨hx, Or.inr ⟨g, cap, cur, rfl, q1, q2, by omega, q4, q5, ?_⟩⟩, by omega⟩
    have e : cur.toList.take (n * 2) = (((xs ++ [p, q]).set (n * 2) a).set (n * 2 + 1) b).take (n * 2) := by rw [← q6, List.take_take, Nat.min_eq_left (by omega)]
    rw [e, List.take_set_of_le (by omega), List.take_set_of_le (by omega), ← hx, List.take_left']
    rfl
theorem UB.pop {w : World} {B mv r cap m : Nat} {f : UH} {lv : List (Nat × UH)} {g : Int → Option Int} (h : UB w B mv (.slice (some ⟨r, 0, none⟩) (lv.length + 1) cap) ((m, f) :: lv) g) (a b : Value) :
    UB (((w.setCell ⟨r, lv.length * 2, none⟩ a).setCell ⟨r, lv.length * 2 + 1, none⟩ b).setCell ⟨B, 2, none⟩ (.slice (some ⟨r, 0, none⟩) lv.length cap)) B mv (.slice (some ⟨r, 0, none⟩) lv.length cap) lv g ∧
      Turn (UF B mv (.slice (some ⟨r, 0, none⟩) (lv.length + 1) cap) ((m, f) :: lv)) w (((w.setCell ⟨r, lv.length * 2, none⟩ a).setCell ⟨r, lv.length * 2 + 1, none⟩ b).setCell ⟨B, 2, none⟩ (.slice (some ⟨r, 0, none⟩) lv.length cap)) ∧
      MpH (((w.setCell ⟨r, lv.length * 2, none⟩ a).setCell ⟨r, lv.length * 2 + 1, none⟩ b).setCell ⟨B, 2, none⟩ (.slice (some ⟨r, 0, none⟩) lv.length cap)) m f := by
  have hrow := h.row
  rw [rowB_push] at hrow
  obtain ⟨h1, _⟩ := row_cut hrow (rowB_len lv) a b
  have t : Turn (fun j => (Value.slice (some ⟨r, 0, none⟩) (lv.length + 1) cap).ownBlock = some j) w ((w.setCell ⟨r, lv.length * 2, none⟩ a).setCell ⟨r, lv.length * 2 + 1, none⟩ b) :=
    (turn_set (F := fun j => j = r) (turn_set (F := fun j => j = r) (Turn.refl _ _) (p := ⟨r, lv.length * 2, none⟩) (Or.inl rfl) a) (p := ⟨r, lv.length * 2 + 1, none⟩) (Or.inl rfl) b).mono fun j q => by subst q; rfl
  have hq : ∀ p ∈ (m, f) :: lv, MpH ((w.setCell ⟨r, lv.length * 2, none⟩ a).setCell ⟨r, lv.length * 2 + 1, none⟩ b) p.1 p.2 := fun p hp => (h.maps p hp).keep (t.block _ (h.maps p hp).lt (h.h4 p hp).2.2)
  obtain ⟨r1, r2, _⟩ := h.relay t h1 (Or.inl rfl) (fun p hp => ⟨hq p (List.mem_cons_of_mem _ hp), Or.inl (List.mem_cons_of_mem _ hp)⟩) (List.nodup_cons.1 h.h5).2
  have hm := hq (m, f) List.mem_cons_self
  have ts : Turn (fun j => j = B) ((w.setCell ⟨r, lv.length * 2, none⟩ a).setCell ⟨r, lv.length * 2 + 1, none⟩ b) _ := turn_set (F := fun j => j = B) (Turn.refl _ _) (p := ⟨B, 2, none⟩) (Or.inl rfl) (.slice (some ⟨r, 0, none⟩) lv.length cap)
  exact ⟨r1, r2, hm.keep (ts.block m hm.lt (h.h4 (m, f) List.mem_cons_self).1)⟩
abbrev Beg (a b : Value) : Obj := .cells #[a, b] 62
theorem end_no {w : World} {B mv : Nat} {v : Value} {g : Int → Option Int} (h : UB w B mv v [] g) : Calls Try.prog 28 #[.pointer (some ⟨B, 0, none⟩)] w fun e w' => e = .returned (.tuple #[.agg #[.map none, .int .i64 0], .int .i64 2]) ∧ Below w.heap.size w w' := by
  have hb := below2 w (Beg (.map none) (.int .i64 0)) (Beg (.map none) (.int .i64 0))
  have P0 := (Ow2.new w (.map none) (.int .i64 0) 62).alloc (Beg (.map none) (.int .i64 0))
  have Z0 := Ow2.new2 w (Beg (.map none) (.int .i64 0)) (.map none) (.int .i64 0) 62
  have hd := depth_u (h.below hb)
  have hm := made_u (h.below hb).c0
  clear h
  go_enter Try.func28, Try.ntmps28
  go_wp2_with fail
  generalize hW : (w.alloc (.cells #[.map none, .int .i64 0] 62)).alloc (.cells #[.map none, .int .i64 0] 62) = W at *
  clear hW
  obtain ⟨⟨p0, p1, p2⟩, p3, p4⟩ := P0
  obtain ⟨⟨z0, z1, z2⟩, z3, z4⟩ := Z0
  refine hd.mono ?_; clear hd; rintro e w1 ⟨rfl, rfl⟩
  go_wp2_with fail
  refine hm.mono ?_; clear hm; rintro e w2 ⟨rfl, rfl⟩
  obtain ⟨o0, o1, _⟩ := At2.put (w := w2) (k := w.heap.size) (a := .map none) (b := .int .i64 0) ⟨p0, p1, p2⟩
  have hbe := hb.trans (Turn.below (turn_set2 (F := fun j => j = w.heap.size) (Turn.refl _ w2) (Or.inl rfl) (.map none) (.int .i64 0)) (fun k q => Nat.le_of_eq q.symm) hb.size)
  go_wp2_with fail
  exact bodyPost_ret (by simp [results, Try.results28, go_sem, o0, o1]) rfl ⟨rfl, hbe⟩
/-- What 'end' leaves. -/
def EndP (w : World) (B mv : Nat) (v : Value) (m : Nat) (f : UH) (lv : List (Nat × UH)) (g : Int → Option Int) (w' : World) : Prop :=
  ∃ v', UB w' B mv v' lv g ∧ MpH w' m f ∧ Turn (UF B mv v ((m, f) :: lv)) w w' ∧ (∀ j, UF B mv v' lv j → UF B mv v ((m, f) :: lv) j) ∧ ¬ UF B mv v' lv m
theorem end_u {w : World} {B mv m : Nat} {v : Value} {f : UH} {lv : List (Nat × UH)} {g : Int → Option Int} (h : UB w B mv v ((m, f) :: lv) g) (h64 : lv.length ≤ 64) :
    Calls Try.prog 28 #[.pointer (some ⟨B, 0, none⟩)] w fun e w' => e = .returned (.tuple #[.agg #[.map (some m), .int .i64 0], .int .i64 0]) ∧ EndP w B mv v m f lv g w' := by
  obtain ⟨r, cap, rfl⟩ := h.slice (by simp)
  simp only [List.length_cons] at h
  have hb := below2 w (Beg (.map none) (.int .i64 0)) (Beg (.map none) (.int .i64 0))
  have P0 := (Ow2.new w (.map none) (.int .i64 0) 62).alloc (Beg (.map none) (.int .i64 0))
  have Z0 := Ow2.new2 w (Beg (.map none) (.int .i64 0)) (.map none) (.int .i64 0) 62
  have hd := depth_u (h.below hb)
  have hm := made_u (h.below hb).c0
  have i1 : wrap64 (((lv.length + 1 : Nat) : Int) - 1) = (lv.length : Int) := by unfold wrap64; omega
  have hcap : lv.length + 1 ≤ cap := by have := h.row; rw [rowB_push] at this; exact (row_cut this (rowB_len lv) (.map none) (.map none)).2
  have c2 := h.c2
  obtain ⟨x0, x1⟩ := h.last
  have hBl := h.lt
  have hrl := World.block_lt_of_cell? w _ x0
  have H := Lib.hid h
  clear h
  simp only [List.length_cons] at hd
  go_enter Try.func28, Try.ntmps28
  go_wp2_with fail
  replace c2 := (hb.cell (p := ⟨B, 2, none⟩) hBl).trans c2
  replace x0 := (hb.cell (p := ⟨r, _, none⟩) hrl).trans x0
  replace x1 := (hb.cell (p := ⟨r, _, none⟩) hrl).trans x1
  generalize hW : (w.alloc (.cells #[.map none, .int .i64 0] 62)).alloc (.cells #[.map none, .int .i64 0] 62) = W at *
  clear hW
  refine hd.mono ?_; clear hd; rintro e w1 ⟨rfl, rfl⟩
  go_wp2_with fail
  refine hm.mono ?_; clear hm; rintro e w2 ⟨rfl, rfl⟩
  have i2 : decide ((lv.length : Int) < 0) = false := decide_eq_false (by omega)
  have L0 := Ow2.new w2 (.map (some m)) (.int .i64 0) 62
  have hb3 := below1 w2 (Beg (.map (some m)) (.int .i64 0))
  have HB := Lib.hid (hb.trans (hb3.mono hb.size))
  have HH := Lib.hid (H.out.below (hb.trans (hb3.mono hb.size)))
  have P1 := P0.below hb3
  have Z1 := Z0.below hb3
  have d2 := (hb3.cell (p := ⟨B, 2, none⟩) (Nat.lt_of_lt_of_le hBl hb.size)).trans c2
  have hLs : w.heap.size + 2 ≤ w2.heap.size := Z0.1.2.2
  have j1 : lv.length < lv.length + 1 := by omega
  have j2 : (lv.length : Int) < ((lv.length + 1 : Nat) : Int) := by omega
  have j3 : (0 : Int) ≤ (lv.length : Int) := by omega
  have j6 : (lv.length : Int) < (lv.length : Int) + 1 := by omega
  have j4 : lv.length ≤ cap := by omega
  have j5 : (lv.length : Int) ≤ (cap : Int) := by omega
  clear P0 Z0 hb3 hb hcap h64
  go_wp2_with fail
  generalize hW : w2.alloc (.cells #[.map (some m), .int .i64 0] 62) = W at *
  clear hW c2 x0 x1
  obtain ⟨y0, y1⟩ := HH.out.last
  obtain ⟨⟨p0, p1, p2⟩, p3, p4⟩ := P1
  obtain ⟨⟨z0, z1, z2⟩, z3, z4⟩ := Z1
  obtain ⟨⟨l0, l1, l2⟩, l3, l4⟩ := L0
  have hfz : ∀ i, W.frozen? ⟨r, i, none⟩ = false := fun i => HH.out.row.frozenAt i
  have hS := And.intro d2 (And.intro z0 z1)
  have hrB : B ≠ r := fun e => HH.out.h2 (by rw [e]; rfl)
  have t1 : Turn (fun j => j = r) W ((W.setCell ⟨r, lv.length * 2, none⟩ (.map none)).setCell ⟨r, lv.length * 2 + 1, none⟩ (.int .i64 0)).drew := by
    have t := turn_set (F := fun j => j = r) (turn_set (F := fun j => j = r) (Turn.refl _ W) (p := ⟨r, lv.length * 2, none⟩) (Or.inl rfl) (.map none)) (p := ⟨r, lv.length * 2 + 1, none⟩) (Or.inl rfl) (.int .i64 0)
    exact ⟨t.os, t.tape, t.output, t.size, t.block⟩
  have P2 := (show Ow2 W w.heap.size (.map none) (.int .i64 0) from ⟨⟨p0, p1, p2⟩, p3, p4⟩).turn t1 (fun e => by omega)
  have L2 := (show Ow2 W w2.heap.size (.map (some m)) (.int .i64 0) from ⟨⟨l0, l1, l2⟩, l3, l4⟩).turn t1 (fun e => by omega)
  have hS2 : (fun wz : World => wz.cell? ⟨B, 2, none⟩ = some (.slice (some ⟨r, 0, none⟩) (lv.length + 1) cap) ∧ wz.cell? ⟨w.heap.size + 1, 0, none⟩ = some (.map none) ∧ wz.cell? ⟨w.heap.size + 1, 1, none⟩ = some (.int .i64 0)) ((W.setCell ⟨r, lv.length * 2, none⟩ (.map none)).setCell ⟨r, lv.length * 2 + 1, none⟩ (.int .i64 0)).drew :=
    ⟨(t1.cell (a := ⟨B, 2, none⟩) HH.out.lt hrB).trans d2, (t1.cell (a := ⟨w.heap.size + 1, 0, none⟩) z2 (fun e => by dsimp only at e; omega)).trans z0, (t1.cell (a := ⟨w.heap.size + 1, 1, none⟩) z2 (fun e => by dsimp only at e; omega)).trans z1⟩
  obtain ⟨e1, e2, e3⟩ := HH.out.pop (.map none) (.int .i64 0)
  have E1 : UB (((W.setCell ⟨r, lv.length * 2, none⟩ (.map none)).setCell ⟨r, lv.length * 2 + 1, none⟩ (.int .i64 0)).drew.setCell ⟨B, 2, none⟩ (.slice (some ⟨r, 0, none⟩) lv.length cap)) B mv (.slice (some ⟨r, 0, none⟩) lv.length cap) lv g := e1.below ((Below.refl _ _).drew)
  have E2 : Turn (UF B mv (.slice (some ⟨r, 0, none⟩) (lv.length + 1) cap) ((m, f) :: lv)) W (((W.setCell ⟨r, lv.length * 2, none⟩ (.map none)).setCell ⟨r, lv.length * 2 + 1, none⟩ (.int .i64 0)).drew.setCell ⟨B, 2, none⟩ (.slice (some ⟨r, 0, none⟩) lv.length cap)) := ⟨e2.os, e2.tape, e2.output, e2.size, e2.block⟩
  have E3 : MpH (((W.setCell ⟨r, lv.length * 2, none⟩ (.map none)).setCell ⟨r, lv.length * 2 + 1, none⟩ (.int .i64 0)).drew.setCell ⟨B, 2, none⟩ (.slice (some ⟨r, 0, none⟩) lv.length cap)) m f := e3
  have tB : Turn (fun j => j = B) ((W.setCell ⟨r, lv.length * 2, none⟩ (.map none)).setCell ⟨r, lv.length * 2 + 1, none⟩ (.int .i64 0)).drew (((W.setCell ⟨r, lv.length * 2, none⟩ (.map none)).setCell ⟨r, lv.length * 2 + 1, none⟩ (.int .i64 0)).drew.setCell ⟨B, 2, none⟩ (.slice (some ⟨r, 0, none⟩) lv.length cap)) :=
    turn_set (F := fun j => j = B) (Turn.refl _ _) (p := ⟨B, 2, none⟩) (Or.inl rfl) _
  have P3 := P2.turn tB (fun e => by omega)
  have L3 := L2.turn tB (fun e => by omega)
  have HE := Lib.hid (And.intro E1 (And.intro E2 E3))
  have HP := Lib.hid P3
  have zB : ((W.setCell ⟨r, lv.length * 2, none⟩ (.map none)).setCell ⟨r, lv.length * 2 + 1, none⟩ (.int .i64 0)).drew.frozen? ⟨B, 2, none⟩ = false := (t1.frozen (a := ⟨B, 2, none⟩) HH.out.lt hrB).trans HH.out.z2
  clear e1 e2 e3 E1 E2 E3 P2 L2 tB t1
  refine wp_region_held_drew (S := fun wz => wz.cell? ⟨B, 2, none⟩ = some (.slice (some ⟨r, 0, none⟩) (lv.length + 1) cap) ∧ wz.cell? ⟨w.heap.size + 1, 0, none⟩ = some (.map none) ∧ wz.cell? ⟨w.heap.size + 1, 1, none⟩ = some (.int .i64 0)) (by kernel_rfl) (hS) (fun hHeld => ?_)
  refine wpAnyH_take (i := 0) (v := ?_) rfl (by kernel_rfl) (by kernel_rfl) (by kernel_rfl) (fun _ _ _ h => h) (Or.inl ⟨by rfl, ?y0⟩) (by assumption) ?_
  case y0 => intro w hSw; (try dsimp only at hSw); go_simp; (try with_reducible rfl)
  (try simp only [Act.put, List.setIfInBounds_toArray, List.set_cons_zero, List.set_cons_succ, List.getElem_toArray, List.getElem_cons_zero, List.getElem_cons_succ])
  refine wpAnyH_take (i := 1) (v := ?_) rfl (by kernel_rfl) (by kernel_rfl) (by kernel_rfl) (fun _ _ _ h => h) (Or.inl ⟨by rfl, ?y1⟩) (by assumption) ?_
  case y1 => intro w hSw; (try dsimp only at hSw); go_simp; (try with_reducible rfl)
  (try simp only [Act.put, List.setIfInBounds_toArray, List.set_cons_zero, List.set_cons_succ, List.getElem_toArray, List.getElem_cons_zero, List.getElem_cons_succ])
  refine wpAnyH_take (i := 2) (v := ?_) rfl (by kernel_rfl) (by kernel_rfl) (by kernel_rfl) (fun _ _ _ h => h) (Or.inl ⟨by rfl, ?y2⟩) (by assumption) ?_
  case y2 => intro w hSw; (try dsimp only at hSw); go_simp; (try with_reducible rfl)
  (try simp only [Act.put, List.setIfInBounds_toArray, List.set_cons_zero, List.set_cons_succ, List.getElem_toArray, List.getElem_cons_zero, List.getElem_cons_succ])
  refine wpAnyH_take (i := 3) (v := ?_) rfl (by kernel_rfl) (by kernel_rfl) (by kernel_rfl) (fun _ _ _ h => h) (Or.inl ⟨by rfl, ?y3⟩) (by assumption) ?_
  case y3 => intro w hSw; (try dsimp only at hSw); go_simp; (try with_reducible rfl)
  (try simp only [Act.put, List.setIfInBounds_toArray, List.set_cons_zero, List.set_cons_succ, List.getElem_toArray, List.getElem_cons_zero, List.getElem_cons_succ])
  refine wpAnyH_take (i := 4) (v := ?_) rfl (by kernel_rfl) (by kernel_rfl) (by kernel_rfl) (fun _ _ _ h => h) (Or.inl ⟨by rfl, ?y4⟩) (by assumption) ?_
  case y4 => intro w hSw; (try dsimp only at hSw); go_simp; (try with_reducible rfl)
  (try simp only [Act.put, List.setIfInBounds_toArray, List.set_cons_zero, List.set_cons_succ, List.getElem_toArray, List.getElem_cons_zero, List.getElem_cons_succ])
  refine wpAnyH_take (i := 5) (v := ?_) rfl (by kernel_rfl) (by kernel_rfl) (by kernel_rfl) (fun _ _ _ h => h) (Or.inl ⟨by rfl, ?y5⟩) (by assumption) ?_
  case y5 => intro w hSw; (try dsimp only at hSw); go_simp; (try with_reducible rfl)
  (try simp only [Act.put, List.setIfInBounds_toArray, List.set_cons_zero, List.set_cons_succ, List.getElem_toArray, List.getElem_cons_zero, List.getElem_cons_succ])
  refine wpAnyH_take (i := 6) (v := ?_) rfl (by kernel_rfl) (by kernel_rfl) (by kernel_rfl) (fun _ _ _ h => h) (Or.inl ⟨by rfl, ?y6⟩) (by assumption) ?_
  case y6 => intro w hSw; (try dsimp only at hSw); go_simp; (try with_reducible rfl)
  (try simp only [Act.put, List.setIfInBounds_toArray, List.set_cons_zero, List.set_cons_succ, List.getElem_toArray, List.getElem_cons_zero, List.getElem_cons_succ])
  refine wpAnyH_ready (rs := [7]) (by kernel_rfl) (by simp) ?_
  refine AllReadyH.cons rfl (fun KK hKK => ?_) AllReadyH.nil
  go_simp
  refine hKK.out _ _ hS2 (fun hHeld => ?_)
  clear hKK KK
  (try simp only [Act.put, List.setIfInBounds_toArray, List.set_cons_zero, List.set_cons_succ, List.getElem_toArray, List.getElem_cons_zero, List.getElem_cons_succ])
  refine wpAnyH_done (by kernel_rfl) ?_ _
  have d3 := hS2.1
  generalize hV : ((W.setCell ⟨r, lv.length * 2, none⟩ (.map none)).setCell ⟨r, lv.length * 2 + 1, none⟩ (.int .i64 0)).drew = V at *
  clear hV hS2 hS d2 z0 z1 p0 p1 y0 y1 l0 l1 hfz
  obtain ⟨⟨q0, q1, q2⟩, q3, q4⟩ := P3
  obtain ⟨⟨l0, l1, l2⟩, l3, l4⟩ := L3
  go_wp2_with fail
  obtain ⟨o0, o1, _⟩ := HP.out.1.put (a := .map (some m)) (b := .int .i64 0)
  refine bodyPost_ret (by simp [results, Try.results28, go_sem, o0, o1]) rfl ⟨rfl, .slice (some ⟨r, 0, none⟩) lv.length cap, ?_⟩
  clear o0 o1 q0 q1 q2 q3 q4 l0 l1 l2 l3 l4 d3 zB
  obtain ⟨E1, E2, E3⟩ := HE.out
  have hsub : ∀ j, UF B mv (.slice (some ⟨r, 0, none⟩) lv.length cap) lv j → UF B mv (.slice (some ⟨r, 0, none⟩) (lv.length + 1) cap) ((m, f) :: lv) j := by
    rintro j (q | q | q | q)
    · exact Or.inl q
    · exact Or.inr (Or.inl q)
    · exact Or.inr (Or.inr (Or.inl q))
    · exact Or.inr (Or.inr (Or.inr (List.mem_cons_of_mem _ q)))
  have hlow := H.out.foot
  have hm := hlow m (Or.inr (Or.inr (Or.inr List.mem_cons_self)))
  have tP := turn_set2 (F := fun j => j = w.heap.size) (Turn.refl _ (V.setCell ⟨B, 2, none⟩ (.slice (some ⟨r, 0, none⟩) lv.length cap))) (Or.inl rfl) (.map (some m)) (.int .i64 0)
  refine ⟨E1.turn tP (fun j q e => by have := hlow j (hsub j q); omega), E3.keep (tP.block m E3.lt (fun e => by omega)), ((Turn.of_below HB.out).trans E2 fun j q => Or.inl q).trans tP fun j q => Or.inr (by omega), hsub, ?_⟩
  have h4 := H.out.h4 (m, f) List.mem_cons_self
  rintro (q | q | q | q)
  · exact h4.1 q
  · exact h4.2.1 q
  · exact h4.2.2 q
  · exact (List.nodup_cons.1 H.out.h5).1 q
end Go.Proofs.Ytmhfgkkiplencaa
