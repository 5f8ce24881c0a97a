/-
  The document's End of layer 16. The condition: the rows' lengths.
-/
import Derived.Test.YtmhfgkkiplencaaR16d
namespace Go.Proofs.Ytmhfgkkiplencaa
open Go.RowKit
set_option linter.unusedSimpArgs false
set_option linter.unusedVariables false

theorem r16end_no {w : World} {x : Value} {s : USt} (G : Nat → Prop) (h : BkX G w x s) (hs : s.2 = []) (bk : Bool) :
    Calls Try.prog 25 #[x, .bool bk] w fun e w' => ∃ x', e = .returned (.tuple #[x', .int .i64 2]) ∧ BkX G w' x' s ∧ Below w.heap.size w w' := by
  obtain ⟨v, u, rfl, hv, hu⟩ := h
  obtain ⟨a, c, rfl⟩ := hv.1.form
  obtain ⟨ua, uc, hue⟩ := hu.form
  rw [List.length_reverse] at hue
  subst hue
  have hb2 := below2 w (.cells #[.slice a s.1.length c, .slice ua s.2.length uc] 29) (.cells #[.slice none 0 0, .slice none 0 0] 29)
  have X0 := (Ow2.new w (.slice a s.1.length c) (.slice ua s.2.length uc) 29).alloc (.cells #[.slice none 0 0, .slice none 0 0] 29)
  have Y0 := Ow2.new2 w (.cells #[.slice a s.1.length c, .slice ua s.2.length uc] 29) (.slice none 0 0) (.slice none 0 0) 29
  have HU := Lib.hid hu
  have HV := Lib.hid hv
  have hl0 : s.2.length = 0 := by rw [hs]; rfl
  have g0 : ((s.2.length : Int) == 0) = true := by rw [hl0]; rfl
  have g1 : (s.2.length == 0) = true := by rw [hl0]; rfl
  clear hu hv hs hl0
  have hbe := below2 w (.cells #[.slice a s.1.length c, .slice ua s.2.length uc] 29) (.cells #[.slice a s.1.length c, .slice ua s.2.length uc] 29)
  obtain ⟨⟨o0, o1, _⟩, _, _⟩ := Ow2.new2 w (.cells #[.slice a s.1.length c, .slice ua s.2.length uc] 29) (.slice a s.1.length c) (.slice ua s.2.length uc) 29
  clear X0 Y0 hb2
  go_enter Try.func25, Try.ntmps25
  go_wp2_with fail
  exact bodyPost_ret (v := .tuple #[.agg #[.slice a s.1.length c, .slice ua s.2.length uc], .int .i64 2]) (by simp [results, Try.results25, go_sem, o0, o1]) rfl ⟨_, rfl, ⟨_, _, rfl, HV.out.below hbe, HU.out.below hbe⟩, hbe⟩
set_option maxHeartbeats 2000000 in
theorem r16end_true {w : World} {x : Value} {N t : Prs} {T : List Prs} (G : Nat → Prop) (h : BkX G w x (N, t :: T)) (h64 : T.length ≤ 64) :
    Calls Try.prog 25 #[x, .bool true] w fun e w' => ∃ x', e = .returned (.tuple #[x', .int .i64 0]) ∧ BkX G w' x' (t, T) ∧ Below w.heap.size w w' := by
  obtain ⟨v, u, rfl, hv, hu⟩ := h
  obtain ⟨a, c, rfl⟩ := hv.1.form
  obtain ⟨ua, uc, hue⟩ := hu.form
  rw [show (N, t :: T).2.reverse.length = T.length + 1 by simp] at hue
  subst hue
  simp only at hv hu
  have hb2 := below2 w (.cells #[.slice a N.length c, .slice ua (T.length + 1) uc] 29) (.cells #[.slice none 0 0, .slice none 0 0] 29)
  have X0 := (Ow2.new w (.slice a N.length c) (.slice ua (T.length + 1) uc) 29).alloc (.cells #[.slice none 0 0, .slice none 0 0] 29)
  have Y0 := Ow2.new2 w (.cells #[.slice a N.length c, .slice ua (T.length + 1) uc] 29) (.slice none 0 0) (.slice none 0 0) 29
  obtain ⟨hp, hcap, ub, uo, ta, tc, rfl, hcell, ht⟩ := rw_pop hu
  have HP := Lib.hid hp; have HT := Lib.hid ht; have HV := Lib.hid hv
  have hul := World.block_lt_of_cell? w _ hcell
  have hr := (hb2.cell (p := ⟨ub, _, none⟩) hul).trans hcell
  have i1 : wrap64 (((T.length + 1 : Nat) : Int) - 1) = (T.length : Int) := by unfold wrap64; omega
  have g0 : (((T.length + 1 : Nat) : Int) == 0) = false := by simp; omega
  clear hv hu hp ht hcell
  generalize hm : T.length = m at *
  have HM := Lib.hid hm
  clear hm
  have i7 : wrap64 (m : Int) = (m : Int) := by unfold wrap64; omega
  have i8 : IntKind.i64.wrap (m : Int) = (m : Int) := by simp [IntKind.wrap, IntKind.signed, IntKind.bits]; omega
  have j1 : m < m + 1 := by omega
  have j2 : (m : Int) < ((m + 1 : Nat) : Int) := by omega
  have j3 : (0 : Int) ≤ (m : Int) := by omega
  have j4 : m ≤ uc := by omega
  have j5 : (m : Int) ≤ (uc : Int) := by omega
  have j6 : (m : Int) < (m : Int) + 1 := by omega
  go_enter Try.func25, Try.ntmps25
  go_wp2_with fail
  generalize hW : (w.alloc (.cells #[.slice a N.length c, .slice (some ⟨ub, uo, none⟩) (m + 1) uc] 29)).alloc (.cells #[.slice none 0 0, .slice none 0 0] 29) = W at *
  clear hW
  have HX := Lib.hid X0.1
  obtain ⟨⟨y0, y1, y2⟩, y3, y4⟩ := Y0
  obtain ⟨⟨x0, x1, x2⟩, x3, x4⟩ := X0
  have hS := And.intro x0 (And.intro x1 hr)
  have t2 := turn_set2 (F := fun j => j = w.heap.size + 1) (Turn.refl _ W.drew) (Or.inl rfl) (.slice ta t.length tc) (.slice (some ⟨ub, uo, none⟩) m uc)
  have hX2 := (HX.out.drew).setne (k := w.heap.size + 1) (a := .slice ta t.length tc) (b := .slice (some ⟨ub, uo, none⟩) m uc) (by omega)
  have hr2 := (t2.cell (a := ⟨ub, uo + m, none⟩) (World.block_lt_of_cell? W _ hr) (fun e => by dsimp only at e; omega)).trans (show W.drew.cell? ⟨ub, uo + m, none⟩ = _ from hr)
  have HS2 := Lib.hid (And.intro hX2.1 (And.intro hX2.2.1 hr2))
  obtain ⟨o0, o1, _⟩ := At2.put (w := W) (k := w.heap.size + 1) (a := .slice ta t.length tc) (b := .slice (some ⟨ub, uo, none⟩) m uc) ⟨y0, y1, y2⟩
  have hbe := hb2.trans (Below.trans (Below.mono ((Below.refl W.heap.size W).drew) hb2.size) (t2.below (fun k e => by omega) hb2.size))
  clear hX2 hr2 t2 hb2
  go_wp2_with fail
  refine wp_region_held_drew (S := fun wz => wz.cell? ⟨w.heap.size, 0, none⟩ = some (.slice a N.length c) ∧ wz.cell? ⟨w.heap.size, 1, none⟩ = some (.slice (some ⟨ub, uo, none⟩) (m + 1) uc) ∧ wz.cell? ⟨ub, uo + m, none⟩ = some (.slice ta t.length tc)) (by kernel_rfl) hS (fun hHeld => ?_)
  refine wpAnyH_take (i := 0) (v := ?_) rfl (by kernel_rfl) (by kernel_rfl) (by kernel_rfl) (fun _ _ _ h => h) (Or.inl ⟨by rfl, ?y0⟩) (by assumption) ?_
  case y0 => intro w hSw; (try dsimp only at hSw); go_simp; (try with_reducible rfl)
  (try simp only [Act.put, List.setIfInBounds_toArray, List.set_cons_zero, List.set_cons_succ, List.getElem_toArray, List.getElem_cons_zero, List.getElem_cons_succ])
  refine wpAnyH_take (i := 1) (v := ?_) rfl (by kernel_rfl) (by kernel_rfl) (by kernel_rfl) (fun _ _ _ h => h) (Or.inl ⟨by rfl, ?y1⟩) (by assumption) ?_
  case y1 => intro w hSw; (try dsimp only at hSw); go_simp; (try with_reducible rfl)
  (try simp only [Act.put, List.setIfInBounds_toArray, List.set_cons_zero, List.set_cons_succ, List.getElem_toArray, List.getElem_cons_zero, List.getElem_cons_succ])
  refine wpAnyH_take (i := 2) (v := ?_) rfl (by kernel_rfl) (by kernel_rfl) (by kernel_rfl) (fun _ _ _ h => h) (Or.inl ⟨by rfl, ?y2⟩) (by assumption) ?_
  case y2 => intro w hSw; (try dsimp only at hSw); go_simp; (try with_reducible rfl)
  (try simp only [Act.put, List.setIfInBounds_toArray, List.set_cons_zero, List.set_cons_succ, List.getElem_toArray, List.getElem_cons_zero, List.getElem_cons_succ])
  refine wpAnyH_take (i := 3) (v := ?_) rfl (by kernel_rfl) (by kernel_rfl) (by kernel_rfl) (fun _ _ _ h => h) (Or.inl ⟨by rfl, ?y3⟩) (by assumption) ?_
  case y3 => intro w hSw; (try dsimp only at hSw); go_simp; (try with_reducible rfl)
  (try simp only [Act.put, List.setIfInBounds_toArray, List.set_cons_zero, List.set_cons_succ, List.getElem_toArray, List.getElem_cons_zero, List.getElem_cons_succ])
  refine wpAnyH_take (i := 4) (v := ?_) rfl (by kernel_rfl) (by kernel_rfl) (by kernel_rfl) (fun _ _ _ h => h) (Or.inl ⟨by rfl, ?y4⟩) (by assumption) ?_
  case y4 => intro w hSw; (try dsimp only at hSw); go_simp; (try with_reducible rfl)
  (try simp only [Act.put, List.setIfInBounds_toArray, List.set_cons_zero, List.set_cons_succ, List.getElem_toArray, List.getElem_cons_zero, List.getElem_cons_succ])
  refine wpAnyH_take (i := 5) (v := ?_) rfl (by kernel_rfl) (by kernel_rfl) (by kernel_rfl) (fun _ _ _ h => h) (Or.inl ⟨by rfl, ?y5⟩) (by assumption) ?_
  case y5 => intro w hSw; (try dsimp only at hSw); go_simp; (try with_reducible rfl)
  (try simp only [Act.put, List.setIfInBounds_toArray, List.set_cons_zero, List.set_cons_succ, List.getElem_toArray, List.getElem_cons_zero, List.getElem_cons_succ])
  refine wpAnyH_take (i := 6) (v := ?_) rfl (by kernel_rfl) (by kernel_rfl) (by kernel_rfl) (fun _ _ _ h => h) (Or.inl ⟨by rfl, ?y6⟩) (by assumption) ?_
  case y6 => intro w hSw; (try dsimp only at hSw); go_simp; (try with_reducible rfl)
  (try simp only [Act.put, List.setIfInBounds_toArray, List.set_cons_zero, List.set_cons_succ, List.getElem_toArray, List.getElem_cons_zero, List.getElem_cons_succ])
  refine wpAnyH_take (i := 7) (v := ?_) rfl (by kernel_rfl) (by kernel_rfl) (by kernel_rfl) (fun _ _ _ h => h) (Or.inl ⟨by rfl, ?y7⟩) (by assumption) ?_
  case y7 => intro w hSw; (try dsimp only at hSw); go_simp; (try with_reducible rfl)
  (try simp only [Act.put, List.setIfInBounds_toArray, List.set_cons_zero, List.set_cons_succ, List.getElem_toArray, List.getElem_cons_zero, List.getElem_cons_succ])
  refine wpAnyH_take (i := 8) (v := ?_) rfl (by kernel_rfl) (by kernel_rfl) (by kernel_rfl) (fun _ _ _ h => h) (Or.inl ⟨by rfl, ?y8⟩) (by assumption) ?_
  case y8 => intro w hSw; (try dsimp only at hSw); go_simp; (try with_reducible rfl)
  (try simp only [Act.put, List.setIfInBounds_toArray, List.set_cons_zero, List.set_cons_succ, List.getElem_toArray, List.getElem_cons_zero, List.getElem_cons_succ])
  refine wpAnyH_take (i := 9) (v := ?_) rfl (by kernel_rfl) (by kernel_rfl) (by kernel_rfl) (fun _ _ _ h => h) (Or.inl ⟨by rfl, ?y9⟩) (by assumption) ?_
  case y9 => intro w hSw; (try dsimp only at hSw); go_simp; (try with_reducible rfl)
  (try simp only [Act.put, List.setIfInBounds_toArray, List.set_cons_zero, List.set_cons_succ, List.getElem_toArray, List.getElem_cons_zero, List.getElem_cons_succ])
  refine wpAnyH_take (i := 10) (v := ?_) rfl (by kernel_rfl) (by kernel_rfl) (by kernel_rfl) (fun _ _ _ h => h) (Or.inl ⟨by rfl, ?y10⟩) (by assumption) ?_
  case y10 => intro w hSw; (try dsimp only at hSw); go_simp; (try with_reducible rfl)
  (try simp only [Act.put, List.setIfInBounds_toArray, List.set_cons_zero, List.set_cons_succ, List.getElem_toArray, List.getElem_cons_zero, List.getElem_cons_succ])
  refine wpAnyH_take (i := 11) (v := ?_) rfl (by kernel_rfl) (by kernel_rfl) (by kernel_rfl) (fun _ _ _ h => h) (Or.inl ⟨by rfl, ?y11⟩) (by assumption) ?_
  case y11 => intro w hSw; (try dsimp only at hSw); go_simp; (try with_reducible rfl)
  (try simp only [Act.put, List.setIfInBounds_toArray, List.set_cons_zero, List.set_cons_succ, List.getElem_toArray, List.getElem_cons_zero, List.getElem_cons_succ])
  refine wpAnyH_ready (rs := [12]) (by kernel_rfl) (by simp) ?_
  refine AllReadyH.cons rfl (fun KK hKK => ?_) AllReadyH.nil
  go_simp
  refine hKK.out _ _ HS2.out (fun hHeld => ?_)
  clear hKK KK
  (try simp only [Act.put, List.setIfInBounds_toArray, List.set_cons_zero, List.set_cons_succ, List.getElem_toArray, List.getElem_cons_zero, List.getElem_cons_succ])
  refine wpAnyH_take (i := 13) (v := ?_) rfl (by kernel_rfl) (by kernel_rfl) (by kernel_rfl) (fun _ _ _ h => h) (Or.inl ⟨by rfl, ?y13⟩) (by assumption) ?_
  case y13 => intro w hSw; (try dsimp only at hSw); go_simp; (try with_reducible rfl)
  (try simp only [Act.put, List.setIfInBounds_toArray, List.set_cons_zero, List.set_cons_succ, List.getElem_toArray, List.getElem_cons_zero, List.getElem_cons_succ])
  refine wpAnyH_done (by kernel_rfl) ?_ _
  go_wp2_with fail
  refine bodyPost_ret (v := .tuple #[.agg #[.slice ta t.length tc, .slice (some ⟨ub, uo, none⟩) m uc], .int .i64 0]) (by simp [results, Try.results25, go_sem, o0, o1]) rfl ⟨_, rfl, ⟨_, _, rfl, HT.out.below hbe, HP.out.below hbe⟩, hbe⟩
set_option maxHeartbeats 2000000 in
theorem r16end_false {w : World} {x : Value} {N t : Prs} {T : List Prs} (G : Nat → Prop) (h : BkX G w x (N, t :: T)) (h64 : T.length ≤ 64) :
    Calls Try.prog 25 #[x, .bool false] w fun e w' => ∃ x', e = .returned (.tuple #[x', .int .i64 0]) ∧ BkX G w' x' (N, T) ∧ Below w.heap.size w w' := by
  obtain ⟨v, u, rfl, hv, hu⟩ := h
  obtain ⟨a, c, rfl⟩ := hv.1.form
  obtain ⟨ua, uc, hue⟩ := hu.form
  rw [show (N, t :: T).2.reverse.length = T.length + 1 by simp] at hue
  subst hue
  simp only at hv hu
  have hb2 := below2 w (.cells #[.slice a N.length c, .slice ua (T.length + 1) uc] 29) (.cells #[.slice none 0 0, .slice none 0 0] 29)
  have X0 := (Ow2.new w (.slice a N.length c) (.slice ua (T.length + 1) uc) 29).alloc (.cells #[.slice none 0 0, .slice none 0 0] 29)
  have Y0 := Ow2.new2 w (.cells #[.slice a N.length c, .slice ua (T.length + 1) uc] 29) (.slice none 0 0) (.slice none 0 0) 29
  obtain ⟨hp, hcap, ub, uo, ta, tc, rfl, hcell, ht⟩ := rw_pop hu
  have HP := Lib.hid hp; have HT := Lib.hid ht; have HV := Lib.hid hv
  have hul := World.block_lt_of_cell? w _ hcell
  have hr := (hb2.cell (p := ⟨ub, _, none⟩) hul).trans hcell
  have i1 : wrap64 (((T.length + 1 : Nat) : Int) - 1) = (T.length : Int) := by unfold wrap64; omega
  have g0 : (((T.length + 1 : Nat) : Int) == 0) = false := by simp; omega
  clear hv hu hp ht hcell
  generalize hm : T.length = m at *
  have HM := Lib.hid hm
  clear hm
  have i7 : wrap64 (m : Int) = (m : Int) := by unfold wrap64; omega
  have i8 : IntKind.i64.wrap (m : Int) = (m : Int) := by simp [IntKind.wrap, IntKind.signed, IntKind.bits]; omega
  have j1 : m < m + 1 := by omega
  have j2 : (m : Int) < ((m + 1 : Nat) : Int) := by omega
  have j3 : (0 : Int) ≤ (m : Int) := by omega
  have j4 : m ≤ uc := by omega
  have j5 : (m : Int) ≤ (uc : Int) := by omega
  have j6 : (m : Int) < (m : Int) + 1 := by omega
  go_enter Try.func25, Try.ntmps25
  go_wp2_with fail
  generalize hW : (w.alloc (.cells #[.slice a N.length c, .slice (some ⟨ub, uo, none⟩) (m + 1) uc] 29)).alloc (.cells #[.slice none 0 0, .slice none 0 0] 29) = W at *
  clear hW
  have HX := Lib.hid X0.1
  obtain ⟨⟨y0, y1, y2⟩, y3, y4⟩ := Y0
  obtain ⟨⟨x0, x1, x2⟩, x3, x4⟩ := X0
  have hS := And.intro x0 (And.intro x1 hr)
  have t2 := turn_set2 (F := fun j => j = w.heap.size + 1) (Turn.refl _ W.drew) (Or.inl rfl) (.slice a N.length c) (.slice (some ⟨ub, uo, none⟩) m uc)
  have hX2 := (HX.out.drew).setne (k := w.heap.size + 1) (a := .slice a N.length c) (b := .slice (some ⟨ub, uo, none⟩) m uc) (by omega)
  have hr2 := (t2.cell (a := ⟨ub, uo + m, none⟩) (World.block_lt_of_cell? W _ hr) (fun e => by dsimp only at e; omega)).trans (show W.drew.cell? ⟨ub, uo + m, none⟩ = _ from hr)
  have HS2 := Lib.hid (And.intro hX2.1 (And.intro hX2.2.1 hr2))
  obtain ⟨o0, o1, _⟩ := At2.put (w := W) (k := w.heap.size + 1) (a := .slice a N.length c) (b := .slice (some ⟨ub, uo, none⟩) m uc) ⟨y0, y1, y2⟩
  have hbe := hb2.trans (Below.trans (Below.mono ((Below.refl W.heap.size W).drew) hb2.size) (t2.below (fun k e => by omega) hb2.size))
  clear hX2 hr2 t2 hb2
  go_wp2_with fail
  refine wp_region_held_drew (S := fun wz => wz.cell? ⟨w.heap.size, 0, none⟩ = some (.slice a N.length c) ∧ wz.cell? ⟨w.heap.size, 1, none⟩ = some (.slice (some ⟨ub, uo, none⟩) (m + 1) uc) ∧ wz.cell? ⟨ub, uo + m, none⟩ = some (.slice ta t.length tc)) (by kernel_rfl) hS (fun hHeld => ?_)
  refine wpAnyH_take (i := 0) (v := ?_) rfl (by kernel_rfl) (by kernel_rfl) (by kernel_rfl) (fun _ _ _ h => h) (Or.inl ⟨by rfl, ?y0⟩) (by assumption) ?_
  case y0 => intro w hSw; (try dsimp only at hSw); go_simp; (try with_reducible rfl)
  (try simp only [Act.put, List.setIfInBounds_toArray, List.set_cons_zero, List.set_cons_succ, List.getElem_toArray, List.getElem_cons_zero, List.getElem_cons_succ])
  refine wpAnyH_take (i := 1) (v := ?_) rfl (by kernel_rfl) (by kernel_rfl) (by kernel_rfl) (fun _ _ _ h => h) (Or.inl ⟨by rfl, ?y1⟩) (by assumption) ?_
  case y1 => intro w hSw; (try dsimp only at hSw); go_simp; (try with_reducible rfl)
  (try simp only [Act.put, List.setIfInBounds_toArray, List.set_cons_zero, List.set_cons_succ, List.getElem_toArray, List.getElem_cons_zero, List.getElem_cons_succ])
  refine wpAnyH_take (i := 2) (v := ?_) rfl (by kernel_rfl) (by kernel_rfl) (by kernel_rfl) (fun _ _ _ h => h) (Or.inl ⟨by rfl, ?y2⟩) (by assumption) ?_
  case y2 => intro w hSw; (try dsimp only at hSw); go_simp; (try with_reducible rfl)
  (try simp only [Act.put, List.setIfInBounds_toArray, List.set_cons_zero, List.set_cons_succ, List.getElem_toArray, List.getElem_cons_zero, List.getElem_cons_succ])
  refine wpAnyH_take (i := 3) (v := ?_) rfl (by kernel_rfl) (by kernel_rfl) (by kernel_rfl) (fun _ _ _ h => h) (Or.inl ⟨by rfl, ?y3⟩) (by assumption) ?_
  case y3 => intro w hSw; (try dsimp only at hSw); go_simp; (try with_reducible rfl)
  (try simp only [Act.put, List.setIfInBounds_toArray, List.set_cons_zero, List.set_cons_succ, List.getElem_toArray, List.getElem_cons_zero, List.getElem_cons_succ])
  refine wpAnyH_take (i := 4) (v := ?_) rfl (by kernel_rfl) (by kernel_rfl) (by kernel_rfl) (fun _ _ _ h => h) (Or.inl ⟨by rfl, ?y4⟩) (by assumption) ?_
  case y4 => intro w hSw; (try dsimp only at hSw); go_simp; (try with_reducible rfl)
  (try simp only [Act.put, List.setIfInBounds_toArray, List.set_cons_zero, List.set_cons_succ, List.getElem_toArray, List.getElem_cons_zero, List.getElem_cons_succ])
  refine wpAnyH_take (i := 5) (v := ?_) rfl (by kernel_rfl) (by kernel_rfl) (by kernel_rfl) (fun _ _ _ h => h) (Or.inl ⟨by rfl, ?y5⟩) (by assumption) ?_
  case y5 => intro w hSw; (try dsimp only at hSw); go_simp; (try with_reducible rfl)
  (try simp only [Act.put, List.setIfInBounds_toArray, List.set_cons_zero, List.set_cons_succ, List.getElem_toArray, List.getElem_cons_zero, List.getElem_cons_succ])
  refine wpAnyH_take (i := 6) (v := ?_) rfl (by kernel_rfl) (by kernel_rfl) (by kernel_rfl) (fun _ _ _ h => h) (Or.inl ⟨by rfl, ?y6⟩) (by assumption) ?_
  case y6 => intro w hSw; (try dsimp only at hSw); go_simp; (try with_reducible rfl)
  (try simp only [Act.put, List.setIfInBounds_toArray, List.set_cons_zero, List.set_cons_succ, List.getElem_toArray, List.getElem_cons_zero, List.getElem_cons_succ])
  refine wpAnyH_take (i := 7) (v := ?_) rfl (by kernel_rfl) (by kernel_rfl) (by kernel_rfl) (fun _ _ _ h => h) (Or.inl ⟨by rfl, ?y7⟩) (by assumption) ?_
  case y7 => intro w hSw; (try dsimp only at hSw); go_simp; (try with_reducible rfl)
  (try simp only [Act.put, List.setIfInBounds_toArray, List.set_cons_zero, List.set_cons_succ, List.getElem_toArray, List.getElem_cons_zero, List.getElem_cons_succ])
  refine wpAnyH_ready (rs := [8]) (by kernel_rfl) (by simp) ?_
  refine AllReadyH.cons rfl (fun KK hKK => ?_) AllReadyH.nil
  go_simp
  refine hKK.out _ _ HS2.out (fun hHeld => ?_)
  clear hKK KK
  (try simp only [Act.put, List.setIfInBounds_toArray, List.set_cons_zero, List.set_cons_succ, List.getElem_toArray, List.getElem_cons_zero, List.getElem_cons_succ])
  refine wpAnyH_take (i := 9) (v := ?_) rfl (by kernel_rfl) (by kernel_rfl) (by kernel_rfl) (fun _ _ _ h => h) (Or.inl ⟨by rfl, ?y9⟩) (by assumption) ?_
  case y9 => intro w hSw; (try dsimp only at hSw); go_simp; (try with_reducible rfl)
  (try simp only [Act.put, List.setIfInBounds_toArray, List.set_cons_zero, List.set_cons_succ, List.getElem_toArray, List.getElem_cons_zero, List.getElem_cons_succ])
  refine wpAnyH_done (by kernel_rfl) ?_ _
  go_wp2_with fail
  refine bodyPost_ret (v := .tuple #[.agg #[.slice a N.length c, .slice (some ⟨ub, uo, none⟩) m uc], .int .i64 0]) (by simp [results, Try.results25, go_sem, o0, o1]) rfl ⟨_, rfl, ⟨_, _, rfl, HV.out.below hbe, HP.out.below hbe⟩, hbe⟩
theorem r16end {w : World} {x : Value} {s : USt} (G : Nat → Prop) (h : BkX G w x s) (h64 : s.2.length ≤ 64) (bk : Bool) :
    Calls Try.prog 25 #[x, .bool bk] w fun e w' => ∃ x', e = .returned (.tuple #[x', .int .i64 (uendE s)]) ∧ BkX G w' x' (if bk = true then uback s else ukeep s) ∧ Below w.heap.size w w' := by
  obtain ⟨N, T⟩ := s
  cases T with
  | nil =>
    have := r16end_no G h rfl bk
    cases bk <;> exact this
  | cons t T =>
    have h65 : T.length ≤ 64 := by have h := h64; simp at h; omega
    cases bk
    · exact r16end_false G h h65
    · exact r16end_true G h h65
end Go.Proofs.Ytmhfgkkiplencaa
