/-
  awake of layer 16 answers true. No conditions.
-/
import Derived.Test.YtmhfgkkiplencaaUndX
namespace Go.Proofs.Ytmhfgkkiplencaa
open Go.RowKit Go.Maps
set_option linter.unusedSimpArgs false
set_option linter.unusedVariables false

/-- One book, carried through a walk that began in w0. -/
structure OneU (w0 w : World) (B : Nat) (U : List Int) (s : USt) (F : Nat → Prop) : Prop where
  r : URep w B U s F
  b : Below w0.heap.size w0 w
  f : ∀ j, F j → w0.heap.size ≤ j
section
variable {w0 w w' : World} {B : Nat} {U : List Int} {s s' : USt} {F : Nat → Prop}
theorem OneU.post (h : OneU w0 w B U s F) (p : UPost w B U s' F w') : ∃ F', OneU w0 w' B U s' F' := by
  obtain ⟨F', p1, p2, p3⟩ := p
  exact ⟨F', p1, h.b.trans (p2.below h.f h.b.size), fun j q => (p3 j q).elim (h.f j) fun q => Nat.le_trans h.b.size q⟩
theorem OneU.below (h : OneU w0 w B U s F) (hb : Below w.heap.size w w') : OneU w0 w' B U s F := ⟨h.r.below hb, h.b.trans (hb.mono h.b.size), h.f⟩
theorem OneU.eq (h : OneU w0 w B U s F) (e : s = s') : OneU w0 w B U s' F := e ▸ h
end
set_option maxHeartbeats 4000000 in
set_option maxRecDepth 100000 in
theorem awake16 (w : World) : Calls Try.prog 7 #[] w fun e w' => e = .returned (.bool true) ∧ Below w.heap.size w w' := by
  have hn := new_u [1, 2] (by decide) w
  have k1 : (1 : Int) ∈ ([1, 2] : List Int) := by decide
  have r1 : InR 1 := ⟨by decide, by decide⟩
  have r2 : InR 2 := ⟨by decide, by decide⟩
  have r5 : InR 5 := ⟨by decide, by decide⟩
  have r6 : InR 6 := ⟨by decide, by decide⟩
  have HR := Lib.hid (And.intro k1 (And.intro r1 (And.intro r2 (And.intro r5 r6))))
  clear k1 r1 r2 r5 r6
  go_enter Try.func7, Try.ntmps7
  go_wp2_with fail
  refine hn.mono ?_; clear hn; rintro e w1 ⟨B, F1, rfl, h1, h2, h3⟩
  have O := Lib.hid (OneU.mk h1 h2 h3)
  clear h1 h2 h3
  have hc := set_u O.out.r 1 5 HR.out.1 HR.out.2.1 HR.out.2.2.2.1
  go_wp2_with fail
  refine hc.mono ?_; rintro e w2 ⟨rfl, hP⟩
  obtain ⟨F2, O2⟩ := O.out.post hP
  replace O := Lib.hid (O2.eq (s' := ([(1, 5)], [])) (by decide))
  clear hc hP O2
  have hc := begin_u O.out.r
  rw [show ubeginE ([(1, 5)], []) = 0 by decide] at hc
  go_wp2_with fail
  refine hc.mono ?_; rintro e w3 ⟨rfl, hP⟩
  obtain ⟨F3, O2⟩ := O.out.post hP
  replace O := Lib.hid (O2.eq (s' := ([(1, 5)], [[(1, 5)]])) (by decide))
  clear hc hP O2
  have hc := set_u O.out.r 1 6 HR.out.1 HR.out.2.1 HR.out.2.2.2.2
  go_wp2_with fail
  refine hc.mono ?_; rintro e w4 ⟨rfl, hP⟩
  obtain ⟨F4, O2⟩ := O.out.post hP
  replace O := Lib.hid (O2.eq (s' := ([(1, 6)], [[(1, 5)]])) (by decide))
  clear hc hP O2
  have hc := drop_u O.out.r 1 HR.out.1 HR.out.2.1
  rw [show udropE ([(1, 6)], [[(1, 5)]]) 1 = 0 by decide] at hc
  go_wp2_with fail
  refine hc.mono ?_; rintro e w5 ⟨rfl, hP⟩
  obtain ⟨F5, O2⟩ := O.out.post hP
  replace O := Lib.hid (O2.eq (s' := ([], [[(1, 5)]])) (by decide))
  clear hc hP O2
  have hc := drop_u O.out.r 1 HR.out.1 HR.out.2.1
  rw [show udropE ([], [[(1, 5)]]) 1 = 35 by decide] at hc
  go_wp2_with fail
  refine hc.mono ?_; rintro e w6 ⟨rfl, hP⟩
  obtain ⟨F6, O2⟩ := O.out.post hP
  replace O := Lib.hid (O2.eq (s' := ([], [[(1, 5)]])) (by decide))
  clear hc hP O2
  have hc := depth_r O.out.r
  rw [show (((([], [[(1, 5)]]) : USt).2.length : Nat) : Int) = 1 by decide] at hc
  go_wp2_with fail
  refine hc.mono ?_; clear hc; rintro e w7 ⟨rfl, rfl⟩
  have hc := back_u O.out.r
  rw [show uendE ([], [[(1, 5)]]) = 0 by decide] at hc
  go_wp2_with fail
  refine hc.mono ?_; rintro e w8 ⟨rfl, hP⟩
  obtain ⟨F8, O2⟩ := O.out.post hP
  replace O := Lib.hid (O2.eq (s' := ([(1, 5)], [])) (by decide))
  clear hc hP O2
  have hc := get_u O.out.r 1 HR.out.2.1
  rw [show (ulk (([(1, 5)], []) : USt).1 1).getD 0 = 5 by decide, show (ulk (([(1, 5)], []) : USt).1 1).isSome = true by decide] at hc
  go_wp2_with fail
  refine hc.mono ?_; rintro e w9 ⟨rfl, hb⟩
  replace O := Lib.hid (O.out.below hb)
  clear hc hb
  have hc := get_u O.out.r 2 HR.out.2.2.1
  rw [show (ulk (([(1, 5)], []) : USt).1 2).getD 0 = 0 by decide, show (ulk (([(1, 5)], []) : USt).1 2).isSome = false by decide] at hc
  go_wp2_with fail
  refine hc.mono ?_; rintro e w10 ⟨rfl, hb⟩
  replace O := Lib.hid (O.out.below hb)
  clear hc hb
  go_wp2_with fail
  refine (get_n _ _).mono ?_; rintro e wn ⟨rfl, rfl⟩
  have hc := len_r O.out.r
  rw [show (((([(1, 5)], []) : USt).1.length : Nat) : Int) = 1 by decide] at hc
  go_wp2_with fail
  refine hc.mono ?_; rintro e w11 ⟨rfl, hb⟩
  replace O := Lib.hid (O.out.below hb)
  clear hc hb
  have hc := back_u O.out.r
  rw [show uendE ([(1, 5)], []) = 2 by decide] at hc
  go_wp2_with fail
  refine hc.mono ?_; rintro e w12 ⟨rfl, hP⟩
  obtain ⟨F12, O2⟩ := O.out.post hP
  replace O := Lib.hid (O2.eq (s' := ([(1, 5)], [])) (by decide))
  clear hc hP O2
  have hc := keep_u O.out.r
  rw [show uendE ([(1, 5)], []) = 2 by decide] at hc
  go_wp2_with fail
  refine hc.mono ?_; rintro e w13 ⟨rfl, hP⟩
  obtain ⟨F13, O2⟩ := O.out.post hP
  replace O := Lib.hid (O2.eq (s' := ([(1, 5)], [])) (by decide))
  clear hc hP O2
  go_wp2_with fail
  refine (set_n _ _ _).mono ?_; rintro e wm ⟨rfl, rfl⟩
  go_wp2_with fail
  go_ret
  exact ⟨rfl, O.out.b⟩
end Go.Proofs.Ytmhfgkkiplencaa
