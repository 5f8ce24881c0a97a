/-
  BitsJoin of layer 11 answers true over the landed set, for whatever two rows. The conditions: the rows read as their lists; the library's table lies as it was laid.
-/
import Derived.Test.YtiolicadnomagaaDoorBtF
import Derived.Deep.DeepCutAuto
import Derived.Deep.RegionHeld3
namespace Go.Proofs.YtiolicadnomagaaDoor
open Go.RowKit
set_option linter.unusedSimpArgs false
set_option linter.unusedVariables false

/-- Three sets, made since w0, apart. -/
structure ThreeS (w0 w : World) (B C D : Nat) (S T U : List Int) (F G H : Nat → Prop) : Prop where
  s : OneS w0 w B S F
  t : OneS w0 w C T G
  u : OneS w0 w D U H
  d1 : ∀ j, F j → ¬ G j
  d2 : ∀ j, F j → ¬ H j
  d3 : ∀ j, G j → ¬ H j
section
variable {w0 w w' : World} {B C D : Nat} {S T U V : List Int} {F G H : Nat → Prop}
theorem OneS.off (h : OneS w0 w B S F) (t : Turn G w w') (hG : ∀ j, G j → w0.heap.size ≤ j) (hd : ∀ j, F j → ¬ G j) : OneS w0 w' B S F := ⟨h.r.turn t hd, h.b.trans (t.below hG h.b.size), h.f⟩
theorem ThreeS.below (h : ThreeS w0 w B C D S T U F G H) (hb : Below w.heap.size w w') : ThreeS w0 w' B C D S T U F G H := ⟨h.s.below hb, h.t.below hb, h.u.below hb, h.d1, h.d2, h.d3⟩
theorem ThreeS.turn1 (h : ThreeS w0 w B C D S T U F G H) (r : SetR w' B V F) (t : Turn F w w') : ThreeS w0 w' B C D V T U F G H :=
  ⟨h.s.turn r t, h.t.off t h.s.f (fun j q r => h.d1 j r q), h.u.off t h.s.f (fun j q r => h.d2 j r q), h.d1, h.d2, h.d3⟩
theorem ThreeS.turn3 (h : ThreeS w0 w B C D S T U F G H) (r : SetR w' D V H) (t : Turn H w w') : ThreeS w0 w' B C D S T V F G H :=
  ⟨h.s.off t h.u.f h.d2, h.t.off t h.u.f h.d3, h.u.turn r t, h.d1, h.d2, h.d3⟩
end
theorem OneS.fresh {w0 w1 w2 : World} {B C : Nat} {S T : List Int} {F G : Nat → Prop} (h : OneS w0 w1 B S F) (k : OneS w1 w2 C T G) : OneS w0 w2 B S F ∧ OneS w0 w2 C T G ∧ ∀ j, F j → ¬ G j :=
  ⟨h.below k.b, ⟨k.r, h.b.trans (k.b.mono h.b.size), fun j q => Nat.le_trans h.b.size (k.f j q)⟩, fun j q r => by have := h.r.foot j q; have := k.f j r; omega⟩
set_option maxHeartbeats 8000000 in
set_option maxRecDepth 100000 in
theorem joins11 (a a' : Option Addr) (c c' : Nat) (l m : List Int) (w : World) (hl : Reads w a l) (hm : Reads w a' m) (hbig : (l.length : Int) ≤ 9223372036854775807) (hbig' : (m.length : Int) ≤ 9223372036854775807) (hT : TabD w) :
    Calls Tryd.prog 4 #[.slice a l.length c, .slice a' m.length c'] w fun e w' => e = .returned (.bool true) ∧ Below w.heap.size w w' := by
  have hf1 := filled11 a c l w hl hbig
  have HL := Lib.hid hl; have HM := Lib.hid hm; have HT := Lib.hid hT; have HB1 := Lib.hid hbig; have HB2 := Lib.hid hbig'
  clear hl hm hbig hbig' hT
  go_enter Tryd.func4, Tryd.ntmps4
  go_wp2_with fail
  refine hf1.mono ?_; rintro e w1 ⟨B, F, rfl, h1⟩
  have hf2 := filled11 a' c' m w1 (HM.out.below h1.b) HB2.out
  clear hf1
  go_wp2_with fail
  refine hf2.mono ?_; rintro e w2 ⟨C, G, rfl, h2⟩
  have hf3 := filled11 a c l w2 (HL.out.below (h1.b.trans (h2.b.mono h1.b.size))) HB1.out
  clear hf2
  go_wp2_with fail
  refine hf3.mono ?_; rintro e w3 ⟨D, H, rfl, h3⟩
  have H3 : Hid (ThreeS w w3 B C D (fil l) (fil m) (fil l) F G H) := by
    obtain ⟨k1, k2, d1⟩ := h1.fresh h2
    obtain ⟨m1, m3, d2⟩ := k1.fresh h3
    obtain ⟨m2, _, d3⟩ := k2.fresh h3
    exact ⟨m1, m2, m3, d1, d2, d3⟩
  clear hf3 h1 h2 h3 HL HM
  generalize fil l = S at *
  generalize fil m = T at *
  have haw := b_awake w3 (HT.out.below H3.out.s.b)
  by_cases hc : 100 < l.length ∨ 100 < m.length
  · have HAW := Lib.hid haw
    rcases hc with hc | hc
    · have d1 : decide (100 < (l.length : Int)) = true := decide_eq_true (by omega)
      clear haw
      go_wp2_with fail
      all_goals (refine HAW.out.mono ?_; rintro e w4 ⟨rfl, hb4⟩)
      all_goals go_wp2_with fail
      all_goals go_ret
      all_goals exact ⟨rfl, H3.out.s.b.trans (hb4.mono H3.out.s.b.size)⟩
    · have d1 : decide (100 < (m.length : Int)) = true := decide_eq_true (by omega)
      clear haw
      by_cases hc2 : 100 < l.length
      · have d2 : decide (100 < (l.length : Int)) = true := decide_eq_true (by omega)
        go_wp2_with fail
        all_goals (refine HAW.out.mono ?_; rintro e w4 ⟨rfl, hb4⟩)
        all_goals go_wp2_with fail
        all_goals go_ret
        all_goals exact ⟨rfl, H3.out.s.b.trans (hb4.mono H3.out.s.b.size)⟩
      · have d2 : decide (100 < (l.length : Int)) = false := decide_eq_false (by omega)
        go_wp2_with fail
        all_goals (refine HAW.out.mono ?_; rintro e w4 ⟨rfl, hb4⟩)
        all_goals go_wp2_with fail
        all_goals go_ret
        all_goals exact ⟨rfl, H3.out.s.b.trans (hb4.mono H3.out.s.b.size)⟩
  · have d1 : decide (100 < (l.length : Int)) = false := decide_eq_false (by omega)
    have d2 : decide (100 < (m.length : Int)) = false := decide_eq_false (by omega)
    clear haw hc
    have hx := all_s H3.out.s.r (HT.out.below H3.out.s.b)
    go_wp2_with fail
    refine hx.mono ?_; rintro e w4 ⟨u, rfl, hu, hb4⟩
    obtain ⟨ax, cx, rfl, hcx, hcx0, rx⟩ := hu
    have X4 : Hid (Sl w4 (.slice ax S.length cx) S) := ⟨ax, cx, rfl, hcx, hcx0, rx⟩
    have H4 := Lib.hid (H3.out.below hb4)
    have HSS : Hid (S.length ≤ 65536) := H3.out.s.r.short
    clear hx rx hb4 H3
    have hy := all_s H4.out.t.r (HT.out.below H4.out.t.b)
    go_wp2_with fail
    refine hy.mono ?_; rintro e w5 ⟨u, rfl, hu, hb5⟩
    obtain ⟨ay, cy, rfl, hcy, hcy0, ry⟩ := hu
    have Y5 : Hid (Sl w5 (.slice ay T.length cy) T) := ⟨ay, cy, rfl, hcy, hcy0, ry⟩
    have X5 := Lib.hid (X4.out.below hb5)
    have H5 := Lib.hid (H4.out.below hb5)
    clear hy ry hb5 H4 X4
    obtain ⟨ST, hST⟩ : ∃ ST, ST = S ++ T := ⟨_, rfl⟩
    obtain ⟨R, hR⟩ : ∃ R, R = rise ST := ⟨_, rfl⟩
    obtain ⟨Q, hQ⟩ : ∃ Q, Q = both S T := ⟨_, rfl⟩
    have HST := Lib.hid hST; have HRI := Lib.hid hR; have HQU := Lib.hid hQ
    clear hST hR hQ
    have hj := join_s H5.out.s.r H5.out.t.r H5.out.d1
    rw [← HST.out, ← HRI.out] at hj
    go_wp2_with fail
    refine hj.mono ?_; rintro e w6 ⟨rfl, hr, _, ht⟩
    have X6 := Lib.hid (H5.out.s.sl ht X5.out); have Y6 := Lib.hid (H5.out.s.sl ht Y5.out)
    have H6 := Lib.hid (H5.out.turn1 hr ht)
    clear hj hr ht X5 Y5 H5
    have hk := keep_s H6.out.u.r H6.out.t.r (fun j q r => H6.out.d3 j r q)
    rw [← HQU.out] at hk
    go_wp2_with fail
    refine hk.mono ?_; rintro e w7 ⟨rfl, hr, _, ht⟩
    have X7 := Lib.hid (H6.out.u.sl ht X6.out); have Y7 := Lib.hid (H6.out.u.sl ht Y6.out)
    have H7 := Lib.hid (H6.out.turn3 hr ht)
    clear hk hr ht X6 Y6 H6
    obtain ⟨_, _, e7, _, _, rx7⟩ := X7.out
    cases e7
    obtain ⟨_, _, e7, _, _, ry7⟩ := Y7.out
    cases e7
    have RX := Lib.hid rx7; have RY := Lib.hid ry7; have HCX := Lib.hid hcx0; have HCY := Lib.hid hcy0
    have HSL : Hid (S.length ≤ 65536 ∧ T.length ≤ 65536) := ⟨HSS.out, H7.out.t.r.short⟩
    clear rx7 ry7 hcx0 hcy0 hcx hcy X7 Y7
    go_wp2_with
      (first
        | (at_builtin
           refine wp_cat (w7.alloc (.cells #[] 3)) rfl (.tmp 51) (.tmp 52) rfl w7.heap.size _ [] S ax cx rfl (Own.lit w7) rfl (RX.out.alloc _) HCX.out (by have := HSL.out; simp; omega) (by simp) ?_
           intro v8 w8 o8 b8
           simp only [List.nil_append] at o8
           have O8 := Lib.hid o8
           have B8 := Lib.hid (((Below.refl _ w7).alloc (Nat.le_refl _) (.cells #[] 3)).trans b8)
           clear o8 b8)
        | (at_builtin
           refine wp_cat w8 rfl (.tmp 53) (.tmp 54) rfl w7.heap.size _ S T ay cy rfl O8.out rfl (RY.out.below B8.out) HCY.out (by have := HSL.out; omega) B8.out.size ?_
           intro v9 w9 o9 b9
           rw [← HST.out] at o9
           obtain ⟨a9, c9, rfl, _, r9⟩ := o9.reads (by intro z hz; rw [HST.out] at hz; rcases List.mem_append.1 hz with q | q; exact RX.out.1 z q; exact RY.out.1 z q)
           have R9 := Lib.hid r9
           have B9 := Lib.hid (B8.out.trans b9)
           clear o9 b9 r9))
    have hri := r11rise a9 c9 ST w9 R9.out (by rw [HST.out, List.length_append]; have := HSL.out; omega)
    rw [← HRI.out] at hri
    refine hri.mono ?_; rintro e w10 ⟨u, rfl, hu, hb⟩
    obtain ⟨aa, ca, rfl, _, _, ra⟩ := hu
    have B10 := Lib.hid (B9.out.trans (hb.mono B9.out.size))
    have RA := Lib.hid ra
    clear hri hb ra B9 R9 O8 B8
    have hbo := r11both ax ay cx cy S T w10 (RX.out.below B10.out) (RY.out.below B10.out) (by have := HSL.out; omega) (by have := HSL.out; omega)
    rw [← HQU.out] at hbo
    go_wp2_with fail
    refine hbo.mono ?_; rintro e w11 ⟨u, rfl, hu, hb⟩
    obtain ⟨ab, cb, rfl, _, _, rb⟩ := hu
    have B11 := Lib.hid (B10.out.trans (hb.mono B10.out.size))
    have RA11 := Lib.hid (RA.out.below hb)
    have RB := Lib.hid rb
    clear hbo hb rb B10 RA
    have H11 := Lib.hid (H7.out.below B11.out)
    have RY11 := Lib.hid (RY.out.below B11.out)
    clear RY RX H7
    have hRl : R.length ≤ 65536 := H11.out.s.r.short
    have hQl : Q.length ≤ 65536 := H11.out.u.r.short
    have n1 : wrap64 ((R.length : Int) - (S.length : Int)) = (R.length : Int) - (S.length : Int) := by have := HSL.out; unfold wrap64; omega
    have n2 : IntKind.i64.wrap ((R.length : Int) - (S.length : Int)) = (R.length : Int) - (S.length : Int) := by have := HSL.out; simp [IntKind.wrap, IntKind.signed, IntKind.bits]; omega
    have n3 : wrap64 ((S.length : Int) - (Q.length : Int)) = (S.length : Int) - (Q.length : Int) := by have := HSL.out; unfold wrap64; omega
    have n4 : IntKind.i64.wrap ((S.length : Int) - (Q.length : Int)) = (S.length : Int) - (Q.length : Int) := by have := HSL.out; simp [IntKind.wrap, IntKind.signed, IntKind.bits]; omega
    have HRL := Lib.hid hRl; have HQL := Lib.hid hQl
    clear hRl hQl
    have hal := all_s H11.out.s.r (HT.out.below H11.out.s.b)
    go_wp2_with fail
    refine hal.mono ?_; rintro e w12 ⟨u, rfl, hu, hb⟩
    obtain ⟨a1, c1, rfl, _, _, r1⟩ := hu
    have hsm := same_any a1 aa c1 ca R R w12 r1 (RA11.out.below hb) (by have := HRL.out; omega)
    rw [decide_eq_true rfl] at hsm
    have H12 := Lib.hid (H11.out.below hb); have RB12 := Lib.hid (RB.out.below hb); have RY12 := Lib.hid (RY11.out.below hb)
    clear hal hb r1 H11 RB RY11 RA11
    go_wp2_with fail
    refine hsm.mono ?_; rintro e w13 ⟨rfl, hb⟩
    have H13 := Lib.hid (H12.out.below hb); have RB13 := Lib.hid (RB12.out.below hb); have RY13 := Lib.hid (RY12.out.below hb)
    clear hsm hb H12 RB12 RY12
    have hal := all_s H13.out.u.r (HT.out.below H13.out.s.b)
    go_wp2_with fail
    refine hal.mono ?_; rintro e w14 ⟨u, rfl, hu, hb⟩
    obtain ⟨a2, c2, rfl, _, _, r2⟩ := hu
    have hsm := same_any a2 ab c2 cb Q Q w14 r2 (RB13.out.below hb) (by have := HQL.out; omega)
    rw [decide_eq_true rfl] at hsm
    have H14 := Lib.hid (H13.out.below hb); have RY14 := Lib.hid (RY13.out.below hb)
    clear hal hb r2 H13 RB13 RY13
    go_wp2_with fail
    refine hsm.mono ?_; rintro e w15 ⟨rfl, hb⟩
    have H15 := Lib.hid (H14.out.below hb); have RY15 := Lib.hid (RY14.out.below hb)
    clear hsm hb H14 RY14
    have hal := all_s H15.out.t.r (HT.out.below H15.out.s.b)
    go_wp2_with fail
    refine hal.mono ?_; rintro e w16 ⟨u, rfl, hu, hb⟩
    obtain ⟨a3, c3, rfl, _, _, r3⟩ := hu
    have hsm := same_any a3 ay c3 cy T T w16 r3 (RY15.out.below hb) (by have := HSL.out; omega)
    rw [decide_eq_true rfl] at hsm
    have H16 := Lib.hid (H15.out.below hb)
    clear hal hb r3 H15 RY15
    go_wp2_with fail
    refine hsm.mono ?_; rintro e w17 ⟨rfl, hb⟩
    have H17 := Lib.hid (H16.out.below hb)
    clear hsm hb H16
    have haw := b_awake w17 (HT.out.below H17.out.s.b)
    go_wp2_with fail
    refine haw.mono ?_; rintro e w18 ⟨rfl, hb⟩
    go_wp2_with fail
    go_ret
    exact ⟨rfl, H17.out.s.b.trans (hb.mono H17.out.s.b.size)⟩
end Go.Proofs.YtiolicadnomagaaDoor
