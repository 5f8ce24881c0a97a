/-
  The landed isOne, parent, isOwn, strays, isUnderOwn, isOdd, wrong, New and beginsOwn, and the library's slices.Equal over accounts. The condition: a row of at most 1000000.
-/
import Derived.Test.YteendpdidkekkaaAccP
import Derived.Deep.QuietTactic
import Derived.BigQuiet
import Derived.WalkSmall
import Derived.Deep.DeepCutAuto
import Derived.Deep.RegionHeld3
namespace Go.Proofs.Yteendpdidkekkaa
open Go.RowKit
set_option linter.unusedSimpArgs false
set_option linter.unusedVariables false

theorem below_drewN {B : Nat} {w w' : World} (h : Below B w w') (k : Nat) : Below B w (w'.drewN k) := h.trans ⟨rfl, rfl, rfl, Nat.le_refl _, fun _ _ => rfl⟩
set_option maxRecDepth 100000 in
theorem isone_c (a : Option Addr) (n c : Nat) (x : Int) (w : World) :
    Calls Try.prog 38 #[.slice a n c, .int .i64 x] w fun e w' => e = .returned (.bool (decide (Ent (n : Int) x))) ∧ w = w' := by
  by_cases h1 : 1 ≤ x
  · obtain ⟨r, hr⟩ : ∃ r, decide (x ≤ (n : Int)) = r := ⟨_, rfl⟩
    have hv : decide (Ent (n : Int) x) = r := by rw [← hr, decide_eq_decide]; exact ⟨fun q => q.2, fun q => ⟨h1, q⟩⟩
    have d1 : decide (1 ≤ x) = true := decide_eq_true h1
    rw [hv]
    clear hv h1
    go_enter Try.func38, Try.ntmps38
    go_wp2_with fail
    go_ret
    exact ⟨rfl, rfl⟩
  · have hv : decide (Ent (n : Int) x) = false := decide_eq_false (fun q => h1 q.1)
    have d1 : decide (1 ≤ x) = false := decide_eq_false h1
    rw [hv]
    clear hv h1
    go_enter Try.func38, Try.ntmps38
    go_wp2_with fail
    go_ret
    exact ⟨rfl, rfl⟩
set_option maxRecDepth 100000 in
theorem isown_c (x : Int) (w : World) :
    Calls Try.prog 50 #[.int .i64 x] w fun e w' => e = .returned (.bool (decide (1 ≤ x ∧ x ≤ 3))) ∧ w = w' := by
  by_cases h1 : 1 ≤ x
  · obtain ⟨r, hr⟩ : ∃ r, decide (x ≤ 3) = r := ⟨_, rfl⟩
    have hv : decide (1 ≤ x ∧ x ≤ 3) = r := by rw [← hr, decide_eq_decide]; exact ⟨fun q => q.2, fun q => ⟨h1, q⟩⟩
    have d1 : decide (1 ≤ x) = true := decide_eq_true h1
    rw [hv]
    clear hv h1
    go_enter Try.func50, Try.ntmps50
    go_wp2_with fail
    go_ret
    exact ⟨rfl, rfl⟩
  · have hv : decide (1 ≤ x ∧ x ≤ 3) = false := decide_eq_false (fun q => h1 q.1)
    have d1 : decide (1 ≤ x) = false := decide_eq_false h1
    rw [hv]
    clear hv h1
    go_enter Try.func50, Try.ntmps50
    go_wp2_with fail
    go_ret
    exact ⟨rfl, rfl⟩
set_option maxRecDepth 100000 in
theorem par_c (a : Option Addr) (c : Nat) (L : List AcT) (x : Int) (w : World) (hL : RdA w a L) (hx : Ent (L.length : Int) x) (hn : L.length ≤ 1000000) :
    Calls Try.prog 41 #[.slice a L.length c, .int .i64 x] w fun e w' => e = .returned (.int .i64 (pa L x)) ∧ w = w' := by
  obtain ⟨k, rfl⟩ : ∃ k : Nat, x = (k : Int) + 1 := ⟨(x - 1).toNat, by unfold Ent at hx; omega⟩
  have hk : k < L.length := by unfold Ent at hx; omega
  obtain ⟨b, off, rfl, d0, d1, d2, d3⟩ := hL.2 k hk
  rw [pa_at hk]
  have e1 : wrap64 ((k : Int) + 1 - 1) = (k : Int) := by unfold wrap64; omega
  have i0 : (0 : Int) ≤ (k : Int) := by omega
  have i1 : (k : Int) < (L.length : Int) := by omega
  generalize L.getD k zA = s at *
  generalize (k : Int) + 1 = y at *
  clear hx hL d1 d2 d3
  go_enter Try.func41, Try.ntmps41
  go_wp2_with fail
  go_ret
  exact ⟨rfl, rfl⟩
set_option maxRecDepth 100000 in
theorem strays_c (s : AcT) (n : Int) (w : World) :
    Calls Try.prog 57 #[.agg #[.int .i64 s.1, .int .i64 s.2.1, .bool s.2.2.1, .bool s.2.2.2], .int .i64 n] w fun e w' => e = .returned (.bool (tsA s n 0)) ∧ Below w.heap.size w w' := by
  have HB := Lib.hid (below1 w (.cells #[.int .i64 s.1, .int .i64 s.2.1, .bool s.2.2.1, .bool s.2.2.2] 74))
  obtain ⟨g0, g1, g2, g3, -⟩ := Ow4.new w (.int .i64 s.1) (.int .i64 s.2.1) (.bool s.2.2.1) (.bool s.2.2.2) 74
  by_cases h1 : s.1 < 0
  · have hv : tsA s n 0 = true := decide_eq_true (Or.inl h1)
    have d1 : decide (s.1 < 0) = true := decide_eq_true h1
    rw [hv]
    clear hv h1
    go_enter Try.func57, Try.ntmps57
    go_wp2_with fail
    go_ret
    exact ⟨rfl, HB.out⟩
  · obtain ⟨r, hr⟩ : ∃ r, decide (n < s.1) = r := ⟨_, rfl⟩
    have hv : tsA s n 0 = r := by rw [← hr]; show decide _ = _; rw [decide_eq_decide]; exact ⟨fun q => q.resolve_left h1, Or.inr⟩
    have d1 : decide (s.1 < 0) = false := decide_eq_false h1
    rw [hv]
    clear hv h1
    go_enter Try.func57, Try.ntmps57
    go_wp2_with fail
    go_ret
    exact ⟨rfl, HB.out⟩
set_option maxRecDepth 100000 in
theorem uown_c (s : AcT) (n : Int) (w : World) :
    Calls Try.prog 58 #[.agg #[.int .i64 s.1, .int .i64 s.2.1, .bool s.2.2.1, .bool s.2.2.2], .int .i64 n] w fun e w' => e = .returned (.bool (tsA s n 1)) ∧ Below w.heap.size w w' := by
  have HB := Lib.hid (below1 w (.cells #[.int .i64 s.1, .int .i64 s.2.1, .bool s.2.2.1, .bool s.2.2.2] 74))
  obtain ⟨g0, g1, g2, g3, -⟩ := Ow4.new w (.int .i64 s.1) (.int .i64 s.2.1) (.bool s.2.2.1) (.bool s.2.2.2) 74
  have hi := isown_c s.1 (w.alloc (.cells #[.int .i64 s.1, .int .i64 s.2.1, .bool s.2.2.1, .bool s.2.2.2] 74))
  have hv : decide (1 ≤ s.1 ∧ s.1 ≤ 3) = tsA s n 1 := rfl
  rw [hv] at hi
  generalize tsA s n 1 = t at *
  clear hv
  go_enter Try.func58, Try.ntmps58
  go_wp2_with fail
  refine hi.mono ?_; clear hi; rintro e w1 ⟨rfl, rfl⟩
  go_wp2_with fail
  go_ret
  exact ⟨rfl, HB.out⟩
set_option maxRecDepth 100000 in
theorem odd_c (s : AcT) (n : Int) (w : World) :
    Calls Try.prog 59 #[.agg #[.int .i64 s.1, .int .i64 s.2.1, .bool s.2.2.1, .bool s.2.2.2], .int .i64 n] w fun e w' => e = .returned (.bool (tsA s n 2)) ∧ Below w.heap.size w w' := by
  have HB := Lib.hid (below1 w (.cells #[.int .i64 s.1, .int .i64 s.2.1, .bool s.2.2.1, .bool s.2.2.2] 74))
  obtain ⟨g0, g1, g2, g3, -⟩ := Ow4.new w (.int .i64 s.1) (.int .i64 s.2.1) (.bool s.2.2.1) (.bool s.2.2.2) 74
  by_cases h1 : s.2.1 < 1
  · have hv : tsA s n 2 = true := decide_eq_true (Or.inl h1)
    have d1 : decide (s.2.1 < 1) = true := decide_eq_true h1
    rw [hv]
    clear hv h1
    go_enter Try.func59, Try.ntmps59
    go_wp2_with fail
    go_ret
    exact ⟨rfl, HB.out⟩
  · have d1 : decide (s.2.1 < 1) = false := decide_eq_false h1
    by_cases h2 : 3 < s.2.1
    · have hv : tsA s n 2 = true := decide_eq_true (Or.inr (Or.inl h2))
      have d2 : decide (3 < s.2.1) = true := decide_eq_true h2
      rw [hv]
      clear hv h1 h2
      go_enter Try.func59, Try.ntmps59
      go_wp2_with fail
      go_ret
      exact ⟨rfl, HB.out⟩
    · have d2 : decide (3 < s.2.1) = false := decide_eq_false h2
      have hv : tsA s n 2 = (s.2.2.1 && s.2.2.2) := by
        show decide _ = _
        cases s.2.2.1 <;> cases s.2.2.2 <;> simp <;> omega
      rw [hv]
      clear hv h1 h2
      generalize s.2.2.2 = q at *
      generalize s.2.2.1 = p at *
      cases p with
      | true =>
        go_enter Try.func59, Try.ntmps59
        go_wp2_with fail
        go_ret
        exact ⟨by simp, HB.out⟩
      | false =>
        go_enter Try.func59, Try.ntmps59
        go_wp2_with fail
        go_ret
        exact ⟨by simp, HB.out⟩
abbrev objW : Obj := .cells #[.func (.func 57) #[] #[], .int .i64 21, .func (.func 58) #[] #[], .int .i64 28, .func (.func 59) #[] #[], .int .i64 25] 75
theorem objW_at (w : World) : ∀ j v, (#[Value.func (.func 57) #[] #[], .int .i64 21, .func (.func 58) #[] #[], .int .i64 28, .func (.func 59) #[] #[], .int .i64 25])[j]? = some v → (w.alloc objW).cell? ⟨w.heap.size, j, none⟩ = some v := fun j v h => by
  unfold World.cell?
  rw [heap_alloc_new w objW]
  exact h
set_option maxHeartbeats 4000000 in
set_option maxRecDepth 100000 in
theorem wrong_c (s : AcT) (n : Int) (w : World) :
    Calls Try.prog 34 #[.agg #[.int .i64 s.1, .int .i64 s.2.1, .bool s.2.2.1, .bool s.2.2.2], .int .i64 n] w fun e w' => e = .returned (.int .i64 (wrA s n)) ∧ Below w.heap.size w w' := by
  have hq0 : ∀ args (w : World), (callFunc 57 args).run Try.prog w = .ok (.enter 57 args) w := fun _ _ => rfl
  have hq1 : ∀ args (w : World), (callFunc 58 args).run Try.prog w = .ok (.enter 58 args) w := fun _ _ => rfl
  have hq2 : ∀ args (w : World), (callFunc 59 args).run Try.prog w = .ok (.enter 59 args) w := fun _ _ => rfl
  have hst : ∀ (a : Addr) (fn : Fn) (first cap : Array Value) (w : World), (store a (.func fn first cap)).run Try.prog w = stored Try.prog w a (.func fn first cap) .plain := fun a fn first cap w => run_store _ _ _ _ _ rfl
  have h4 := newA w s
  have hB1 := below1 w (objA s)
  have hsz : (w.alloc (objA s)).heap.size = w.heap.size + 1 := by simp
  have hB2 := hB1.trans ((below1 (w.alloc (objA s)) objW).mono hB1.size)
  have hc := objW_at (w.alloc (objA s))
  have h4' := h4.alloc objW
  have hlt : w.heap.size + 1 < ((w.alloc (objA s)).alloc objW).heap.size := by simp
  rw [hsz] at hc
  have HX : Hid (∀ wr, Below ((w.alloc (objA s)).alloc objW).heap.size ((w.alloc (objA s)).alloc objW) wr → Ow4 wr w.heap.size (.int .i64 s.1) (.int .i64 s.2.1) (.bool s.2.2.1) (.bool s.2.2.2) ∧ (∀ j v, (#[Value.func (.func 57) #[] #[], .int .i64 21, .func (.func 58) #[] #[], .int .i64 28, .func (.func 59) #[] #[], .int .i64 25])[j]? = some v → wr.cell? ⟨w.heap.size + 1, j, none⟩ = some v) ∧ Below w.heap.size w wr) := fun wr q =>
    ⟨h4'.below q, fun j v hj => (q.cell (p := ⟨w.heap.size + 1, j, none⟩) hlt).trans (hc j v hj), hB2.trans (q.mono hB2.size)⟩
  have HSZ := Lib.hid hsz
  clear h4 hB1 hsz hB2 hc h4' hlt
  have HV : Hid ((tsA s n 0 = true → wrA s n = 21) ∧ (tsA s n 0 = false → tsA s n 1 = true → wrA s n = 28) ∧ (tsA s n 0 = false → tsA s n 1 = false → tsA s n 2 = true → wrA s n = 25) ∧ (tsA s n 0 = false → tsA s n 1 = false → tsA s n 2 = false → wrA s n = 0)) := by
    show _ ∧ _
    unfold wrA
    cases tsA s n 0 <;> cases tsA s n 1 <;> cases tsA s n 2 <;> simp
  have HC0 : Hid (∀ wr, Calls Try.prog 57 #[.agg #[.int .i64 s.1, .int .i64 s.2.1, .bool s.2.2.1, .bool s.2.2.2], .int .i64 n] wr fun e w' => e = .returned (.bool (tsA s n 0)) ∧ Below wr.heap.size wr w') := strays_c s n
  have HC1 : Hid (∀ wr, Calls Try.prog 58 #[.agg #[.int .i64 s.1, .int .i64 s.2.1, .bool s.2.2.1, .bool s.2.2.2], .int .i64 n] wr fun e w' => e = .returned (.bool (tsA s n 1)) ∧ Below wr.heap.size wr w') := uown_c s n
  have HC2 : Hid (∀ wr, Calls Try.prog 59 #[.agg #[.int .i64 s.1, .int .i64 s.2.1, .bool s.2.2.1, .bool s.2.2.2], .int .i64 n] wr fun e w' => e = .returned (.bool (tsA s n 2)) ∧ Below wr.heap.size wr w') := odd_c s n
  generalize wrA s n = z at *
  generalize tsA s n 0 = t0 at *
  generalize tsA s n 1 = t1 at *
  generalize tsA s n 2 = t2 at *
  go_enter Try.func34, Try.ntmps34
  go_wp2_with fail
  go_loopw [12] (fun i wr => (i = .int .i64 0 ∨ (i = .int .i64 1 ∧ t0 = false) ∨ (i = .int .i64 2 ∧ t0 = false ∧ t1 = false) ∨ (i = .int .i64 3 ∧ t0 = false ∧ t1 = false ∧ t2 = false)) ∧ Below ((w.alloc (objA s)).alloc objW).heap.size ((w.alloc (objA s)).alloc objW) wr) (fun i _ => 3 - (RowKit.intOf i).toNat)
  case atStart => exact ⟨Or.inl rfl, Below.refl _ _⟩
  case round =>
    obtain ⟨h3, hb⟩ := hrel
    obtain ⟨o4, hcell, hbw⟩ := HX.out wr hb
    have HBW := Lib.hid hbw
    rcases h3 with rfl | ⟨rfl, rfl⟩ | ⟨rfl, rfl, rfl⟩ | ⟨rfl, rfl, rfl, rfl⟩
    · have c0 := hcell 0 _ rfl
      have c1 := hcell 1 _ rfl
      have hbl := below1 wr (.cells #[.func (.func 57) #[] #[], .int .i64 21] 75)
      obtain ⟨⟨p0, p1, -⟩, -⟩ := Ow2.new wr (.func (.func 57) #[] #[]) (.int .i64 21) 75
      obtain ⟨g0, g1, g2, g3, -⟩ := o4.below hbl
      have hcall := HC0.out (wr.alloc (.cells #[.func (.func 57) #[] #[], .int .i64 21] 75))
      have HB3 := Lib.hid (hb.trans (hbl.mono hb.size))
      have HBL := Lib.hid hbl
      have hp1 : wr.heap.size < (wr.alloc (.cells #[.func (.func 57) #[] #[], .int .i64 21] 75)).heap.size := by simp
      clear hb o4 hcell hbw
      go_wp2_with fail
      clear hbl g0 g1 g2 g3 c0 c1 p0
      generalize wr.alloc (.cells #[.func (.func 57) #[] #[], .int .i64 21] 75) = W3 at *
      refine hcall.mono ?_; clear hcall; rintro e w4 ⟨rfl, hb4⟩
      have p2 := (hb4.cell (p := ⟨wr.heap.size, 1, none⟩) hp1).trans p1
      have HB4 := Lib.hid (HB3.out.trans (hb4.mono HB3.out.size))
      have HBW4 : Hid (Below w.heap.size w w4) := HBW.out.trans (HBL.out.mono HBW.out.size |>.trans (hb4.mono (Nat.le_trans HBW.out.size HBL.out.size)))
      clear hb4 p1 hp1
      cases t0 with
      | true =>
        have HZ := Lib.hid (HV.out.1 (by first | rfl | trivial))
        go_wp2_with fail
        go_ret
        exact ⟨by have q := HZ.out; subst q; rfl, HBW4.out⟩
      | false =>
        go_wp2_with fail
        go_roundw
        · exact ⟨Or.inr (Or.inl ⟨rfl, by first | rfl | trivial⟩), HB4.out⟩
        · simp [RowKit.intOf]
    · have c0 := hcell 2 _ rfl
      have c1 := hcell 3 _ rfl
      have hbl := below1 wr (.cells #[.func (.func 58) #[] #[], .int .i64 28] 75)
      obtain ⟨⟨p0, p1, -⟩, -⟩ := Ow2.new wr (.func (.func 58) #[] #[]) (.int .i64 28) 75
      obtain ⟨g0, g1, g2, g3, -⟩ := o4.below hbl
      have hcall := HC1.out (wr.alloc (.cells #[.func (.func 58) #[] #[], .int .i64 28] 75))
      have HB3 := Lib.hid (hb.trans (hbl.mono hb.size))
      have HBL := Lib.hid hbl
      have hp1 : wr.heap.size < (wr.alloc (.cells #[.func (.func 58) #[] #[], .int .i64 28] 75)).heap.size := by simp
      clear hb o4 hcell hbw
      go_wp2_with fail
      clear hbl g0 g1 g2 g3 c0 c1 p0
      generalize wr.alloc (.cells #[.func (.func 58) #[] #[], .int .i64 28] 75) = W3 at *
      refine hcall.mono ?_; clear hcall; rintro e w4 ⟨rfl, hb4⟩
      have p2 := (hb4.cell (p := ⟨wr.heap.size, 1, none⟩) hp1).trans p1
      have HB4 := Lib.hid (HB3.out.trans (hb4.mono HB3.out.size))
      have HBW4 : Hid (Below w.heap.size w w4) := HBW.out.trans (HBL.out.mono HBW.out.size |>.trans (hb4.mono (Nat.le_trans HBW.out.size HBL.out.size)))
      clear hb4 p1 hp1
      cases t1 with
      | true =>
        have HZ := Lib.hid (HV.out.2.1 (by first | rfl | trivial) (by first | rfl | trivial))
        go_wp2_with fail
        go_ret
        exact ⟨by have q := HZ.out; subst q; rfl, HBW4.out⟩
      | false =>
        go_wp2_with fail
        go_roundw
        · exact ⟨Or.inr (Or.inr (Or.inl ⟨rfl, by first | rfl | trivial, by first | rfl | trivial⟩)), HB4.out⟩
        · simp [RowKit.intOf]
    · have c0 := hcell 4 _ rfl
      have c1 := hcell 5 _ rfl
      have hbl := below1 wr (.cells #[.func (.func 59) #[] #[], .int .i64 25] 75)
      obtain ⟨⟨p0, p1, -⟩, -⟩ := Ow2.new wr (.func (.func 59) #[] #[]) (.int .i64 25) 75
      obtain ⟨g0, g1, g2, g3, -⟩ := o4.below hbl
      have hcall := HC2.out (wr.alloc (.cells #[.func (.func 59) #[] #[], .int .i64 25] 75))
      have HB3 := Lib.hid (hb.trans (hbl.mono hb.size))
      have HBL := Lib.hid hbl
      have hp1 : wr.heap.size < (wr.alloc (.cells #[.func (.func 59) #[] #[], .int .i64 25] 75)).heap.size := by simp
      clear hb o4 hcell hbw
      go_wp2_with fail
      clear hbl g0 g1 g2 g3 c0 c1 p0
      generalize wr.alloc (.cells #[.func (.func 59) #[] #[], .int .i64 25] 75) = W3 at *
      refine hcall.mono ?_; clear hcall; rintro e w4 ⟨rfl, hb4⟩
      have p2 := (hb4.cell (p := ⟨wr.heap.size, 1, none⟩) hp1).trans p1
      have HB4 := Lib.hid (HB3.out.trans (hb4.mono HB3.out.size))
      have HBW4 : Hid (Below w.heap.size w w4) := HBW.out.trans (HBL.out.mono HBW.out.size |>.trans (hb4.mono (Nat.le_trans HBW.out.size HBL.out.size)))
      clear hb4 p1 hp1
      cases t2 with
      | true =>
        have HZ := Lib.hid (HV.out.2.2.1 (by first | rfl | trivial) (by first | rfl | trivial) (by first | rfl | trivial))
        go_wp2_with fail
        go_ret
        exact ⟨by have q := HZ.out; subst q; rfl, HBW4.out⟩
      | false =>
        go_wp2_with fail
        go_roundw
        · exact ⟨Or.inr (Or.inr (Or.inr ⟨rfl, by first | rfl | trivial, by first | rfl | trivial, by first | rfl | trivial⟩)), HB4.out⟩
        · simp [RowKit.intOf]
    · have HZ := Lib.hid (HV.out.2.2.2 (by first | rfl | trivial) (by first | rfl | trivial) (by first | rfl | trivial))
      clear hb o4 hcell hbw
      go_wp2_with fail
      go_ret
      exact ⟨by have q := HZ.out; subst q; rfl, HBW.out⟩
theorem new_info (w : World) : OwnA (w.alloc (.cells #[.int .i64 0, .int .i64 1, .bool true, .bool false, .int .i64 0, .int .i64 1, .bool false, .bool false, .int .i64 0, .int .i64 1, .bool false, .bool false] 35)) w.heap.size (.slice (some ⟨w.heap.size, 0, none⟩) 3 3) ownL :=
  World.ownsRow_lit (base := w.heap.size) (e := 35) (size := 4) w #[.int .i64 0, .int .i64 1, .bool true, .bool false, .int .i64 0, .int .i64 1, .bool false, .bool false, .int .i64 0, .int .i64 1, .bool false, .bool false] 3 (Nat.le_refl _) (by unfold maxLen; omega) rfl
theorem ownL_ok : ∀ s ∈ ownL, okA s := by
  intro s hs
  simp [ownL] at hs
  rcases hs with rfl | rfl <;> exact ⟨by decide, by decide⟩
set_option maxRecDepth 100000 in
theorem new_c (w : World) :
    Calls Try.prog 31 #[] w fun e w' => ∃ b : Nat, e = .returned (.slice (some ⟨b, 0, none⟩) 3 3) ∧ OwnA w' w.heap.size (.slice (some ⟨b, 0, none⟩) 3 3) ownL ∧ Below w.heap.size w w' := by
  have HO := Lib.hid (new_info w)
  have HB := Lib.hid (below1 w (.cells #[.int .i64 0, .int .i64 1, .bool true, .bool false, .int .i64 0, .int .i64 1, .bool false, .bool false, .int .i64 0, .int .i64 1, .bool false, .bool false] 35))
  go_enter Try.func31, Try.ntmps31
  go_wp2_with fail
  go_ret
  exact ⟨w.heap.size, rfl, HO.out, HB.out⟩
theorem same_at {L M : List AcT} (h : L.length = M.length) {k : Nat} (hk : k ≤ L.length) (hs : ∀ j, j < k → L.getD j zA = M.getD j zA) : (k = L.length → L = M) ∧ (k < L.length → L.getD k zA ≠ M.getD k zA → L ≠ M) := by
  refine ⟨fun e => ?_, fun _ q r => q (by rw [r])⟩
  subst e
  refine List.ext_getElem h fun i h1 h2 => ?_
  rw [← getA h1, ← getA h2]; exact hs i h1
set_option maxHeartbeats 2000000 in
set_option maxRecDepth 100000 in
theorem equal_c (a b : Option Addr) (c d : Nat) (L M : List AcT) (w : World) (hL : RdA w a L) (hM : RdA w b M) (hn : L.length ≤ 1000000) (hm : M.length ≤ 1000000) :
    Calls Try.prog 56 #[.slice a L.length c, .slice b M.length d] w fun e w' => e = .returned (.bool (decide (L = M))) ∧ Below w.heap.size w w' := by
  by_cases hl : L.length = M.length
  · have HL := Lib.hid hL; have HM := Lib.hid hM
    clear hL hM
    have e0 : ((L.length : Int) == (M.length : Int)) = true := by rw [beq_iff_eq]; omega
    have HE : Hid (∀ k, k ≤ L.length → (∀ j, j < k → L.getD j zA = M.getD j zA) → (k = L.length → decide (L = M) = true) ∧ (k < L.length → L.getD k zA ≠ M.getD k zA → decide (L = M) = false)) := fun k hk hs => ⟨fun e => decide_eq_true ((same_at hl hk hs).1 e), fun e q => decide_eq_false ((same_at hl hk hs).2 e q)⟩
    generalize decide (L = M) = t at *
    go_enter Try.func56, Try.ntmps56
    go_wp2_with fail
    go_loopw [13] (fun i wr => ∃ k : Nat, k ≤ L.length ∧ i = .int .i64 (k : Int) ∧ (∀ j, j < k → L.getD j zA = M.getD j zA) ∧ Below w.heap.size w wr) (fun i _ => L.length - (RowKit.intOf i).toNat)
    case atStart => exact ⟨0, Nat.zero_le _, rfl, fun j hj => (by cases hj), Below.refl _ _⟩
    case round =>
      obtain ⟨k, hk, rfl, hs, hb⟩ := hrel
      have HS := Lib.hid hs
      have HB := Lib.hid hb
      by_cases hlt : k < L.length
      · obtain ⟨x, xo, rfl, c0, c1, c2, c3⟩ := (HL.out.below hb).2 k hlt
        obtain ⟨y, yo, rfl, f0, f1, f2, f3⟩ := (HM.out.below hb).2 k (by omega)
        have i0 : (0 : Int) ≤ (k : Int) := by omega
        have i1 : (k : Int) < (L.length : Int) := by omega
        have i2 : (k : Int) < (M.length : Int) := by omega
        have HY : Hid (L.getD k zA ≠ M.getD k zA → t = false) := (HE.out k hk hs).2 hlt
        have HN : Hid (L.getD k zA = M.getD k zA → ∀ j, j < k + 1 → L.getD j zA = M.getD j zA) := fun q j hj => by
          rcases Nat.lt_or_ge j k with r | r
          · exact HS.out j r
          · rw [show j = k by omega]; exact q
        have heq := eq_acc (L.getD k zA) (M.getD k zA)
        generalize L.getD k zA = p at *
        generalize M.getD k zA = q at *
        clear hs hb
        by_cases hpq : p = q
        · rw [decide_eq_true hpq] at heq
          have HN2 := Lib.hid (HN.out hpq)
          clear HY HN hpq
          go_upto_region 6 with fail
          go_quiet (fail)
          go_wp2_with fail
          go_roundw
          · exact ⟨k + 1, by omega, by go_num, HN2.out, below_drewN HB.out _⟩
          · simp [RowKit.intOf]; omega
        · rw [decide_eq_false hpq] at heq
          have HY2 := Lib.hid (HY.out hpq)
          clear HY HN hpq
          go_upto_region 6 with fail
          go_quiet (fail)
          go_wp2_with fail
          go_ret
          exact ⟨by have q := HY2.out; subst q; rfl, below_drewN HB.out _⟩
      · obtain rfl : k = L.length := by omega
        have hd0 : decide ((L.length : Int) < (L.length : Int)) = false := decide_eq_false (by omega)
        have HY2 := Lib.hid ((HE.out _ hk hs).1 rfl)
        clear hs hb
        go_wp2_with fail
        go_ret
        exact ⟨by have q := HY2.out; subst q; rfl, HB.out⟩
  · have e0 : ((L.length : Int) == (M.length : Int)) = false := by rw [beq_eq_false_iff_ne]; omega
    have ht : decide (L = M) = false := decide_eq_false (fun q => hl (by rw [q]))
    rw [ht]
    clear hL hM ht hl
    go_enter Try.func56, Try.ntmps56
    go_wp2_with fail
    go_ret
    exact ⟨rfl, Below.refl _ _⟩
set_option maxHeartbeats 2000000 in
set_option maxRecDepth 100000 in
theorem begins_c (a : Option Addr) (c : Nat) (L : List AcT) (w : World) (hL : RdA w a L) (hc : L.length ≤ c) (hn : L.length ≤ 1000000) :
    Calls Try.prog 33 #[.slice a L.length c] w fun e w' => e = .returned (.bool (bgO L)) ∧ Below w.heap.size w w' := by
  have hw := new_c w
  have HL := Lib.hid hL
  clear hL
  by_cases h3 : 3 ≤ L.length
  · have hv : bgO L = decide (L.take 3 = ownL) := by unfold bgO; rw [decide_eq_true h3]; rfl
    rw [hv]
    clear hv
    have d1 : decide ((3 : Int) ≤ (L.length : Int)) = true := decide_eq_true (by omega)
    have i1 : (3 : Int) ≤ (c : Int) := by omega
    have i2 : 3 ≤ c := by omega
    have HE : Hid (∀ (b : Nat) w1, Below w.heap.size w w1 → OwnA w1 w.heap.size (.slice (some ⟨b, 0, none⟩) 3 3) ownL → Calls Try.prog 56 #[.slice a 3 c, .slice (some ⟨b, 0, none⟩) 3 3] w1 fun e w' => e = .returned (.bool (decide (L.take 3 = ownL))) ∧ Below w1.heap.size w1 w') := fun b w1 hb ho => by
      have hl : (L.take 3).length = 3 := by rw [List.length_take]; omega
      have h1 := equal_c a (some ⟨b, 0, none⟩) c 3 (L.take 3) ownL w1 ((HL.out.below hb).take 3) (by
        obtain ⟨a', c', e, _, _, q⟩ := ho.reads ownL_ok
        injection e with e1
        rw [e1]; exact q) (by omega) (by decide)
      rw [hl] at h1
      exact h1
    generalize decide (L.take 3 = ownL) = t at *
    obtain ⟨ab, ha⟩ : ∃ ab : Addr, a = some ab := by
      obtain ⟨b, off, q, _⟩ := HL.out.2 0 (by omega)
      exact ⟨_, q⟩
    subst ha
    clear h3
    go_enter Try.func33, Try.ntmps33
    go_wp2_with fail
    refine hw.mono ?_; clear hw; rintro e w1 ⟨b, rfl, ho, hb⟩
    have hcall := HE.out b w1 hb ho
    have HB := Lib.hid hb
    clear ho hb
    go_wp2_with fail
    refine hcall.mono ?_; clear hcall; rintro e w2 ⟨rfl, hb2⟩
    have HB2 := Lib.hid (HB.out.trans (hb2.mono HB.out.size))
    clear hb2
    go_wp2_with fail
    go_ret
    exact ⟨rfl, HB2.out⟩
  · have hv : bgO L = false := by unfold bgO; rw [decide_eq_false h3]; rfl
    rw [hv]
    have d1 : decide ((3 : Int) ≤ (L.length : Int)) = false := decide_eq_false (by omega)
    clear hv h3
    go_enter Try.func33, Try.ntmps33
    go_wp2_with fail
    refine hw.mono ?_; clear hw; rintro e w1 ⟨b, rfl, ho, hb⟩
    have HB := Lib.hid hb
    clear ho hb
    go_wp2_with fail
    go_ret
    exact ⟨rfl, HB.out⟩
end Go.Proofs.Yteendpdidkekkaa
