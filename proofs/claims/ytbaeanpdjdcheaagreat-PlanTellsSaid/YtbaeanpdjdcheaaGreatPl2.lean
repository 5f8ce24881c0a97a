/-
  The landed package's Plan and Run: of a graph that was made; Run of a do that a law hands in, and of none. The conditions: at most 10^6 numbers. Layer 15's run and few. The conditions: a graph that was made; at most 10^6 numbers. Layer 15's few and awake. No conditions. What the walk of a law of layer 15 carries. No conditions.
-/
import Derived.Test.YtbaeanpdjdcheaaGreatPlnC
import Derived.Test.YtbaeanpdjdcheaaGreatRc2
import Derived.Test.YtbaeanpdjdcheaaGreatOr3
import Derived.Test.YtbaeanpdjdcheaaGreatRf5
import Derived.Test.YtbaeanpdjdcheaaGreatGrV
import Derived.Test.YtbaeanpdjdcheaaGreatGrU
import Derived.Test.YtbaeanpdjdcheaaGreatRc1
namespace Go.Proofs.YtbaeanpdjdcheaaGreat
open Go.RowKit
set_option linter.unusedSimpArgs false
set_option linter.unusedVariables false

/- The landed package's Plan and Run: of a graph that was made; Run of a do that a law hands in, and of none. The conditions: at most 10^6 numbers. -/
section
variable {w00 w : World} {Bg : Nat} {R : List (List Int)} {Fg : Nat → Prop}
theorem plan_o (h : OneG w00 w Bg R Fg) (a : Option Addr) (c : Nat) (D : List Int) (hr : Reads w a D) (hn : D.length ≤ 1000000) :
    Calls Tryz.prog 9 #[.pointer (some ⟨Bg, 0, none⟩), .slice a D.length c] w fun e w' => ∃ S, IsSt R.length (nUp R) D S ∧ PlnAns e w w' R S id := by
  have hre := reach_o h a c D hr hn
  have HG := Lib.hid h
  have HI := Lib.hid h.r.1
  clear h hr
  go_enter Tryz.func9, Tryz.ntmps9
  go_wp2_with fail
  refine hre.mono ?_; clear hre; rintro e w1 ⟨u, S, rfl, ho, hS, hb⟩
  obtain ⟨sa, sc, rfl, hu⟩ := inr_own ho (fnd_inr hS HI.out.hi)
  have hfl := fnd_le hS HI.out.hi
  have hor := order_o (HG.out.below hb) sa sc (fnd S) hu (by omega)
  have HS := Lib.hid hS; have HB := Lib.hid hb
  clear ho hS hb hu hfl
  go_wp2_with fail
  refine hor.mono ?_; clear hor; rintro e w2 ⟨v, l, s, rfl, ho, hO, hs, hb⟩
  have HF := Lib.hid (And.intro (own_low ho HB.out.size) (And.intro hO (And.intro hs (HB.out.trans (hb.mono HB.out.size)))))
  clear ho hO hs hb
  go_wp2_with fail
  go_ret2
  exact ⟨S, HS.out, v, l, s, rfl, HF.out.1, HF.out.2.1, HF.out.2.2.1, HF.out.2.2.2⟩
/-- What Run tells, and what its do was told. -/
def RunAns (e : Ending) (w w' : World) (R : List (List Int)) (D S : List Int) (tb xb : Nat) (ta : Option Addr) (tc : Nat) (T : List Bool) (u : Value) : Prop := ∃ (v u' : Value) (l : List Int) (s : Bool), e = .returned (.tuple #[v, .int .i64 (ecir s)]) ∧
  Own w' w.heap.size v (don R D (chv T) (if s then [] else l)) ∧ IsOrd R (sel R.length (fnd S)) l ∧ StkP s R (fnd S) l ∧ TldJ w' w.heap.size tb xb ta tc T u' (don R D (chv T) (if s then [] else l)) ∧ Turn (TldF tb u) w w' ∧ ∀ j, TldF tb u' j → TldF tb u j ∨ w.heap.size ≤ j
theorem TldJ.up {w : World} {a b tb xb : Nat} {ta : Option Addr} {tc : Nat} {T : List Bool} {u : Value} {out : List Int} (h : TldJ w a tb xb ta tc T u out) (hab : b ≤ a) (h1 : tb < b ∧ xb < b) (h2 : ∀ x off, ta = some ⟨x, off, none⟩ → T ≠ [] → x < b) : TldJ w b tb xb ta tc T u out := by
  refine ⟨h.c0, h.c1, h.z0, h.z1, h.cx, h.rd, ⟨⟨h.own.1.1, h.own.1.2.imp id fun ⟨g, cap, cur, e, q, r⟩ => ⟨g, cap, cur, e, Nat.le_trans hab q, r⟩⟩, h.own.2⟩, ⟨h1.1, h1.2, h.lt.2.2⟩, fun x off e q => ⟨h2 x off e q, (h.tt x off e q).2⟩, Nat.le_trans hab h.sz⟩
/-- What a desk's do keeps: what was told; the box of the law's do. -/
def TldD (base tb xb b : Nat) (ta : Option Addr) (tc : Nat) (T : List Bool) (F : Nat → Prop) (cl : List Int) (W : World) : Prop := ∃ u, F = TldF tb u ∧ TldJ W base tb xb ta tc T u cl ∧ W.cell? ⟨b, 0, none⟩ = some (DoV tb xb) ∧ ¬ TldF tb u b
theorem tldd {base d tb xb b : Nat} {ta : Option Addr} {tc : Nat} {T : List Bool} (hd : base ≤ d) (hb : b < d) : DoJ d (TldD base tb xb b ta tc T) where
  keep := by
    rintro F G cl W W' ⟨u, rfl, h1, h2, h3⟩ t hG
    exact ⟨u, rfl, h1.keep t (fun j q => ⟨Nat.le_trans hd (hG j q).1, (hG j q).2⟩), (t.cell (a := ⟨b, 0, none⟩) (World.block_lt_of_cell? _ _ h2) (fun q => by have : d ≤ b := (hG b q).1; omega)).trans h2, h3⟩
  foot := by
    rintro F cl W ⟨u, rfl, h1, h2, h3⟩ j q
    exact h1.foot j q
theorem tldd_do {base tb xb b : Nat} {ta : Option Addr} {tc : Nat} {T : List Bool} (F : Nat → Prop) (cl : List Int) (W : World) (v : Int) (h : TldD base tb xb b ta tc T F cl W) (hl : cl.length ≤ 20000) :
    Calls Tryz.prog 68 #[.int .i64 v, .pointer (some ⟨b, 0, none⟩)] W fun e W' => e = .returned (.bool (chv T v)) ∧ ∃ F', TldD base tb xb b ta tc T F' (cl ++ [v]) W' ∧ Turn F W W' ∧ ∀ j, F' j → F j ∨ W.heap.size ≤ j := by
  obtain ⟨u, rfl, h1, h2, h3⟩ := h
  refine (calm_p h1 h2 hl v).mono fun e W' ⟨he, u', k1, k2, k3⟩ => ⟨he, TldF tb u', ⟨u', rfl, k1, (k2.cell (a := ⟨b, 0, none⟩) (World.block_lt_of_cell? _ _ h2) h3).trans h2, fun q => ?_⟩, k2, k3⟩
  rcases k3 b q with q | q
  · exact h3 q
  · have : b < W.heap.size := World.block_lt_of_cell? _ _ h2
    omega
theorem calm1_c (v : Int) (w : World) : Calls Tryz.prog 67 #[.int .i64 v] w fun e w' => e = .returned (.bool true) ∧ w' = w := by
  go_enter Tryz.func67, Tryz.ntmps67
  go_wp2_with fail
  go_ret
  exact ⟨rfl, rfl⟩
set_option maxHeartbeats 4000000 in
set_option maxRecDepth 100000 in
theorem run_o (h : OneG w00 w Bg R Fg) (a : Option Addr) (c : Nat) (D : List Int) (hr : Reads w a D) (hn : D.length ≤ 1000000) {tb xb : Nat} {ta : Option Addr} {tc : Nat} {T : List Bool} {u : Value} (hj : TldJ w w.heap.size tb xb ta tc T u []) :
    Calls Tryz.prog 14 #[.pointer (some ⟨Bg, 0, none⟩), .slice a D.length c, DoV tb xb] w fun e w' => ∃ S, IsSt R.length (nUp R) D S ∧ RunAns e w w' R D S tb xb ta tc T u := by
  have hpl := plan_o h a c D hr hn
  have HG := Lib.hid h
  have HI := Lib.hid h.r.1
  have HR := Lib.hid hr
  have HJ := Lib.hid hj
  clear h hr hj
  go_enter Tryz.func14, Tryz.ntmps14
  go_wp2_with fail
  refine hpl.mono ?_; clear hpl; rintro e w1 ⟨S, hS, v, l, s, rfl, ho, hO, hs, hb⟩
  rw [id_eq] at ho
  have HS := Lib.hid hS
  have HO := Lib.hid (And.intro hO hs)
  cases s with
  | true =>
    simp only [if_true] at ho
    obtain ⟨pa, pc, rfl⟩ := (ownsRow_slc ho).form
    have HB := Lib.hid hb
    have hj1 := HJ.out.keep (Turn.of_below (F := fun _ => False) hb) (fun j q => q.elim)
    have HJ1 := Lib.hid hj1
    clear ho hb hO hs hS hj1
    have hec : ecir true = 26 := rfl
    rw [hec]
    go_wp2_with fail
    go_ret2
    exact ⟨S, HS.out, _, u, l, true, rfl, Own.nil _ _, HO.out.1, HO.out.2, HJ1.out, Turn.of_below HB.out, fun j q => Or.inl q⟩
  | false =>
    have hpin := pl_gnd HO.out.1 false
    have hple := ord_le HI.out HO.out.1 false
    simp only [Bool.false_eq_true, if_false] at ho hpin hple
    have hpr : ∀ z ∈ l, InR z := fun z hz => by have := hpin z hz; have := HI.out.hi; unfold gnd at *; unfold InR; omega
    obtain ⟨pa, pc, rfl, hpR⟩ := inr_own ho hpr
    have hly := lay_p (HG.out.below hb) a c D (HR.out.below hb) hn pa pc l hpR hple hpin (DoV tb xb) (Or.inr ⟨tb, xb, rfl⟩)
    have hj1 := HJ.out.keep (Turn.of_below (F := fun _ => False) hb) (fun j q => q.elim)
    have HB := Lib.hid hb
    have HPI := Lib.hid (And.intro hpin hple)
    have HJ1 := Lib.hid hj1
    clear ho hb hO hs hS hpin hple hpr hpR hj1
    have hec : ecir false = 0 := rfl
    rw [hec]
    go_wp2_with fail
    refine hly.mono ?_; clear hly; rintro e w2 ⟨B, ja, gj, gc, cv, RV, rfl, hdp, hcq⟩
    rcases hcq with ⟨q, _⟩ | ⟨tb', xb', b, q, rfl, hb0, hbc⟩
    · cases q
    · obtain ⟨rfl, rfl⟩ : tb' = tb ∧ xb' = xb := by
        simp only [Value.func.injEq, Array.mk.injEq, List.cons.injEq, Value.pointer.injEq, Option.some.injEq, Addr.mk.injEq, and_true, true_and] at q
        exact ⟨q.1.symm, q.2.symm⟩
      have hb2 := hdp.b
      have hj2 := HJ1.out.keep (Turn.of_below (F := fun _ => False) hb2) (fun j q => q.elim)
      have hbl := World.block_lt_of_cell? _ _ hbc
      have hsz1 := HB.out.size
      have hsz2 := hb2.size
      have hlow : ∀ j, TldF tb' u j → j < w.heap.size := HJ.out.foot
      have hrn := deskrun_f (w0 := w1) (w := w2) (J := TldD w.heap.size tb' xb' b ta tc T) (F0 := TldF tb' u) (ch := chv T) 68 (.pointer (some ⟨b, 0, none⟩)) (fun _ _ => rfl) (tldd (by omega) hbl) hdp ⟨u, rfl, hj2, hbc, fun q => by have := hlow b q; omega⟩
        (fun j q r => by
          have h1 := hlow j r
          rcases q with q | ⟨q1, q⟩ | ⟨i, hi, q⟩
          · have := hdp.b0; omega
          · have := (hdp.g0 q1).1; omega
          · have := (hdp.rb i hi j q).1; omega) HI.out HPI.out.2 HPI.out.1 tldd_do
      have HB2 := Lib.hid (HB.out.trans (hb2.mono hsz1))
      clear hdp hbc hb2 hj2
      go_wp2_with fail
      refine hrn.mono ?_; clear hrn; rintro e w3 ⟨rv, rfl, ho3, F', ⟨u', rfl, k1, k2, k3⟩, ht3, hF3⟩
      have HF := Lib.hid (And.intro (own_low ho3 HB2.out.size) (And.intro k1 (And.intro ((Turn.of_below (F := TldF tb' u) HB2.out).trans ht3 (fun j q => Or.inl q)) (fun j q => (hF3 j q).imp id (fun q => Nat.le_trans HB2.out.size q)))))
      clear ho3 k1 k2 k3 ht3 hF3
      go_wp2_with fail
      go_ret2
      exact ⟨S, HS.out, _, u', l, false, rfl, HF.out.1, HO.out.1, HO.out.2, HF.out.2.1, HF.out.2.2.1, HF.out.2.2.2⟩
set_option maxHeartbeats 4000000 in
set_option maxRecDepth 100000 in
theorem run_n (h : OneG w00 w Bg R Fg) (a : Option Addr) (c : Nat) (D : List Int) (hr : Reads w a D) (hn : D.length ≤ 1000000) :
    Calls Tryz.prog 14 #[.pointer (some ⟨Bg, 0, none⟩), .slice a D.length c, .nilFunc] w fun e w' => ∃ S, IsSt R.length (nUp R) D S ∧ PlnAns e w w' R S (don R D (fun _ => true)) := by
  have hpl := plan_o h a c D hr hn
  have HG := Lib.hid h
  have HI := Lib.hid h.r.1
  have HR := Lib.hid hr
  clear h hr
  go_enter Tryz.func14, Tryz.ntmps14
  go_wp2_with fail
  refine hpl.mono ?_; clear hpl; rintro e w1 ⟨S, hS, v, l, s, rfl, ho, hO, hs, hb⟩
  rw [id_eq] at ho
  have HS := Lib.hid hS
  have HO := Lib.hid (And.intro hO hs)
  cases s with
  | true =>
    simp only [if_true] at ho
    obtain ⟨pa, pc, rfl⟩ := (ownsRow_slc ho).form
    have HB := Lib.hid hb
    clear ho hb hO hs hS
    have hec : ecir true = 26 := rfl
    rw [hec]
    go_wp2_with fail
    go_ret2
    exact ⟨S, HS.out, _, l, true, rfl, Own.nil _ _, HO.out.1, HO.out.2, HB.out⟩
  | false =>
    have hpin := pl_gnd HO.out.1 false
    have hple := ord_le HI.out HO.out.1 false
    simp only [Bool.false_eq_true, if_false] at ho hpin hple
    have hpr : ∀ z ∈ l, InR z := fun z hz => by have := hpin z hz; have := HI.out.hi; unfold gnd at *; unfold InR; omega
    obtain ⟨pa, pc, rfl, hpR⟩ := inr_own ho hpr
    have hly := lay_p (HG.out.below hb) a c D (HR.out.below hb) hn pa pc l hpR hple hpin .nilFunc (Or.inl rfl)
    have HB := Lib.hid hb
    have HPI := Lib.hid (And.intro hpin hple)
    clear ho hb hO hs hS hpin hple hpr hpR
    have hec : ecir false = 0 := rfl
    rw [hec]
    go_wp2_with fail
    refine hly.mono ?_; clear hly; rintro e w2 ⟨B, ja, gj, gc, cv, RV, rfl, hdp, hcq⟩
    rcases hcq with ⟨_, rfl⟩ | ⟨tb', xb', b, q, rfl, hb0, hbc⟩
    · have hb2 := hdp.b
      have hsz1 := HB.out.size
      have hrn := deskrun_n (w0 := w1) (w := w2) (J := fun F _ _ => ∀ j, ¬ F j) (F0 := fun _ => False) (ch := fun _ => true) 67 (fun _ _ => rfl) ⟨fun h _ _ => h, fun h j q => absurd q (h j)⟩ hdp (fun _ q => q) (fun _ _ q => q) HI.out HPI.out.2 HPI.out.1
        (fun F cl W v hF _ => (calm1_c v W).mono fun e W' ⟨he, hw⟩ => ⟨he, F, hF, by rw [hw]; exact Turn.refl _ _, fun j q => Or.inl q⟩)
      have HB2 := Lib.hid (HB.out.trans (hb2.mono hsz1))
      clear hdp hb2
      go_wp2_with fail
      refine hrn.mono ?_; clear hrn; rintro e w3 ⟨rv, rfl, ho3, F', _, ht3, _⟩
      have HF := Lib.hid (And.intro (own_low ho3 HB2.out.size) (HB2.out.trans ((ht3.below (fun j q => q.elim) (Nat.le_refl _)).mono HB2.out.size)))
      clear ho3 ht3
      go_wp2_with fail
      go_ret2
      exact ⟨S, HS.out, _, l, false, rfl, HF.out.1, HO.out.1, HO.out.2, HF.out.2⟩
    · cases q
end
/- Layer 15's run and few. The conditions: a graph that was made; at most 10^6 numbers. -/
/-- What a law's run tells: what was done, and what was called; they are the same. -/
def LawAns (e : Ending) (w w' : World) (R : List (List Int)) (D S : List Int) (T : List Bool) : Prop := ∃ (v u : Value) (l : List Int) (s : Bool), e = .returned (.tuple #[.agg #[v, u], .int .i64 (ecir s)]) ∧
  Own w' w.heap.size v (don R D (chv T) (if s then [] else l)) ∧ Own w' w.heap.size u (don R D (chv T) (if s then [] else l)) ∧ IsOrd R (sel R.length (fnd S)) l ∧ StkP s R (fnd S) l ∧ Below w.heap.size w w'
theorem three_at (w : World) (a b c d e : Value) (t1 t2 : TypeId) :
    Below w.heap.size w (((w.alloc (.cells #[a] t1)).alloc (.cells #[b, c] t2)).alloc (.cells #[d, e] t2)) ∧
    (((w.alloc (.cells #[a] t1)).alloc (.cells #[b, c] t2)).alloc (.cells #[d, e] t2)).heap.size = w.heap.size + 3 ∧
    (((w.alloc (.cells #[a] t1)).alloc (.cells #[b, c] t2)).alloc (.cells #[d, e] t2)).heap[w.heap.size]? = some (.cells #[a] t1) ∧
    (((w.alloc (.cells #[a] t1)).alloc (.cells #[b, c] t2)).alloc (.cells #[d, e] t2)).heap[w.heap.size + 1]? = some (.cells #[b, c] t2) ∧
    (((w.alloc (.cells #[a] t1)).alloc (.cells #[b, c] t2)).alloc (.cells #[d, e] t2)).heap[w.heap.size + 1 + 1]? = some (.cells #[d, e] t2) := by
  obtain ⟨h1, h2, h3, h4⟩ := three_of w (.cells #[a] t1) (.cells #[b, c] t2) (.cells #[d, e] t2)
  exact ⟨h4, by simp, h1, h2, h3⟩
set_option maxHeartbeats 4000000 in
set_option maxRecDepth 100000 in
theorem run_l {w00 w : World} {Bg : Nat} {R : List (List Int)} {Fg : Nat → Prop} (h : OneG w00 w Bg R Fg) (a : Option Addr) (c : Nat) (D : List Int) (hr : Reads w a D) (hn : D.length ≤ 1000000) (ta : Option Addr) (tc : Nat) (T : List Bool) (hT : ReadsB w ta T) :
    Calls Tryz.prog 11 #[.pointer (some ⟨Bg, 0, none⟩), .slice a D.length c, .slice ta T.length tc] w fun e w' => ∃ S, IsSt R.length (nUp R) D S ∧ LawAns e w w' R D S T := by
  have hmf : ∀ (fn : Fn) (first cap : Array Value) (w : World), (Instr.makeFunc fn first cap).run Tryz.prog w = .ok (.func fn first cap) w := fun _ _ _ _ => rfl
  obtain ⟨hb3, hs3, x3, y3, z3⟩ := three_at w (.slice ta T.length tc) (.slice none 0 0) (.slice none 0 0) (.slice none 0 0) (.slice none 0 0) 24 41
  have hrl := run_o (h.below hb3) a c D (hr.below hb3) hn (tb := w.heap.size + 1 + 1) (xb := w.heap.size) (ta := ta) (tc := tc) (T := T) (u := .slice none 0 0)
    ⟨(cell_ofO 0 z3).trans rfl, (cell_ofO 1 z3).trans rfl, free_of 0 z3, free_of 1 z3, (cell_ofO 0 x3).trans rfl, hT.below hb3, OwnO.nil _ _ _ _ _, ⟨by omega, by omega, by omega⟩, fun b off e q => by
      obtain ⟨b2, off2, e2, hc⟩ := hT 0 (List.length_pos_iff.2 q)
      rw [e] at e2
      cases e2
      have : b < w.heap.size := World.block_lt_of_cell? _ _ hc
      exact ⟨by omega, by omega⟩, Nat.le_refl _⟩
  have r0 := (cell_ofO 0 y3).trans rfl
  have r1 := (cell_ofO 1 y3).trans rfl
  have q0 := free_of 0 y3
  have q1 := free_of 1 y3
  have HB := Lib.hid (And.intro hb3 hs3)
  clear h hr hT x3 y3 z3 hb3 hs3
  go_enter Tryz.func11, Tryz.ntmps11
  go_wp2_with fail
  generalize ((w.alloc (.cells #[.slice ta T.length tc] 24)).alloc (.cells #[.slice none 0 0, .slice none 0 0] 41)).alloc (.cells #[.slice none 0 0, .slice none 0 0] 41) = w3 at *
  obtain ⟨tb, htb⟩ : ∃ tb, tb = w.heap.size + 1 + 1 := ⟨_, rfl⟩
  obtain ⟨rb, hrb⟩ : ∃ rb, rb = w.heap.size + 1 := ⟨_, rfl⟩
  obtain ⟨xb, hxb⟩ : ∃ xb, xb = w.heap.size := ⟨_, rfl⟩
  rw [← htb, ← hxb] at hrl
  rw [← hrb] at r0 r1 q0 q1
  rw [← htb, ← hrb, ← hxb]
  have HBX := Lib.hid (And.intro htb (And.intro hrb hxb))
  have hr0 : w3.cell? ⟨rb, 0, none⟩ = some (.slice none 0 0) := r0
  have hr1 : w3.cell? ⟨rb, 1, none⟩ = some (.slice none 0 0) := r1
  have HR0 := Lib.hid (And.intro hr0 (And.intro hr1 (And.intro q0 q1)))
  clear htb hrb hxb r0 r1 q0 q1 hr0 hr1
  refine hrl.mono ?_; clear hrl; rintro e w4 ⟨S, hS, v, u', l, s, rfl, ho, hO, hs, hJ, ht, hF⟩
  obtain ⟨va, vc, rfl⟩ := (ownsRow_slc ho).form
  obtain ⟨ua, uc, rfl⟩ := (ownsRow_slc hJ.own.1).form
  generalize hdn : don R D (chv T) (if s = true then [] else l) = dn at *
  have hnr : ¬ TldF tb (.slice none 0 0) rb := fun q => q.elim (fun q => by have := HBX.out.1; have := HBX.out.2.1; omega) (fun q => by cases q)
  have hrl : rb < w3.heap.size := World.block_lt_of_cell? _ _ HR0.out.1
  have g0 := (ht.cell (a := ⟨rb, 0, none⟩) hrl hnr).trans HR0.out.1
  have g1 := (ht.cell (a := ⟨rb, 1, none⟩) hrl hnr).trans HR0.out.2.1
  have k0 := (ht.frozen (a := ⟨rb, 0, none⟩) hrl hnr).trans HR0.out.2.2.1
  have k1 := (ht.frozen (a := ⟨rb, 1, none⟩) hrl hnr).trans HR0.out.2.2.2
  have c0 := hJ.c0; have c1 := hJ.c1; have z0 := hJ.z0
  have nrt : rb ≠ tb := by have := HBX.out.1; have := HBX.out.2.1; omega
  have d0 : (w4.setCell ⟨tb, 0, none⟩ (.slice va dn.length vc)).cell? ⟨tb, 0, none⟩ = some (.slice va dn.length vc) := World.cell?_setCell_same _ _ _ c0
  have d1 : (w4.setCell ⟨tb, 0, none⟩ (.slice va dn.length vc)).cell? ⟨tb, 1, none⟩ = some (.slice ua dn.length uc) := (World.cell?_setCell_other _ _ _ _ (by simp)).trans c1
  have f0 : (w4.setCell ⟨tb, 0, none⟩ (.slice va dn.length vc)).cell? ⟨rb, 0, none⟩ = some (.slice none 0 0) := (World.cell?_setCell_other _ _ _ _ (fun q => nrt (congrArg Addr.block q).symm)).trans g0
  have f1 : (w4.setCell ⟨tb, 0, none⟩ (.slice va dn.length vc)).cell? ⟨rb, 1, none⟩ = some (.slice none 0 0) := (World.cell?_setCell_other _ _ _ _ (fun q => nrt (congrArg Addr.block q).symm)).trans g1
  have l0 : (w4.setCell ⟨tb, 0, none⟩ (.slice va dn.length vc)).frozen? ⟨rb, 0, none⟩ = false := (World.frozen?_setCell _ _ _ _).trans k0
  have l1 : (w4.setCell ⟨tb, 0, none⟩ (.slice va dn.length vc)).frozen? ⟨rb, 1, none⟩ = false := (World.frozen?_setCell _ _ _ _).trans k1
  have m1 : ((w4.setCell ⟨tb, 0, none⟩ (.slice va dn.length vc)).setCell ⟨rb, 0, none⟩ (.slice va dn.length vc)).cell? ⟨rb, 1, none⟩ = some (.slice none 0 0) := (World.cell?_setCell_other _ _ _ _ (by simp)).trans f1
  have m0 : ((w4.setCell ⟨tb, 0, none⟩ (.slice va dn.length vc)).setCell ⟨rb, 0, none⟩ (.slice va dn.length vc)).cell? ⟨rb, 0, none⟩ = some (.slice va dn.length vc) := World.cell?_setCell_same _ _ _ f0
  have n1 : (((w4.setCell ⟨tb, 0, none⟩ (.slice va dn.length vc)).setCell ⟨rb, 0, none⟩ (.slice va dn.length vc)).setCell ⟨rb, 1, none⟩ (.slice ua dn.length uc)).cell? ⟨rb, 1, none⟩ = some (.slice ua dn.length uc) := World.cell?_setCell_same _ _ _ m1
  have n0 : (((w4.setCell ⟨tb, 0, none⟩ (.slice va dn.length vc)).setCell ⟨rb, 0, none⟩ (.slice va dn.length vc)).setCell ⟨rb, 1, none⟩ (.slice ua dn.length uc)).cell? ⟨rb, 0, none⟩ = some (.slice va dn.length vc) := (World.cell?_setCell_other _ _ _ _ (by simp)).trans m0
  have hG : ∀ j, (j = tb ∨ j = rb) → w.heap.size ≤ j ∧ j < w3.heap.size := fun j q => by
    have := HBX.out.1; have := HBX.out.2.1; have := HB.out.2
    rcases q with q | q <;> omega
  have t6 : Turn (fun j => j = tb ∨ j = rb) w4 (((w4.setCell ⟨tb, 0, none⟩ (.slice va dn.length vc)).setCell ⟨rb, 0, none⟩ (.slice va dn.length vc)).setCell ⟨rb, 1, none⟩ (.slice ua dn.length uc)) :=
    turn_set (turn_set (turn_set (Turn.refl _ _) (Or.inl (Or.inl rfl)) _) (Or.inl (Or.inr rfl)) _) (Or.inl (Or.inr rfl)) _
  have o1 := own_turn ho t6 (fun b q r => by have := (World.ownsRow.lt ho b q).1; have := (hG b r).2; omega)
  have o2 := own_turn hJ.own.1 t6 (fun b q r => by have := (World.ownsRow.lt hJ.own.1 b q).1; have := (hG b r).2; omega)
  have hb4 : Below w.heap.size w w4 := HB.out.1.trans (ht.below (fun j q => by
    rcases q with q | q
    · exact (hG j (Or.inl q)).1
    · cases q) (by have := HB.out.2; omega))
  have hb6 := hb4.trans (t6.below (fun j q => (hG j q).1) hb4.size)
  have HF := Lib.hid (And.intro (own_low o1 HB.out.1.size) (And.intro (own_low o2 HB.out.1.size) (And.intro hO (And.intro hs hb6))))
  have HDN := Lib.hid hdn
  have HS := Lib.hid hS
  clear ho hO hs hJ ht hF hnr hrl g0 g1 k0 k1 c1 m0 t6 o1 o2 hb4 hb6 hG hdn hS
  go_wp2_with fail
  exact bodyPost_ret (v := .tuple #[.agg #[.slice va dn.length vc, .slice ua dn.length uc], .int .i64 (ecir s)]) (by simp [results, Tryz.results11, go_sem, n0, n1]) rfl ⟨S, HS.out, _, _, l, s, rfl, by rw [HDN.out]; exact HF.out.1, by rw [HDN.out]; exact HF.out.2.1, HF.out.2.2.1, HF.out.2.2.2.1, HF.out.2.2.2.2⟩
/- Layer 15's few and awake. No conditions. -/
/-- Whether a case is so small. -/
def f15 (m : Int) (l : List GA) (D : List Int) (T : List Bool) : Bool := gfew l && decide (m ≤ 12) && decide ((D.length : Int) ≤ 60) && decide ((T.length : Int) ≤ 60)
theorem few_c (m : Int) (a : Option Addr) (c : Nat) (l : List GA) (fa : Option Addr) (fc : Nat) (D : List Int) (ta : Option Addr) (tc : Nat) (T : List Bool) (w : World) (h : ActsG w a l) (hn : (l.length : Int) ≤ 9223372036854775807) :
    Calls Tryz.prog 6 #[.int .i64 m, .slice a l.length c, .agg #[.slice fa D.length fc, .slice ta T.length tc]] w fun e w' => e = .returned (.bool (f15 m l D T)) ∧ Below w.heap.size w w' := by
  have hb := below1 w (.cells #[.slice fa D.length fc, .slice ta T.length tc] 26)
  have hf := few_g a c l _ (h.below hb) hn
  unfold f15
  clear h
  generalize gfew l = qf at *
  cases qf with
  | false =>
    go_enter Tryz.func6, Tryz.ntmps6
    go_wp2_with fail
    refine hf.mono ?_; clear hf; rintro e w1 ⟨rfl, hw⟩
    replace hw := hw.symm
    subst hw
    go_wp2_with fail
    go_ret
    exact ⟨rfl, hb⟩
  | true =>
    cases h1 : decide (m ≤ 12) with
    | false =>
      go_enter Tryz.func6, Tryz.ntmps6
      go_wp2_with fail
      refine hf.mono ?_; clear hf; rintro e w1 ⟨rfl, hw⟩
      replace hw := hw.symm
      subst hw
      go_wp2_with fail
      go_ret
      exact ⟨rfl, hb⟩
    | true =>
      cases h2 : decide ((D.length : Int) ≤ 60) with
      | false =>
        have h2n : decide (D.length ≤ 60) = false := by rw [← h2]; exact decide_eq_decide.2 (by omega)
        go_enter Tryz.func6, Tryz.ntmps6
        go_wp2_with fail
        refine hf.mono ?_; clear hf; rintro e w1 ⟨rfl, hw⟩
        replace hw := hw.symm
        subst hw
        go_wp2_with fail
        go_ret
        exact ⟨rfl, hb⟩
      | true =>
        have h2n : decide (D.length ≤ 60) = true := by rw [← h2]; exact decide_eq_decide.2 (by omega)
        have h3n : decide (T.length ≤ 60) = decide ((T.length : Int) ≤ 60) := decide_eq_decide.2 (by omega)
        cases h3 : decide ((T.length : Int) ≤ 60) with
        | false =>
          rw [h3] at h3n
          go_enter Tryz.func6, Tryz.ntmps6
          go_wp2_with fail
          refine hf.mono ?_; clear hf; rintro e w1 ⟨rfl, hw⟩
          replace hw := hw.symm
          subst hw
          go_wp2_with fail
          go_ret
          exact ⟨rfl, hb⟩
        | true =>
          rw [h3] at h3n
          go_enter Tryz.func6, Tryz.ntmps6
          go_wp2_with fail
          refine hf.mono ?_; clear hf; rintro e w1 ⟨rfl, hw⟩
          replace hw := hw.symm
          subst hw
          go_wp2_with fail
          go_ret
          exact ⟨rfl, hb⟩
theorem f15_of {m : Int} {l : List GA} {D : List Int} {T : List Bool} (h : f15 m l D T = true) : gfew l = true ∧ m ≤ 12 ∧ D.length ≤ 60 ∧ T.length ≤ 60 := by
  unfold f15 at h
  rw [Bool.and_eq_true, Bool.and_eq_true, Bool.and_eq_true, decide_eq_true_iff, decide_eq_true_iff, decide_eq_true_iff] at h
  exact ⟨h.1.1.1, h.1.1.2, by omega, by omega⟩
def RA : List (List Int) := [[], [0], [1]]
def RB : List (List Int) := [[1], [0]]
def rowA : List GA := [(1, [0]), (2, [1])]
def rowB : List GA := [(0, [1]), (1, [0])]
theorem foldA : gfold 3 rowA rowA.length = RA := by decide
theorem foldB : gfold 2 rowB rowB.length = RB := by decide
theorem stA1 : IsSt RA.length (nUp RA) [1] [-1, 0, 1] := isst_check _ rfl (by decide) (by decide) (by decide)
theorem stA0 : IsSt RA.length (nUp RA) [0] [0, 1, 2] := isst_check _ rfl (by decide) (by decide) (by decide)
theorem stB0 : IsSt RB.length (nUp RB) [0] [0, 1] := isst_check _ rfl (by decide) (by decide) (by decide)
set_option maxRecDepth 100000 in
theorem ordA1 : IsOrd RA (sel RA.length (fnd [-1, 0, 1])) [1, 2] := ⟨by unfold OrdP; decide, by decide⟩
set_option maxRecDepth 100000 in
theorem ordA0 : IsOrd RA (sel RA.length (fnd [0, 1, 2])) [0, 1, 2] := ⟨by unfold OrdP; decide, by decide⟩
set_option maxRecDepth 100000 in
theorem ordB0 : IsOrd RB (sel RB.length (fnd [0, 1])) [] := ⟨by unfold OrdP; decide, by decide⟩
theorem s_no {s : Bool} {P : Prop} (h : s = true ↔ P) (hn : ¬ P) : s = false := by
  cases s with
  | false => rfl
  | true => exact absurd (h.1 rfl) hn
theorem s_yes {s : Bool} {P : Prop} (h : s = true ↔ P) (hn : P) : s = true := h.2 hn
structure AwI (w wk : World) (Bg : Nat) (Fg : Nat → Prop) (Bh : Nat) (Fh : Nat → Prop) : Prop where
  g : OneG w wk Bg RA Fg
  h : OneG w wk Bh RB Fh
theorem AwI.below {w wk w' : World} {Bg Bh : Nat} {Fg Fh : Nat → Prop} (a : AwI w wk Bg Fg Bh Fh) (hb : Below wk.heap.size wk w') : AwI w w' Bg Fg Bh Fh := ⟨a.g.below hb, a.h.below hb⟩
theorem one_low {w w1 w2 : World} {B : Nat} {R : List (List Int)} {F : Nat → Prop} (h : OneG w1 w2 B R F) (hb : Below w.heap.size w w1) : OneG w w2 B R F := ⟨h.r, hb.trans (h.b.mono hb.size), fun j hj => Nat.le_trans hb.size (h.f j hj)⟩
theorem lit_rb (w : World) (I : List Bool) : ReadsB (w.alloc (.cells (I.map Value.bool).toArray 4)) (some ⟨w.heap.size, 0, none⟩) I :=
  fun i hi => ⟨w.heap.size, 0, rfl, by simp [List.getD, hi]⟩
/-- What a run told, in a block. -/
def Got (w : World) (b : Nat) (va ua : Option Addr) (vc uc : Nat) (L : List Int) : Prop := w.cell? ⟨b, 0, none⟩ = some (.slice va L.length vc) ∧ w.cell? ⟨b, 1, none⟩ = some (.slice ua L.length uc) ∧ Reads w va L ∧ Reads w ua L
theorem Got.below {w w' : World} {b : Nat} {va ua : Option Addr} {vc uc : Nat} {L : List Int} (h : Got w b va ua vc uc L) (hb : Below w.heap.size w w') : Got w' b va ua vc uc L :=
  ⟨(hb.cell (p := ⟨b, 0, none⟩) (World.block_lt_of_cell? _ _ h.1)).trans h.1, (hb.cell (p := ⟨b, 1, none⟩) (World.block_lt_of_cell? _ _ h.2.1)).trans h.2.1, h.2.2.1.below hb, h.2.2.2.below hb⟩
set_option maxHeartbeats 8000000 in
set_option maxRecDepth 100000 in
theorem awake15 (w : World) : Calls Tryz.prog 7 #[] w fun e w' => e = .returned (.bool true) ∧ Below w.heap.size w w' := by
  have hA1 : ActsG (((w.alloc (.cells #[.int .i64 0] 3)).alloc (.cells #[.int .i64 1] 3)).alloc (.cells #[.int .i64 1, .slice (some ⟨w.heap.size, 0, none⟩) 1 1, .int .i64 2, .slice (some ⟨w.heap.size + 1, 0, none⟩) 1 1] 52)) (some ⟨w.heap.size + 1 + 1, 0, none⟩) rowA := fun k hk => by
    have r1 : Sl (((w.alloc (.cells #[.int .i64 0] 3)).alloc (.cells #[.int .i64 1] 3)).alloc (.cells #[.int .i64 1, .slice (some ⟨w.heap.size, 0, none⟩) 1 1, .int .i64 2, .slice (some ⟨w.heap.size + 1, 0, none⟩) 1 1] 52)) (.slice (some ⟨w.heap.size, 0, none⟩) 1 1) [0] :=
      ⟨_, _, rfl, Nat.le_refl _, fun q => (by cases q), (lit_rg w [0] (by decide)).below (below2 _ _ _)⟩
    have r2 : Sl (((w.alloc (.cells #[.int .i64 0] 3)).alloc (.cells #[.int .i64 1] 3)).alloc (.cells #[.int .i64 1, .slice (some ⟨w.heap.size, 0, none⟩) 1 1, .int .i64 2, .slice (some ⟨w.heap.size + 1, 0, none⟩) 1 1] 52)) (.slice (some ⟨w.heap.size + 1, 0, none⟩) 1 1) [1] :=
      ⟨_, _, rfl, Nat.le_refl _, fun q => (by cases q), by
        have := (lit_rg (w.alloc (.cells #[.int .i64 0] 3)) [1] (by decide)).below ((Below.refl _ _).alloc (Nat.le_refl _) (.cells #[.int .i64 1, .slice (some ⟨w.heap.size, 0, none⟩) 1 1, .int .i64 2, .slice (some ⟨w.heap.size + 1, 0, none⟩) 1 1] 52))
        simpa using this⟩
    have hk : k < 2 := hk
    rcases (by omega : k = 0 ∨ k = 1) with rfl | rfl
    · exact ⟨_, _, _, rfl, by simp [go_sem, gAt, rowA], by simp [go_sem, gAt, rowA], r1, by decide⟩
    · exact ⟨_, _, _, rfl, by simp [go_sem, gAt, rowA], by simp [go_sem, gAt, rowA], r2, by decide⟩
  have hmk := made_at 3 (by omega) (by omega) _ 2 rowA _ hA1 (by decide)
  rw [foldA] at hmk
  have hl1 : rowA.length = 2 := rfl
  rw [hl1] at hmk
  have HB1 := Lib.hid (below3 w (.cells #[.int .i64 0] 3) (.cells #[.int .i64 1] 3) (.cells #[.int .i64 1, .slice (some ⟨w.heap.size, 0, none⟩) 1 1, .int .i64 2, .slice (some ⟨w.heap.size + 1, 0, none⟩) 1 1] 52))
  clear hA1
  go_enter Tryz.func7, Tryz.ntmps7
  go_wp2_with fail
  refine hmk.mono ?_; clear hmk; rintro e w2 ⟨Bg, Fg, x, rfl, hG⟩
  obtain ⟨xa, xc, us, rfl, _⟩ := hG.x
  have hG1 := one_low hG.s HB1.out
  clear hG HB1
  go_upto_region 2 with fail
  have h3 := hG1.below (below1 w2 (.cells #[.slice xa RA.length xc] 32))
  clear hG1
  generalize w2.alloc (.cells #[.slice xa RA.length xc] 32) = w3 at *
  have hA2 : ActsG (((w3.alloc (.cells #[.int .i64 1] 3)).alloc (.cells #[.int .i64 0] 3)).alloc (.cells #[.int .i64 0, .slice (some ⟨w3.heap.size, 0, none⟩) 1 1, .int .i64 1, .slice (some ⟨w3.heap.size + 1, 0, none⟩) 1 1] 52)) (some ⟨w3.heap.size + 1 + 1, 0, none⟩) rowB := fun k hk => by
    have r1 : Sl (((w3.alloc (.cells #[.int .i64 1] 3)).alloc (.cells #[.int .i64 0] 3)).alloc (.cells #[.int .i64 0, .slice (some ⟨w3.heap.size, 0, none⟩) 1 1, .int .i64 1, .slice (some ⟨w3.heap.size + 1, 0, none⟩) 1 1] 52)) (.slice (some ⟨w3.heap.size, 0, none⟩) 1 1) [1] :=
      ⟨_, _, rfl, Nat.le_refl _, fun q => (by cases q), (lit_rg w3 [1] (by decide)).below (below2 _ _ _)⟩
    have r2 : Sl (((w3.alloc (.cells #[.int .i64 1] 3)).alloc (.cells #[.int .i64 0] 3)).alloc (.cells #[.int .i64 0, .slice (some ⟨w3.heap.size, 0, none⟩) 1 1, .int .i64 1, .slice (some ⟨w3.heap.size + 1, 0, none⟩) 1 1] 52)) (.slice (some ⟨w3.heap.size + 1, 0, none⟩) 1 1) [0] :=
      ⟨_, _, rfl, Nat.le_refl _, fun q => (by cases q), by
        have := (lit_rg (w3.alloc (.cells #[.int .i64 1] 3)) [0] (by decide)).below ((Below.refl _ _).alloc (Nat.le_refl _) (.cells #[.int .i64 0, .slice (some ⟨w3.heap.size, 0, none⟩) 1 1, .int .i64 1, .slice (some ⟨w3.heap.size + 1, 0, none⟩) 1 1] 52))
        simpa using this⟩
    have hk : k < 2 := hk
    rcases (by omega : k = 0 ∨ k = 1) with rfl | rfl
    · exact ⟨_, _, _, rfl, by simp [go_sem, gAt, rowB], by simp [go_sem, gAt, rowB], r1, by decide⟩
    · exact ⟨_, _, _, rfl, by simp [go_sem, gAt, rowB], by simp [go_sem, gAt, rowB], r2, by decide⟩
  have hmk := made_at 2 (by omega) (by omega) _ 2 rowB _ hA2 (by decide)
  rw [foldB] at hmk
  have hl2 : rowB.length = 2 := rfl
  rw [hl2] at hmk
  have HB4 := Lib.hid (below3 w3 (.cells #[.int .i64 1] 3) (.cells #[.int .i64 0] 3) (.cells #[.int .i64 0, .slice (some ⟨w3.heap.size, 0, none⟩) 1 1, .int .i64 1, .slice (some ⟨w3.heap.size + 1, 0, none⟩) 1 1] 52))
  have H3 := Lib.hid h3
  clear hA2 h3
  go_wp2_with fail
  refine hmk.mono ?_; clear hmk; rintro e w5 ⟨Bh, Fh, x, rfl, hG⟩
  obtain ⟨ya, yc, us2, rfl, _⟩ := hG.x
  have hH5 := one_low hG.s (H3.out.b.trans (HB4.out.mono H3.out.b.size))
  have hG5 := (H3.out.below HB4.out).below hG.s.b
  clear hG HB4 H3
  go_upto_region 5 with fail
  have h6 : AwI w (w5.alloc (.cells #[.slice ya RB.length yc] 32)) Bg Fg Bh Fh := AwI.below ⟨hG5, hH5⟩ (below1 w5 (.cells #[.slice ya RB.length yc] 32))
  clear hG5 hH5
  generalize w5.alloc (.cells #[.slice ya RB.length yc] 32) = w6 at *
  have hc := plan_o (h6.below (below1 w6 (.cells #[.int .i64 1] 3))).g (some ⟨w6.heap.size, 0, none⟩) 1 [1] (lit_rg w6 [1] (by decide)) (by decide)
  simp only [List.length_cons, List.length_nil, Nat.reduceAdd, List.map_cons, List.map_nil] at hc
  have hb0 := below1 w6 (.cells #[.int .i64 1] 3)
  have H6 := Lib.hid (h6.below hb0)
  clear hb0 h6
  go_wp2_with fail
  refine hc.mono ?_; clear hc; rintro e w7 ⟨S, hS, u, l, s, rfl, ho, hO, hs, hb⟩
  obtain rfl := hS.uniq stA1
  obtain rfl := hO.uniq ordA1
  obtain rfl := s_no hs (by decide)
  simp only [ecir, Bool.false_eq_true, if_false, if_true, id_eq] at ho ⊢
  obtain ⟨al, cl, rfl, _, hl⟩ := ho.reads (by decide)
  have h7 := H6.out.below hb
  clear hb H6 ho hO hs hS
  have Kl := Lib.hid hl
  clear hl
  simp only [List.length_cons, List.length_nil, Nat.reduceAdd, List.map_cons, List.map_nil]
  have hc := run_l (h7.below (below2 w7 (.cells #[.int .i64 0] 3) (.cells #[.bool true, .bool false, .bool true] 4))).g (some ⟨w7.heap.size, 0, none⟩) 1 [0] ((lit_rg w7 [0] (by decide)).below (below1 _ _)) (by decide) (some ⟨w7.heap.size + 1, 0, none⟩) 3 [true, false, true] (by have := lit_rb (w7.alloc (.cells #[.int .i64 0] 3)) [true, false, true]; simpa using this)
  simp only [List.length_cons, List.length_nil, Nat.reduceAdd, List.map_cons, List.map_nil] at hc
  have hb0 := below2 w7 (.cells #[.int .i64 0] 3) (.cells #[.bool true, .bool false, .bool true] 4)
  have H7 := Lib.hid (h7.below hb0)
  have Kl_ := Lib.hid (Kl.out.below hb0)
  clear Kl
  have Kl := Kl_
  clear Kl_
  clear hb0 h7
  go_wp2_with fail
  refine hc.mono ?_; clear hc; rintro e w8 ⟨S, hS, v, u, l, s, rfl, ho, ho2, hO, hs, hb⟩
  obtain rfl := hS.uniq stA0
  obtain rfl := hO.uniq ordA0
  obtain rfl := s_no hs (by decide)
  rw [show don RA [0] (chv [true, false, true]) (if false = true then [] else [0, 1, 2]) = [0, 1] by decide] at ho ho2
  obtain ⟨va, vc, rfl, _, hv⟩ := ho.reads (by decide)
  obtain ⟨ua, uc, rfl, _, hu⟩ := ho2.reads (by decide)
  simp only [ecir, Bool.false_eq_true, if_false, if_true]
  have h8 := H7.out.below hb
  have Kl_ := Lib.hid (Kl.out.below hb)
  clear Kl
  have Kl := Kl_
  clear Kl_
  clear hb H7 ho ho2 hO hs hS
  simp only [List.length_cons, List.length_nil, Nat.reduceAdd, List.map_cons, List.map_nil]
  go_upto_region 7 with fail
  have hba := below1 w8 (.cells #[.slice va 2 vc, .slice ua 2 uc] 41)
  have Ka : Hid (Got (w8.alloc (.cells #[.slice va 2 vc, .slice ua 2 uc] 41)) w8.heap.size va ua vc uc [0, 1]) := ⟨by simp [go_sem], by simp [go_sem], hv.below hba, hu.below hba⟩
  have H8 := Lib.hid (h8.below hba)
  have Kl_ := Lib.hid (Kl.out.below hba)
  clear Kl
  have Kl := Kl_
  clear Kl_
  obtain ⟨ba, hbae⟩ : ∃ ba, ba = w8.heap.size := ⟨_, rfl⟩
  rw [← hbae] at Ka ⊢
  clear hv hu h8 hba hbae
  generalize w8.alloc (.cells #[.slice va 2 vc, .slice ua 2 uc] 41) = w9 at *
  have h9 := H8.out
  clear H8
  have hc := run_n (h9.below (below1 w9 (.cells #[.int .i64 0] 3))).g (some ⟨w9.heap.size, 0, none⟩) 1 [0] (lit_rg w9 [0] (by decide)) (by decide)
  simp only [List.length_cons, List.length_nil, Nat.reduceAdd, List.map_cons, List.map_nil] at hc
  have hb0 := below1 w9 (.cells #[.int .i64 0] 3)
  have H9 := Lib.hid (h9.below hb0)
  have Kl_ := Lib.hid (Kl.out.below hb0)
  have Ka_ := Lib.hid (Ka.out.below hb0)
  clear Kl Ka
  have Kl := Kl_
  have Ka := Ka_
  clear Kl_ Ka_
  clear hb0 h9
  go_wp2_with fail
  refine hc.mono ?_; clear hc; rintro e w10 ⟨S, hS, u, l, s, rfl, ho, hO, hs, hb⟩
  obtain rfl := hS.uniq stA0
  obtain rfl := hO.uniq ordA0
  obtain rfl := s_no hs (by decide)
  rw [show don RA [0] (fun _ => true) (if false = true then [] else [0, 1, 2]) = [0, 1, 2] by decide] at ho
  simp only [ecir, Bool.false_eq_true, if_false, if_true]
  obtain ⟨ab, cb, rfl, _, hbl⟩ := ho.reads (by decide)
  have h10 := H9.out.below hb
  have Kl_ := Lib.hid (Kl.out.below hb)
  have Ka_ := Lib.hid (Ka.out.below hb)
  clear Kl Ka
  have Kl := Kl_
  have Ka := Ka_
  clear Kl_ Ka_
  clear hb H9 ho hO hs hS
  have Kb := Lib.hid hbl
  clear hbl
  simp only [List.length_cons, List.length_nil, Nat.reduceAdd, List.map_cons, List.map_nil]
  have hc := plan_o (h10.below (below1 w10 (.cells #[.int .i64 0] 3))).h (some ⟨w10.heap.size, 0, none⟩) 1 [0] (lit_rg w10 [0] (by decide)) (by decide)
  simp only [List.length_cons, List.length_nil, Nat.reduceAdd, List.map_cons, List.map_nil] at hc
  have hb0 := below1 w10 (.cells #[.int .i64 0] 3)
  have H10 := Lib.hid (h10.below hb0)
  have Kl_ := Lib.hid (Kl.out.below hb0)
  have Ka_ := Lib.hid (Ka.out.below hb0)
  have Kb_ := Lib.hid (Kb.out.below hb0)
  clear Kl Ka Kb
  have Kl := Kl_
  have Ka := Ka_
  have Kb := Kb_
  clear Kl_ Ka_ Kb_
  clear hb0 h10
  go_wp2_with fail
  refine hc.mono ?_; clear hc; rintro e w11 ⟨S, hS, u, l, s, rfl, ho, hO, hs, hb⟩
  obtain rfl := hS.uniq stB0
  obtain rfl := hO.uniq ordB0
  obtain rfl := s_yes hs (by decide)
  simp only [ecir, Bool.false_eq_true, if_false, if_true, id_eq] at ho ⊢
  obtain ⟨aj, cj, rfl⟩ := (ownsRow_slc ho).form
  have h11 := H10.out.below hb
  have Kl_ := Lib.hid (Kl.out.below hb)
  have Ka_ := Lib.hid (Ka.out.below hb)
  have Kb_ := Lib.hid (Kb.out.below hb)
  clear Kl Ka Kb
  have Kl := Kl_
  have Ka := Ka_
  have Kb := Kb_
  clear Kl_ Ka_ Kb_
  clear hb H10 ho hO hs hS
  simp only [List.length_cons, List.length_nil, Nat.reduceAdd, List.map_cons, List.map_nil]
  have hsm := same_any al (some ⟨w11.heap.size, 0, none⟩) cl 2 [1, 2] [1, 2] _ (Kl.out.below (below1 w11 (.cells #[.int .i64 1, .int .i64 2] 3))) (lit_rg w11 [1, 2] (by decide)) (by decide)
  rw [show decide (([1, 2] : List Int) = [1, 2]) = true by decide] at hsm
  simp only [List.length_cons, List.length_nil, Nat.reduceAdd, List.map_cons, List.map_nil] at hsm ⊢
  clear Kl
  have hb0 := below1 w11 (.cells #[.int .i64 1, .int .i64 2] 3)
  have H11 := Lib.hid (h11.below hb0)
  have Ka_ := Lib.hid (Ka.out.below hb0)
  have Kb_ := Lib.hid (Kb.out.below hb0)
  clear Ka Kb
  have Ka := Ka_
  have Kb := Kb_
  clear Ka_ Kb_
  clear hb0 h11
  go_wp2_with fail
  refine hsm.mono ?_; clear hsm; rintro e w12 ⟨rfl, hb⟩
  have h12 := H11.out.below hb
  have Ka_ := Lib.hid (Ka.out.below hb)
  have Kb_ := Lib.hid (Kb.out.below hb)
  clear Ka Kb
  have Ka := Ka_
  have Kb := Kb_
  clear Ka_ Kb_
  clear hb H11
  obtain ⟨g0, g1, gv, gu⟩ := Ka.out
  have hsm := same_any va (some ⟨w12.heap.size, 0, none⟩) vc 2 [0, 1] [0, 1] _ (gv.below (below1 w12 (.cells #[.int .i64 0, .int .i64 1] 3))) (lit_rg w12 [0, 1] (by decide)) (by decide)
  rw [show decide (([0, 1] : List Int) = [0, 1]) = true by decide] at hsm
  simp only [List.length_cons, List.length_nil, Nat.reduceAdd, List.map_cons, List.map_nil] at hsm ⊢
  simp only [List.length_cons, List.length_nil, Nat.reduceAdd, List.map_cons, List.map_nil] at g0 g1
  have g0' := ((below1 w12 (.cells #[.int .i64 0, .int .i64 1] 3)).cell (p := ⟨ba, 0, none⟩) (World.block_lt_of_cell? _ _ g0)).trans g0
  clear g1 gv gu
  have hb0 := below1 w12 (.cells #[.int .i64 0, .int .i64 1] 3)
  have H12 := Lib.hid (h12.below hb0)
  have Ka_ := Lib.hid (Ka.out.below hb0)
  have Kb_ := Lib.hid (Kb.out.below hb0)
  clear Ka Kb
  have Ka := Ka_
  have Kb := Kb_
  clear Ka_ Kb_
  clear hb0 h12
  go_wp2_with fail
  refine hsm.mono ?_; clear hsm; rintro e w13 ⟨rfl, hb⟩
  clear g0 g0'
  have h13 := H12.out.below hb
  have Ka_ := Lib.hid (Ka.out.below hb)
  have Kb_ := Lib.hid (Kb.out.below hb)
  clear Ka Kb
  have Ka := Ka_
  have Kb := Kb_
  clear Ka_ Kb_
  clear hb H12
  obtain ⟨g0, g1, gv, gu⟩ := Ka.out
  simp only [List.length_cons, List.length_nil, Nat.reduceAdd, List.map_cons, List.map_nil] at g0 g1
  have hsm := same_any ua va uc vc [0, 1] [0, 1] _ gu gv (by decide)
  rw [show decide (([0, 1] : List Int) = [0, 1]) = true by decide] at hsm
  simp only [List.length_cons, List.length_nil, Nat.reduceAdd, List.map_cons, List.map_nil] at hsm ⊢
  clear gv gu Ka
  have H13 := Lib.hid h13
  clear h13
  go_wp2_with fail
  refine hsm.mono ?_; clear hsm; rintro e w14 ⟨rfl, hb⟩
  clear g0 g1
  have h14 := H13.out.below hb
  have Kb_ := Lib.hid (Kb.out.below hb)
  clear Kb
  have Kb := Kb_
  clear Kb_
  clear hb H13
  have hsm := same_any ab (some ⟨w14.heap.size, 0, none⟩) cb 3 [0, 1, 2] [0, 1, 2] _ (Kb.out.below (below1 w14 (.cells #[.int .i64 0, .int .i64 1, .int .i64 2] 3))) (lit_rg w14 [0, 1, 2] (by decide)) (by decide)
  rw [show decide (([0, 1, 2] : List Int) = [0, 1, 2]) = true by decide] at hsm
  simp only [List.length_cons, List.length_nil, Nat.reduceAdd, List.map_cons, List.map_nil] at hsm ⊢
  clear Kb
  have hb0 := below1 w14 (.cells #[.int .i64 0, .int .i64 1, .int .i64 2] 3)
  have H14 := Lib.hid (h14.below hb0)
  clear hb0 h14
  go_wp2_with fail
  refine hsm.mono ?_; clear hsm; rintro e w15 ⟨rfl, hb⟩
  have h15 := H14.out.below hb
  clear hb H14
  have HEND := Lib.hid h15.g.b
  clear h15
  go_wp2_with fail
  go_ret
  exact ⟨rfl, HEND.out⟩
/- What the walk of a law of layer 15 carries. No conditions. -/
/-- The graph, the document's, the case's block, its rows. -/
structure LawW (w wk : World) (B : Nat) (R : List (List Int)) (F : Nat → Prop) (xa : Option Addr) (xc bx bc : Nat) (fa : Option Addr) (fc : Nat) (D : List Int) (ta : Option Addr) (tc : Nat) (T : List Bool) : Prop where
  g : BothG w wk B R F (.agg #[.slice xa R.length xc])
  cx : wk.cell? ⟨bx, 0, none⟩ = some (.slice xa R.length xc)
  c0 : wk.cell? ⟨bc, 0, none⟩ = some (.slice fa D.length fc)
  c1 : wk.cell? ⟨bc, 1, none⟩ = some (.slice ta T.length tc)
  d : Reads wk fa D
  t : ReadsB wk ta T
section
variable {w wk w' w1 w2 : World} {B : Nat} {R : List (List Int)} {F : Nat → Prop} {xa fa ta : Option Addr} {xc bx bc fc tc : Nat} {D : List Int} {T : List Bool}
theorem LawW.below (h : LawW w wk B R F xa xc bx bc fa fc D ta tc T) (hb : Below wk.heap.size wk w') : LawW w w' B R F xa xc bx bc fa fc D ta tc T :=
  ⟨h.g.below hb, (hb.cell (p := ⟨bx, 0, none⟩) (World.block_lt_of_cell? _ _ h.cx)).trans h.cx, (hb.cell (p := ⟨bc, 0, none⟩) (World.block_lt_of_cell? _ _ h.c0)).trans h.c0, (hb.cell (p := ⟨bc, 1, none⟩) (World.block_lt_of_cell? _ _ h.c1)).trans h.c1, h.d.below hb, h.t.below hb⟩
theorem LawW.start (hr : Reads w fa D) (ht : ReadsB w ta T) (h1 : Below (w.alloc (.cells #[.slice fa D.length fc, .slice ta T.length tc] 26)).heap.size (w.alloc (.cells #[.slice fa D.length fc, .slice ta T.length tc] 26)) w1) (hG : BothG w1 w2 B R F (.agg #[.slice xa R.length xc])) :
    LawW w (w2.alloc (.cells #[.slice xa R.length xc] 32)) B R F xa xc w2.heap.size w.heap.size fa fc D ta tc T := by
  have b0 := below1 w (.cells #[.slice fa D.length fc, .slice ta T.length tc] 26)
  have b1 := b0.trans (h1.mono b0.size)
  have b2 := b1.trans (hG.s.b.mono b1.size)
  have b3 := b2.trans ((below1 w2 (.cells #[.slice xa R.length xc] 32)).mono b2.size)
  have bb := h1.trans ((hG.s.b.trans ((below1 w2 (.cells #[.slice xa R.length xc] 32)).mono hG.s.b.size)).mono h1.size)
  have hs : w.heap.size < (w.alloc (.cells #[.slice fa D.length fc, .slice ta T.length tc] 26)).heap.size := by simp
  exact ⟨(⟨one_low hG.s b1, hG.x⟩ : BothG w w2 B R F _).below (below1 w2 _), by simp [go_sem], (bb.cell (p := ⟨w.heap.size, 0, none⟩) hs).trans (by simp [go_sem]), (bb.cell (p := ⟨w.heap.size, 1, none⟩) hs).trans (by simp [go_sem]), hr.below b3, ht.below b3⟩
theorem pl_inr {L l : List Int} (hI : GrI R) (h : IsOrd R (sel R.length L) l) (s : Bool) : ∀ z ∈ (if s = true then [] else l), InR z := fun z hz => by
  have := pl_gnd h s z hz
  have := hI.hi
  unfold gnd at *; unfold InR; omega
theorem don_inr {ch : Int → Bool} {p : List Int} (h : ∀ z ∈ p, InR z) : ∀ z ∈ don R D ch p, InR z := fun z hz => h z (don_of hz)
end
end Go.Proofs.YtbaeanpdjdcheaaGreat
