/-
  The nearest whole number to a quotient, in plain words; lengths of quotients. No conditions. Plain words for walks over blocks of two cells that are made, stored to and read (gavelkindref03). No conditions. What the document's own Div answers, with its parts named; the least digit. The condition: at most 400 digits. What the document's own greatest common divisor (gavelkindref04) answers. The condition: whole numbers of at most 300 digits, the first above 0, the second not below it.
-/
import Derived.Test.YtebjmnppeohdiaaRefN
import Derived.Test.YtebjmnppeohdiaaWid
import Derived.Test.YtebjmnppeohdiaaRt1
import Derived.Test.YtebjmnppeohdiaaRf2
import Derived.Deep.DeepCutAuto
import Derived.Deep.RegionWith
import Derived.Deep.LoopGhost
namespace Go.Proofs.Ytebjmnppeohdiaa
open Go.RowKit
set_option linter.unusedSimpArgs false
set_option linter.unusedVariables false

/- The nearest whole number to a quotient, in plain words; lengths of quotients. No conditions. -/
theorem div_abs (x d : Int) : (x / d).natAbs ≤ x.natAbs := Int.natAbs_ediv_le_natAbs x d
theorem div_len {x d : Int} {k : Nat} (h : (digs x.natAbs).length ≤ k) : (digs (x / d).natAbs).length ≤ k := Nat.le_trans (digs_len_mono (div_abs x d)) h
theorem mod_len {x d : Int} (hd : InR d) (h0 : 0 < d) : (digs (x % d).natAbs).length ≤ 19 := by
  refine digs_19 ?_
  have h1 := Int.emod_nonneg x (by omega : d ≠ 0)
  have h2 := Int.emod_lt_of_pos x h0
  unfold InR at hd ⊢; omega
theorem one_len : (digs (1 : Int).natAbs).length ≤ 19 := digs_19 (by unfold InR; omega)
theorem up_len {q : Int} {k : Nat} (h : (digs q.natAbs).length ≤ k) (hk : 19 ≤ k) : (digs (q + 1).natAbs).length ≤ k + 1 := digs_len_plus h (Nat.le_trans one_len hk)
theorem near_len {x d : Int} {k : Nat} (h : (digs x.natAbs).length ≤ k) (hk : 19 ≤ k) : (digs (nearv x d).natAbs).length ≤ k + 1 := by
  unfold nearv; split
  · exact up_len (div_len h) hk
  · exact Nat.le_trans (div_len h) (Nat.le_succ _)

/-- The last digit tells whether a number is odd. -/
theorem odd_digit (q : Int) : (if 0 < (digs q.natAbs).length then decide (((digs q.natAbs).getD 0 0) % 2 = 1) else false) = decide (q % 2 = 1) := by
  by_cases h : q.natAbs = 0
  · have : q = 0 := by omega
    subst this; simp [digs_zero]
  · rw [if_pos (digs_pos_len h), digs_pos h]
    simp only [List.getD_cons_zero]
    by_cases h1 : q % 2 = 1
    · rw [decide_eq_true h1, decide_eq_true (by omega)]
    · rw [decide_eq_false h1, decide_eq_false (by omega)]
/- Plain words for walks over blocks of two cells that are made, stored to and read (gavelkindref03). No conditions. -/
theorem Big.put {w : World} {v p q : Value} {x : Int} {B : Nat} {s : Bool} {a : Option Addr} {l c : Nat} (h : Big w v x) (h0 : At2 w B (.bool s) (.slice a l c)) :
    Big ((w.setCell ⟨B, 0, none⟩ p).setCell ⟨B, 1, none⟩ q) v x := h.set2 h0.1 h0.2.1
theorem Big.drawn {w : World} {v : Value} {x : Int} (h : Big w v x) : Big w.drew v x := h.below (Below.refl _ _).drew
/- What the document's own Div answers, with its parts named; the least digit. The condition: at most 400 digits. -/
theorem bdiv_w {x d : Int} (w : World) (v v' : Value) (hv : Big w v x) (hv' : Big w v' d) (hd : 0 < d) (hl : (digs x.natAbs).length ≤ 400) (hl' : (digs d.natAbs).length ≤ 400) :
    Calls Try.prog 66 #[v, v'] w fun e w' => ∃ a c b f, e = .returned (.tuple #[.agg #[.bool (decide (x / d < 0)), .slice a (digs (x / d).natAbs).length c], .agg #[.bool (decide (x % d < 0)), .slice b (digs (x % d).natAbs).length f]]) ∧
      Big w' (.agg #[.bool (decide (x / d < 0)), .slice a (digs (x / d).natAbs).length c]) (x / d) ∧ Big w' (.agg #[.bool (decide (x % d < 0)), .slice b (digs (x % d).natAbs).length f]) (x % d) ∧ Below w.heap.size w w' := by
  refine (bdiv v v' x d w hv hv' hd hl hl').mono ?_
  rintro e w' ⟨u1, u2, rfl, h1, h2, hb⟩
  obtain ⟨a, c, rfl⟩ := h1.form
  obtain ⟨b, f, rfl⟩ := h2.form
  exact ⟨a, c, b, f, rfl, h1, h2, hb⟩
/-- The least digit, and where it lies. -/
theorem Big.low {w : World} {q : Int} {s : Bool} {a : Option Addr} {l c : Nat} (h : Big w (.agg #[.bool s, .slice a l c]) q) :
    (l = 0 ∧ q % 2 = 0) ∨ (0 < l ∧ ∃ b off D, a = some ⟨b, off, none⟩ ∧ w.cell? ⟨b, off, none⟩ = some (.int .i64 D) ∧ 0 ≤ D ∧ D ≤ 9 ∧ D % 2 = q % 2) := by
  obtain ⟨u, hu, a', cap, h1, h2, h3, h4⟩ := h
  injection hu with hu; injection hu with hu; injection hu with hu1 hu2; injection hu2 with hu2 _
  subst hu2
  injection h1 with ha hl hc
  by_cases hq : q.natAbs = 0
  · left; rw [hq, digs_zero] at hl; exact ⟨by simpa using hl, by omega⟩
  · right
    have hp := digs_pos_len hq
    refine ⟨by omega, ?_⟩
    obtain ⟨b, off, hb, hcell⟩ := h4.2 0 hp
    rw [digs_pos hq, List.getD_cons_zero] at hcell
    exact ⟨b, off, _, ha.trans hb, hcell, by omega, by omega, by omega⟩

/- What the document's own greatest common divisor (gavelkindref04) answers. The condition: whole numbers of at most 300 digits, the first above 0, the second not below it. -/
theorem nat_neg (A : Nat) : decide ((A : Int) < 0) = false := decide_eq_false (by omega)
theorem bdiv_n (A B : Nat) (w : World) (v v' : Value) (hv : Big w v (A : Int)) (hv' : Big w v' (B : Int)) (hd : 0 < B) (hl : (digs A).length ≤ 400) (hl' : (digs B).length ≤ 400) :
    Calls Try.prog 66 #[v, v'] w fun e w' => ∃ a c b f, e = .returned (.tuple #[.agg #[.bool false, .slice a (digs (A / B)).length c], .agg #[.bool false, .slice b (digs (A % B)).length f]]) ∧
      Big w' (.agg #[.bool false, .slice a (digs (A / B)).length c]) ((A / B : Nat) : Int) ∧ Big w' (.agg #[.bool false, .slice b (digs (A % B)).length f]) ((A % B : Nat) : Int) ∧ Below w.heap.size w w' := by
  have h := bdiv_w w v v' hv hv' (by omega) (by rw [Int.natAbs_natCast]; exact hl) (by rw [Int.natAbs_natCast]; exact hl')
  rw [← Int.natCast_ediv, ← Int.natCast_emod, nat_neg, nat_neg, Int.natAbs_natCast, Int.natAbs_natCast] at h
  exact h

/-- What holds at the loop's head. -/
def GcdRel (w : World) (g k : Nat) (wr : World) : Prop := ∃ (A B : Nat) (a b : Option Addr) (c f : Nat), k = B ∧ 0 < A ∧ Nat.gcd A B = g ∧ (digs A).length ≤ 300 ∧ (digs B).length ≤ 300 ∧ Below w.heap.size w wr ∧
  Ow2 wr w.heap.size (.bool false) (.slice a (digs A).length c) ∧ Ow2 wr (w.heap.size + 1) (.bool false) (.slice b (digs B).length f) ∧ Ow2 wr (w.heap.size + 1 + 1) (.bool false) (.slice none 0 0) ∧
  Big wr (.agg #[.bool false, .slice a (digs A).length c]) (A : Int) ∧ Big wr (.agg #[.bool false, .slice b (digs B).length f]) (B : Int)

set_option maxHeartbeats 4000000 in
set_option maxRecDepth 100000 in
theorem rdivisor_any (X Y : Nat) (v v' : Value) (w : World) (hv : Big w v (X : Int)) (hv' : Big w v' (Y : Int)) (hx : 0 < X) (hl : (digs X).length ≤ 300) (hl' : (digs Y).length ≤ 300) :
    Calls Try.prog 65 #[v, v'] w fun e w' => ∃ u, e = .returned u ∧ Big w' u ((Nat.gcd X Y : Nat) : Int) ∧ Below w.heap.size w w' := by
  obtain ⟨a0, c0, rfl⟩ := hv.form
  obtain ⟨b0, f0, rfl⟩ := hv'.form
  rw [nat_neg, Int.natAbs_natCast] at hv hv' ⊢
  rw [nat_neg, Int.natAbs_natCast]
  have H0 : Hid (GcdRel w (Nat.gcd X Y) Y (((w.alloc (.cells #[.bool false, .slice a0 (digs X).length c0] 88)).alloc (.cells #[.bool false, .slice b0 (digs Y).length f0] 88)).alloc (.cells #[.bool false, .slice none 0 0] 88))) :=
    ⟨X, Y, a0, b0, c0, f0, rfl, hx, rfl, hl, hl', below3 _ _ _ _, ((Ow2.new w _ _ _).alloc _).alloc _, (Ow2.new2 w _ _ _ _).alloc _, Ow2.new3 w _ _ _ _ _, ((hv.alloc _).alloc _).alloc _, ((hv'.alloc _).alloc _).alloc _⟩
  generalize Nat.gcd X Y = g at *
  generalize (digs X).length = lx at *; generalize (digs Y).length = ly at *
  clear hv hv' hl hl' hx
  go_enter Try.func65, Try.ntmps65
  go_wp2_with fail
  go_loopg [5] Y (fun k p wr => GcdRel w g k wr)
  case atStart => exact H0.out
  case round =>
    clear H0
    obtain ⟨A, B, a, b, c, f, hk, hA, hg, lA, lB, hb, oa, ob, oc, ra, rb⟩ := hrel
    have HO := Lib.hid (And.intro oa (And.intro ob oc))
    have HB := Lib.hid (And.intro ra rb)
    clear ra rb
    by_cases hz : B = 0
    · subst hz
      have HG : Hid (A = g) := by rw [← hg]; exact (Nat.gcd_zero_right A).symm
      have e0 : (digs 0).length = 0 := by simp [digs_zero]
      rw [e0] at ob
      obtain ⟨⟨a1, a2, a3⟩, a4, a5⟩ := oa
      obtain ⟨⟨b1, b2, b3⟩, b4, b5⟩ := ob
      obtain ⟨⟨c1, c2, c3⟩, c4, c5⟩ := oc
      clear hg lA lB
      generalize (digs A).length = la at *
      go_wp2_with fail
      refine bodyPost_ret (v := .agg #[.bool false, .slice a la c]) (by simp [results, Try.results65, go_sem, c1, c2]) rfl ⟨_, rfl, ?_, ?_⟩
      · rw [← HG.out]; exact HB.out.1.put HO.out.2.2.at
      · exact (hb.setCell (by show _ ≤ w.heap.size + 1 + 1; omega) _).setCell (by show _ ≤ w.heap.size + 1 + 1; omega) _
    · have hpos : 0 < (digs B).length := by have := digs_pos_len hz; exact this
      have hD := fun (w : World) (v v' : Value) (h : Big w v (A : Int)) (h' : Big w v' (B : Int)) => bdiv_n A B w v v' h h' (by omega) (by omega) (by omega)
      have lr : (digs (A % B)).length ≤ 300 := Nat.le_trans (digs_len_mono (Nat.le_of_lt (Nat.mod_lt A (by omega)))) lB
      have HG : Hid (Nat.gcd B (A % B) = g ∧ (digs B).length ≤ 300 ∧ (digs (A % B)).length ≤ 300 ∧ A % B < B ∧ gk = B ∧ 0 < B) := by
        refine ⟨?_, lB, lr, Nat.mod_lt A (by omega), hk, by omega⟩
        rw [← hg, Nat.gcd_comm A B, Nat.gcd_rec B A, Nat.gcd_comm]
      clear hg hA lA lB lr hk hz
      obtain ⟨⟨a1, a2, a3⟩, a4, a5⟩ := oa
      obtain ⟨⟨b1, b2, b3⟩, b4, b5⟩ := ob
      generalize hla : (digs A).length = la at *; generalize hlb : (digs B).length = lb at *
      generalize hlq : (digs (A / B)).length = lq at *; generalize hlr : (digs (A % B)).length = lr at *
      have HL := Lib.hid (And.intro hlb hlr)
      clear hla hlb hlq hlr oc
      have hp2 : decide (lb = 0) = false := decide_eq_false (by omega)
      go_wp2_with fail
      refine (hD _ _ _ HB.out.1 HB.out.2).mono ?_; rintro e w1 ⟨aq, cq, ar, cr, rfl, rq, rr, hb1⟩
      obtain ⟨⟨a1', a2', a3'⟩, a4', a5'⟩ := HO.out.1.below hb1
      obtain ⟨⟨b1', b2', b3'⟩, b4', b5'⟩ := HO.out.2.1.below hb1
      clear a1 a2 a3 a4 a5 b1 b2 b3 b4 b5
      go_wp2_with fail
      go_roundg (A % B)
      case measure => have := HG.out; omega
      case rel =>
        obtain ⟨g1, g2, g3, g4, g5, g6⟩ := HG.out
        obtain ⟨e1, e2⟩ := HL.out
        have o1 := HO.out.1.below hb1; have o2 := HO.out.2.1.below hb1; have o3 := HO.out.2.2.below hb1
        have j := hb.trans (hb1.mono hb.size)
        have hsz := o3.at.2.2
        have i1 : w.heap.size ≠ w.heap.size + 1 := by omega
        have i2 : w.heap.size + 1 ≠ w.heap.size := by omega
        have i3 : w.heap.size + 1 + 1 ≠ w.heap.size := by omega
        have i4 : w.heap.size + 1 + 1 ≠ w.heap.size + 1 := by omega
        refine ⟨B, A % B, b, ar, f, cr, rfl, g6, g1, by rw [e1]; exact g2, by rw [e2]; exact g3, ?_, ?_, ?_, ?_, ?_, ?_⟩
        · have k2 := (below_set2 (p := .bool false) (q := .slice b lb f) j (Nat.le_refl _)) |> fun h => below_set2 (k := w.heap.size + 1) (p := .bool false) (q := .slice ar lr cr) h (by omega)
          exact (k2.alloc k2.size _).alloc (k2.alloc k2.size _).size _
        · rw [e1]; exact ((o1.put.setne i1).alloc _).alloc _
        · rw [e2]; exact ((o2.setne i2).put.alloc _).alloc _
        · exact (((o3.setne i3).setne i4).alloc _).alloc _
        · rw [e1]; exact ((((HB.out.2.below hb1).put o1.at).put (o2.setne i2).at).alloc _).alloc _
        · rw [e2]; exact (((rr.put o1.at).put (o2.setne i2).at).alloc _).alloc _
end Go.Proofs.Ytebjmnppeohdiaa
