/-
  The document's Children, Leaf, Leaves and Under of layer 20. The condition: at most 1000 accounts.
-/
import Derived.Test.YteendpdidkekkaaR20a
import Derived.Test.YteendpdidkekkaaFrsB0
import Derived.Deep.QuietTactic
import Derived.BigQuiet
import Derived.WalkSmall
import Derived.Deep.DeepCutAuto
import Derived.Deep.RegionHeld3
namespace Go.Proofs.Yteendpdidkekkaa
open Go.RowKit
set_option linter.unusedSimpArgs false
set_option linter.unusedVariables false

set_option maxHeartbeats 4000000 in
set_option maxRecDepth 100000 in
theorem r20children_y (a : Option Addr) (c : Nat) (L : List AcT) (y : Int) (w : World) (hL : RdA w a L) (hn : L.length ≤ 1000) (hy : Ent (L.length : Int) y) :
    Calls Try.prog 13 #[.slice a L.length c, .int .i64 y] w fun e w' => ∃ v, e = .returned v ∧ Own w' w.heap.size v (flt L.length (fun x => decide (pa L x = y))) ∧ Below w.heap.size w w' := by
  have HL := Lib.hid hL
  have HN := Lib.hid hn
  have HYY := Lib.hid hy
  clear hy
  clear hL hn
  go_enter Try.func13, Try.ntmps13
  go_wp2_with fail
  go_loopw [5, 6] (fun vl vi wr => ∃ k : Nat, k ≤ L.length ∧ vi = .int .i64 ((k : Int)) ∧ Own wr w.heap.size vl (flt k (fun x => decide (pa L x = y))) ∧ Below w.heap.size w wr) (fun _ vi _ => ((L.length : Int) + 0 - RowKit.intOf vi).toNat)
  case atStart => exact ⟨0, Nat.zero_le _, rfl, Own.nil _ _, Below.refl _ _⟩
  case round =>
    obtain ⟨k, hk, rfl, ho, hb⟩ := hrel
    have HO := Lib.hid ho
    have HB := Lib.hid hb
    by_cases hlt : k < L.length
    · have t0 : decide ((k : Int) < (L.length : Int)) = true := decide_eq_true (by omega)
      have hk40 : k < 1000 := by have := HN.out; omega
      have HEN : Hid (Ent (L.length : Int) ((k : Int) + 1)) := ⟨by omega, by omega⟩
      have HYE : Hid ((fun x => decide (pa L x = y)) ((k : Int) + 1) = true → flt (k + 1) (fun x => decide (pa L x = y)) = flt k (fun x => decide (pa L x = y)) ++ [(k : Int) + 1]) := fun q => flt_yes (k := k) q
      have HNO : Hid ((fun x => decide (pa L x = y)) ((k : Int) + 1) = false → flt (k + 1) (fun x => decide (pa L x = y)) = flt k (fun x => decide (pa L x = y))) := fun q => flt_no (k := k) q
      have hlen : (flt k (fun x => decide (pa L x = y))).length ≤ 1000 := by have := flt_len k (fun x => decide (pa L x = y)); omega
      have HR : Hid (∀ vl w', Own w' w.heap.size vl (flt (k + 1) (fun x => decide (pa L x = y))) → Below w.heap.size w w' → ∃ k' : Nat, k' ≤ L.length ∧ Value.int .i64 ((k : Int) + 1) = .int .i64 ((k' : Int)) ∧ Own w' w.heap.size vl (flt k' (fun x => decide (pa L x = y))) ∧ Below w.heap.size w w') := fun vl w' h1 h2 => ⟨k + 1, by omega, rfl, h1, h2⟩
      have HM : Hid (((L.length : Int) + 0 - ((k : Int) + 1)).toNat < ((L.length : Int) + 0 - ((k : Int))).toNat) := by show _ < _; omega
      (try dsimp only at HYE HNO)
      have hIs := r20is a L.length c y wr
      rw [decide_eq_true HYY.out] at hIs
      obtain ⟨b, off, rfl, d0, -⟩ := (HL.out.below hb).2 k hlt
      have i0 : (0 : Int) ≤ (k : Int) := by omega
      have i1 : (k : Int) < (L.length : Int) := by omega
      rw [pa_at hlt] at HYE HNO
      generalize (L.getD k zA).1 = p at *
      generalize flt k (fun x => decide (pa L x = y)) = F at *
      generalize flt (k + 1) (fun x => decide (pa L x = y)) = M at *
      have e1 : wrap64 ((k : Int) + 1) = (k : Int) + 1 := by unfold wrap64; omega
      clear ho hb hk
      by_cases ht : p = y
      · have t1 : (p == y) = true := by simpa using ht
        have HM2 := Lib.hid (HYE.out (by simpa using ht))
        clear HYE HNO
        have HO1 := HO
        have HB1 := HB
        clear ht
        go_wp2_with fail
        refine hIs.mono ?_; clear hIs; rintro e wn ⟨rfl, rfl⟩
        have hsz := HB1.out.size
        go_wp2_with (at_builtin; refine wp_push wr rfl (.tmp 25) (.tmp 28) rfl w.heap.size _ F ((k : Int) + 1) rfl HO1.out rfl (by omega) hsz ?_; intro v5 w5 ho5 hb5; rw [← HM2.out] at ho5; have HO5 := Lib.hid ho5; have HB5 : Hid (Below w.heap.size w w5) := HB1.out.trans hb5; clear ho5 hb5 hsz)
        go_roundw
        · (first | exact HR.out _ _ HO5.out HB5.out | (rw [e1]; exact HR.out _ _ HO5.out HB5.out))
        · (first | exact HM.out | (rw [e1]; exact HM.out) | (simp only [RowKit.intOf]; exact HM.out) | (rw [e1]; simp only [RowKit.intOf]; exact HM.out))
      · have t1 : (p == y) = false := by simpa using ht
        have HM2 := Lib.hid (HNO.out (by simpa using ht))
        clear HYE HNO
        have HO1 := HO
        have HB1 := HB
        clear ht
        go_wp2_with fail
        refine hIs.mono ?_; clear hIs; rintro e wn ⟨rfl, rfl⟩
        have ho5 := HO1.out
        rw [← HM2.out] at ho5
        have HO5 := Lib.hid ho5
        clear ho5
        have HB5 := HB1
        go_wp2_with fail
        go_roundw
        · (first | exact HR.out _ _ HO5.out HB5.out | (rw [e1]; exact HR.out _ _ HO5.out HB5.out))
        · (first | exact HM.out | (rw [e1]; exact HM.out) | (simp only [RowKit.intOf]; exact HM.out) | (rw [e1]; simp only [RowKit.intOf]; exact HM.out))
    · obtain rfl : k = L.length := by omega
      have t0 : decide ((L.length : Int) < (L.length : Int)) = false := decide_eq_false (by omega)
      clear ho hb hlt hk
      go_wp2_with fail
      go_ret
      exact ⟨_, rfl, HO.out, HB.out⟩
set_option maxHeartbeats 4000000 in
set_option maxRecDepth 100000 in
theorem r20children_n (a : Option Addr) (c : Nat) (L : List AcT) (y : Int) (w : World) (hL : RdA w a L) (hn : L.length ≤ 1000) (hy : ¬ Ent (L.length : Int) y) :
    Calls Try.prog 13 #[.slice a L.length c, .int .i64 y] w fun e w' => ∃ v, e = .returned v ∧ Own w' w.heap.size v (flt L.length (fun _ => false)) ∧ Below w.heap.size w w' := by
  have HL := Lib.hid hL
  have HN := Lib.hid hn
  have HYY := Lib.hid hy
  clear hy
  clear hL hn
  go_enter Try.func13, Try.ntmps13
  go_wp2_with fail
  go_loopw [5, 6] (fun vl vi wr => ∃ k : Nat, k ≤ L.length ∧ vi = .int .i64 ((k : Int)) ∧ Own wr w.heap.size vl (flt k (fun _ => false)) ∧ Below w.heap.size w wr) (fun _ vi _ => ((L.length : Int) + 0 - RowKit.intOf vi).toNat)
  case atStart => exact ⟨0, Nat.zero_le _, rfl, Own.nil _ _, Below.refl _ _⟩
  case round =>
    obtain ⟨k, hk, rfl, ho, hb⟩ := hrel
    have HO := Lib.hid ho
    have HB := Lib.hid hb
    by_cases hlt : k < L.length
    · have t0 : decide ((k : Int) < (L.length : Int)) = true := decide_eq_true (by omega)
      have hk40 : k < 1000 := by have := HN.out; omega
      have HEN : Hid (Ent (L.length : Int) ((k : Int) + 1)) := ⟨by omega, by omega⟩
      have HYE : Hid ((fun _ => false) ((k : Int) + 1) = true → flt (k + 1) (fun _ => false) = flt k (fun _ => false) ++ [(k : Int) + 1]) := fun q => flt_yes (k := k) q
      have HNO : Hid ((fun _ => false) ((k : Int) + 1) = false → flt (k + 1) (fun _ => false) = flt k (fun _ => false)) := fun q => flt_no (k := k) q
      have hlen : (flt k (fun _ => false)).length ≤ 1000 := by have := flt_len k (fun _ => false); omega
      have HR : Hid (∀ vl w', Own w' w.heap.size vl (flt (k + 1) (fun _ => false)) → Below w.heap.size w w' → ∃ k' : Nat, k' ≤ L.length ∧ Value.int .i64 ((k : Int) + 1) = .int .i64 ((k' : Int)) ∧ Own w' w.heap.size vl (flt k' (fun _ => false)) ∧ Below w.heap.size w w') := fun vl w' h1 h2 => ⟨k + 1, by omega, rfl, h1, h2⟩
      have HM : Hid (((L.length : Int) + 0 - ((k : Int) + 1)).toNat < ((L.length : Int) + 0 - ((k : Int))).toNat) := by show _ < _; omega
      (try dsimp only at HYE HNO)
      have hIs := r20is a L.length c y wr
      rw [decide_eq_false HYY.out] at hIs
      generalize flt k (fun _ => false) = F at *
      generalize flt (k + 1) (fun _ => false) = M at *
      have e1 : wrap64 ((k : Int) + 1) = (k : Int) + 1 := by unfold wrap64; omega
      clear ho hb hk
      have HM2 := Lib.hid (HNO.out rfl)
      clear HYE HNO
      have HO1 := HO
      have HB1 := HB
      go_wp2_with fail
      refine hIs.mono ?_; clear hIs; rintro e wn ⟨rfl, rfl⟩
      have ho5 := HO1.out
      rw [← HM2.out] at ho5
      have HO5 := Lib.hid ho5
      clear ho5
      have HB5 := HB1
      go_wp2_with fail
      go_roundw
      · (first | exact HR.out _ _ HO5.out HB5.out | (rw [e1]; exact HR.out _ _ HO5.out HB5.out))
      · (first | exact HM.out | (rw [e1]; exact HM.out) | (simp only [RowKit.intOf]; exact HM.out) | (rw [e1]; simp only [RowKit.intOf]; exact HM.out))
    · obtain rfl : k = L.length := by omega
      have t0 : decide ((L.length : Int) < (L.length : Int)) = false := decide_eq_false (by omega)
      clear ho hb hlt hk
      go_wp2_with fail
      go_ret
      exact ⟨_, rfl, HO.out, HB.out⟩
theorem flt_nones (k : Nat) : flt k (fun _ => false) = [] := by unfold flt; simp
theorem r20children (a : Option Addr) (c : Nat) (L : List AcT) (y : Int) (w : World) (hL : RdA w a L) (hn : L.length ≤ 1000) :
    Calls Try.prog 13 #[.slice a L.length c, .int .i64 y] w fun e w' => ∃ v, e = .returned v ∧ Own w' w.heap.size v (chs L.length (pa L) y) ∧ Below w.heap.size w w' := by
  unfold chs
  by_cases hy : Ent (L.length : Int) y
  · rw [if_pos hy]; exact r20children_y a c L y w hL hn hy
  · rw [if_neg hy, ← flt_nones L.length]; exact r20children_n a c L y w hL hn hy
set_option maxHeartbeats 1000000 in
set_option maxRecDepth 100000 in
theorem r20leaf (a : Option Addr) (c : Nat) (L : List AcT) (y : Int) (w : World) (hL : RdA w a L) (hn : L.length ≤ 1000) :
    Calls Try.prog 15 #[.slice a L.length c, .int .i64 y] w fun e w' => e = .returned (.bool (lfa L.length (pa L) y)) ∧ Below w.heap.size w w' := by
  have hi := r20is a L.length c y w
  by_cases hy : Ent (L.length : Int) y
  · rw [decide_eq_true hy] at hi
    have hc := r20children a c L y w hL hn
    have HIN : Hid (∀ z ∈ chs L.length (pa L) y, InR z) := fun z hz => by
      unfold chs at hz; rw [if_pos hy] at hz; exact flt_in hn _ z hz
    have HE : lfa L.length (pa L) y = decide (chs L.length (pa L) y = []) := by unfold lfa chs; rw [decide_eq_true hy, if_pos hy]; rfl
    rw [HE]
    generalize chs L.length (pa L) y = U at *
    rw [← beq_len]
    obtain ⟨l, hl⟩ : ∃ l, U.length = l := ⟨_, rfl⟩
    have HLL := Lib.hid hl
    rw [hl]
    clear hL hn hy HE hl
    go_enter Try.func15, Try.ntmps15
    go_wp2_with fail
    refine hi.mono ?_; clear hi; rintro e wn ⟨rfl, rfl⟩
    go_wp2_with fail
    refine hc.mono ?_; clear hc; rintro e w1 ⟨v, rfl, ho, hb⟩
    have HB := Lib.hid hb
    obtain ⟨ra, rc, rfl, -, hR⟩ := ho.reads HIN.out
    rw [HLL.out]
    clear ho hb hR
    go_wp2_with fail
    go_ret
    exact ⟨rfl, HB.out⟩
  · rw [decide_eq_false hy] at hi
    have HE : lfa L.length (pa L) y = false := by unfold lfa; rw [decide_eq_false hy]; rfl
    rw [HE]
    clear hL hn hy HE
    go_enter Try.func15, Try.ntmps15
    go_wp2_with fail
    refine hi.mono ?_; clear hi; rintro e wn ⟨rfl, rfl⟩
    go_wp2_with fail
    go_ret
    exact ⟨rfl, Below.refl _ _⟩
set_option maxHeartbeats 4000000 in
set_option maxRecDepth 100000 in
theorem r20leaves_f (a : Option Addr) (c : Nat) (L : List AcT) (w : World) (hL : RdA w a L) (hn : L.length ≤ 1000) :
    Calls Try.prog 17 #[.slice a L.length c] w fun e w' => ∃ v, e = .returned v ∧ Own w' w.heap.size v (flt L.length (lfa L.length (pa L))) ∧ Below w.heap.size w w' := by
  have HL := Lib.hid hL
  have HN := Lib.hid hn
  clear hL hn
  go_enter Try.func17, Try.ntmps17
  go_wp2_with fail
  go_loopw [3, 4] (fun vl vi wr => ∃ k : Nat, k ≤ L.length ∧ vi = .int .i64 ((k : Int) + 1) ∧ Own wr w.heap.size vl (flt k (lfa L.length (pa L))) ∧ Below w.heap.size w wr) (fun _ vi _ => ((L.length : Int) + 1 - RowKit.intOf vi).toNat)
  case atStart => exact ⟨0, Nat.zero_le _, rfl, Own.nil _ _, Below.refl _ _⟩
  case round =>
    obtain ⟨k, hk, rfl, ho, hb⟩ := hrel
    have HO := Lib.hid ho
    have HB := Lib.hid hb
    by_cases hlt : k < L.length
    · have t0 : decide ((k : Int) + 1 ≤ (L.length : Int)) = true := decide_eq_true (by omega)
      have hk40 : k < 1000 := by have := HN.out; omega
      have HEN : Hid (Ent (L.length : Int) ((k : Int) + 1)) := ⟨by omega, by omega⟩
      have HYE : Hid ((lfa L.length (pa L)) ((k : Int) + 1) = true → flt (k + 1) (lfa L.length (pa L)) = flt k (lfa L.length (pa L)) ++ [(k : Int) + 1]) := fun q => flt_yes (k := k) q
      have HNO : Hid ((lfa L.length (pa L)) ((k : Int) + 1) = false → flt (k + 1) (lfa L.length (pa L)) = flt k (lfa L.length (pa L))) := fun q => flt_no (k := k) q
      have hlen : (flt k (lfa L.length (pa L))).length ≤ 1000 := by have := flt_len k (lfa L.length (pa L)); omega
      have HR : Hid (∀ vl w', Own w' w.heap.size vl (flt (k + 1) (lfa L.length (pa L))) → Below w.heap.size w w' → ∃ k' : Nat, k' ≤ L.length ∧ Value.int .i64 ((k : Int) + 1 + 1) = .int .i64 ((k' : Int) + 1) ∧ Own w' w.heap.size vl (flt k' (lfa L.length (pa L))) ∧ Below w.heap.size w w') := fun vl w' h1 h2 => ⟨k + 1, by omega, rfl, h1, h2⟩
      have HM : Hid (((L.length : Int) + 1 - ((k : Int) + 1 + 1)).toNat < ((L.length : Int) + 1 - ((k : Int) + 1)).toNat) := by show _ < _; omega
      have hlf := r20leaf a c L ((k : Int) + 1) wr (HL.out.below hb) HN.out
      generalize flt k (lfa L.length (pa L)) = F at *
      generalize flt (k + 1) (lfa L.length (pa L)) = M at *
      have e1 : wrap64 ((k : Int) + 1 + 1) = (k : Int) + 1 + 1 := by unfold wrap64; omega
      generalize (k : Int) + 1 = j at *
      clear ho hb hk hlt
      generalize lfa L.length (pa L) j = t at *
      cases t with
      | true =>
        have HM2 := Lib.hid (HYE.out rfl)
        clear HYE HNO
        go_wp2_with fail
        refine hlf.mono ?_; clear hlf; rintro e w1 ⟨rfl, hb1⟩
        have HO1 := Lib.hid (HO.out.below hb1)
        have HB1 : Hid (Below w.heap.size w w1) := HB.out.trans (hb1.mono HB.out.size)
        clear hb1
        have hsz := HB1.out.size
        go_wp2_with (at_builtin; refine wp_push w1 rfl (.tmp 14) (.tmp 16) rfl w.heap.size _ F (j) rfl HO1.out rfl (by omega) hsz ?_; intro v5 w5 ho5 hb5; rw [← HM2.out] at ho5; have HO5 := Lib.hid ho5; have HB5 : Hid (Below w.heap.size w w5) := HB1.out.trans hb5; clear ho5 hb5 hsz)
        go_roundw
        · (first | exact HR.out _ _ HO5.out HB5.out | (rw [e1]; exact HR.out _ _ HO5.out HB5.out))
        · (first | exact HM.out | (rw [e1]; exact HM.out) | (simp only [RowKit.intOf]; exact HM.out) | (rw [e1]; simp only [RowKit.intOf]; exact HM.out))
      | false =>
        have HM2 := Lib.hid (HNO.out rfl)
        clear HYE HNO
        go_wp2_with fail
        refine hlf.mono ?_; clear hlf; rintro e w1 ⟨rfl, hb1⟩
        have HO1 := Lib.hid (HO.out.below hb1)
        have HB1 : Hid (Below w.heap.size w w1) := HB.out.trans (hb1.mono HB.out.size)
        clear hb1
        have ho5 := HO1.out
        rw [← HM2.out] at ho5
        have HO5 := Lib.hid ho5
        clear ho5
        have HB5 := HB1
        go_wp2_with fail
        go_roundw
        · (first | exact HR.out _ _ HO5.out HB5.out | (rw [e1]; exact HR.out _ _ HO5.out HB5.out))
        · (first | exact HM.out | (rw [e1]; exact HM.out) | (simp only [RowKit.intOf]; exact HM.out) | (rw [e1]; simp only [RowKit.intOf]; exact HM.out))
    · obtain rfl : k = L.length := by omega
      have t0 : decide ((L.length : Int) + 1 ≤ (L.length : Int)) = false := decide_eq_false (by omega)
      generalize ((L.length : Nat) : Int) + 1 = j at *
      clear ho hb hlt hk
      go_wp2_with fail
      go_ret
      exact ⟨_, rfl, HO.out, HB.out⟩
set_option maxHeartbeats 4000000 in
set_option maxRecDepth 100000 in
theorem r20under_y (a : Option Addr) (c : Nat) (L : List AcT) (y : Int) (w : World) (hL : RdA w a L) (hn : L.length ≤ 1000) (hy : Ent (L.length : Int) y) :
    Calls Try.prog 21 #[.slice a L.length c, .int .i64 y] w fun e w' => ∃ v, e = .returned v ∧ Own w' w.heap.size v (flt L.length (unb L.length (pa L) y)) ∧ Below w.heap.size w w' := by
  have HL := Lib.hid hL
  have HN := Lib.hid hn
  have HYY := Lib.hid hy
  clear hy
  clear hL hn
  go_enter Try.func21, Try.ntmps21
  go_wp2_with fail
  go_loopw [5, 6] (fun vl vi wr => ∃ k : Nat, k ≤ L.length ∧ vi = .int .i64 ((k : Int) + 1) ∧ Own wr w.heap.size vl (flt k (unb L.length (pa L) y)) ∧ Below w.heap.size w wr) (fun _ vi _ => ((L.length : Int) + 1 - RowKit.intOf vi).toNat)
  case atStart => exact ⟨0, Nat.zero_le _, rfl, Own.nil _ _, Below.refl _ _⟩
  case round =>
    obtain ⟨k, hk, rfl, ho, hb⟩ := hrel
    have HO := Lib.hid ho
    have HB := Lib.hid hb
    by_cases hlt : k < L.length
    · have t0 : decide ((k : Int) + 1 ≤ (L.length : Int)) = true := decide_eq_true (by omega)
      have hk40 : k < 1000 := by have := HN.out; omega
      have HEN : Hid (Ent (L.length : Int) ((k : Int) + 1)) := ⟨by omega, by omega⟩
      have HYE : Hid ((unb L.length (pa L) y) ((k : Int) + 1) = true → flt (k + 1) (unb L.length (pa L) y) = flt k (unb L.length (pa L) y) ++ [(k : Int) + 1]) := fun q => flt_yes (k := k) q
      have HNO : Hid ((unb L.length (pa L) y) ((k : Int) + 1) = false → flt (k + 1) (unb L.length (pa L) y) = flt k (unb L.length (pa L) y)) := fun q => flt_no (k := k) q
      have hlen : (flt k (unb L.length (pa L) y)).length ≤ 1000 := by have := flt_len k (unb L.length (pa L) y); omega
      have HR : Hid (∀ vl w', Own w' w.heap.size vl (flt (k + 1) (unb L.length (pa L) y)) → Below w.heap.size w w' → ∃ k' : Nat, k' ≤ L.length ∧ Value.int .i64 ((k : Int) + 1 + 1) = .int .i64 ((k' : Int) + 1) ∧ Own w' w.heap.size vl (flt k' (unb L.length (pa L) y)) ∧ Below w.heap.size w w') := fun vl w' h1 h2 => ⟨k + 1, by omega, rfl, h1, h2⟩
      have HM : Hid (((L.length : Int) + 1 - ((k : Int) + 1 + 1)).toNat < ((L.length : Int) + 1 - ((k : Int) + 1)).toNat) := by show _ < _; omega
      have hIs := r20is a L.length c y wr
      rw [decide_eq_true HYY.out] at hIs
      have hlf := r20leaf a c L ((k : Int) + 1) wr (HL.out.below hb) HN.out
      have hlfe : lfa L.length (pa L) ((k : Int) + 1) = decide (fam L.length (pa L) ((k : Int) + 1) = []) := by unfold lfa; rw [decide_eq_true HEN.out]; rfl
      rw [hlfe] at hlf
      have HU1 : Hid (fam L.length (pa L) ((k : Int) + 1) ≠ [] → unb L.length (pa L) y ((k : Int) + 1) = false) := fun q => by unfold unb; rw [decide_eq_false q, Bool.and_false]
      have HU2 : Hid (fam L.length (pa L) ((k : Int) + 1) = [] → (k : Int) + 1 = y → unb L.length (pa L) y ((k : Int) + 1) = true) := fun q r => by unfold unb hasU; rw [decide_eq_true q, decide_eq_true r]; rfl
      have HU3 : Hid (fam L.length (pa L) ((k : Int) + 1) = [] → (k : Int) + 1 ≠ y → unb L.length (pa L) y ((k : Int) + 1) = decide (y ∈ ups L.length (pa L) ((k : Int) + 1))) := fun q r => by unfold unb hasU; rw [decide_eq_true q, decide_eq_false r, Bool.and_true, Bool.false_or]
      clear hlfe
      generalize flt k (unb L.length (pa L) y) = F at *
      generalize flt (k + 1) (unb L.length (pa L) y) = M at *
      have e1 : wrap64 ((k : Int) + 1 + 1) = (k : Int) + 1 + 1 := by unfold wrap64; omega
      generalize (k : Int) + 1 = j at *
      clear ho hb hk hlt
      by_cases ht : fam L.length (pa L) j = []
      · rw [decide_eq_true ht] at hlf
        by_cases hy : j = y
        · have t1 : (j == y) = true := by simpa using hy
          have HM2 := Lib.hid (HYE.out (HU2.out ht hy))
          clear HYE HNO HU1 HU2 HU3
          clear ht hy
          go_wp2_with fail
          refine hIs.mono ?_; clear hIs; rintro e wn ⟨rfl, rfl⟩
          go_wp2_with fail
          refine hlf.mono ?_; clear hlf; rintro e w1 ⟨rfl, hb1⟩
          have HO1 := Lib.hid (HO.out.below hb1)
          have HB1 : Hid (Below w.heap.size w w1) := HB.out.trans (hb1.mono HB.out.size)
          clear hb1
          have hsz := HB1.out.size
          go_wp2_with (at_builtin; refine wp_push w1 rfl (.tmp 33) (.tmp 35) rfl w.heap.size _ F (j) rfl HO1.out rfl (by omega) hsz ?_; intro v5 w5 ho5 hb5; rw [← HM2.out] at ho5; have HO5 := Lib.hid ho5; have HB5 : Hid (Below w.heap.size w w5) := HB1.out.trans hb5; clear ho5 hb5 hsz)
          go_roundw
          · (first | exact HR.out _ _ HO5.out HB5.out | (rw [e1]; exact HR.out _ _ HO5.out HB5.out))
          · (first | exact HM.out | (rw [e1]; exact HM.out) | (simp only [RowKit.intOf]; exact HM.out) | (rw [e1]; simp only [RowKit.intOf]; exact HM.out))
        · have t1 : (j == y) = false := by simpa using hy
          by_cases hm : y ∈ ups L.length (pa L) j
          · have HM2 := Lib.hid (HYE.out ((HU3.out ht hy).trans (decide_eq_true hm)))
            clear HYE HNO HU1 HU2 HU3
            have HMM := Lib.hid hm
            clear ht hy hm
            go_wp2_with fail
            refine hIs.mono ?_; clear hIs; rintro e wn ⟨rfl, rfl⟩
            go_wp2_with fail
            refine hlf.mono ?_; clear hlf; rintro e w1 ⟨rfl, hb1⟩
            have HO1 := Lib.hid (HO.out.below hb1)
            have HB1 : Hid (Below w.heap.size w w1) := HB.out.trans (hb1.mono HB.out.size)
            clear hb1
            have hu := r20up a c L j w1 (HL.out.below HB1.out) HN.out
            have HUI : Hid ((ups L.length (pa L) j).length ≤ 1000 ∧ ∀ z ∈ ups L.length (pa L) j, InR z) := ⟨Nat.le_trans (ups_few _ _ _) HN.out, ups_in HN.out⟩
            generalize ups L.length (pa L) j = U at *
            go_wp2_with fail
            refine hu.mono ?_; clear hu; rintro e w2 ⟨v, rfl, hou, hbu⟩
            obtain ⟨ra, rc, rfl, -, hR⟩ := hou.reads HUI.out.2
            have hh := has_any ra rc U y w2 hR (by have := HUI.out.1; omega)
            have HO2 := Lib.hid (HO1.out.below hbu)
            have HB2 : Hid (Below w.heap.size w w2) := HB1.out.trans (hbu.mono HB1.out.size)
            clear hou hbu hR
            rw [decide_eq_true HMM.out] at hh
            go_wp2_with fail
            refine hh.mono ?_; clear hh; rintro e wn ⟨rfl, rfl⟩
            have hsz := HB2.out.size
            go_wp2_with (at_builtin; refine wp_push w2 rfl (.tmp 33) (.tmp 35) rfl w.heap.size _ F (j) rfl HO2.out rfl (by omega) hsz ?_; intro v5 w5 ho5 hb5; rw [← HM2.out] at ho5; have HO5 := Lib.hid ho5; have HB5 : Hid (Below w.heap.size w w5) := HB2.out.trans hb5; clear ho5 hb5 hsz)
            go_roundw
            · (first | exact HR.out _ _ HO5.out HB5.out | (rw [e1]; exact HR.out _ _ HO5.out HB5.out))
            · (first | exact HM.out | (rw [e1]; exact HM.out) | (simp only [RowKit.intOf]; exact HM.out) | (rw [e1]; simp only [RowKit.intOf]; exact HM.out))
          · have HM2 := Lib.hid (HNO.out ((HU3.out ht hy).trans (decide_eq_false hm)))
            clear HYE HNO HU1 HU2 HU3
            have HMM := Lib.hid hm
            clear ht hy hm
            go_wp2_with fail
            refine hIs.mono ?_; clear hIs; rintro e wn ⟨rfl, rfl⟩
            go_wp2_with fail
            refine hlf.mono ?_; clear hlf; rintro e w1 ⟨rfl, hb1⟩
            have HO1 := Lib.hid (HO.out.below hb1)
            have HB1 : Hid (Below w.heap.size w w1) := HB.out.trans (hb1.mono HB.out.size)
            clear hb1
            have hu := r20up a c L j w1 (HL.out.below HB1.out) HN.out
            have HUI : Hid ((ups L.length (pa L) j).length ≤ 1000 ∧ ∀ z ∈ ups L.length (pa L) j, InR z) := ⟨Nat.le_trans (ups_few _ _ _) HN.out, ups_in HN.out⟩
            generalize ups L.length (pa L) j = U at *
            go_wp2_with fail
            refine hu.mono ?_; clear hu; rintro e w2 ⟨v, rfl, hou, hbu⟩
            obtain ⟨ra, rc, rfl, -, hR⟩ := hou.reads HUI.out.2
            have hh := has_any ra rc U y w2 hR (by have := HUI.out.1; omega)
            have HO2 := Lib.hid (HO1.out.below hbu)
            have HB2 : Hid (Below w.heap.size w w2) := HB1.out.trans (hbu.mono HB1.out.size)
            clear hou hbu hR
            rw [decide_eq_false HMM.out] at hh
            go_wp2_with fail
            refine hh.mono ?_; clear hh; rintro e wn ⟨rfl, rfl⟩
            have ho5 := HO2.out
            rw [← HM2.out] at ho5
            have HO5 := Lib.hid ho5
            clear ho5
            have HB5 := HB2
            go_wp2_with fail
            go_roundw
            · (first | exact HR.out _ _ HO5.out HB5.out | (rw [e1]; exact HR.out _ _ HO5.out HB5.out))
            · (first | exact HM.out | (rw [e1]; exact HM.out) | (simp only [RowKit.intOf]; exact HM.out) | (rw [e1]; simp only [RowKit.intOf]; exact HM.out))
      · rw [decide_eq_false ht] at hlf
        have HM2 := Lib.hid (HNO.out (HU1.out ht))
        clear HYE HNO HU1 HU2 HU3
        clear ht
        go_wp2_with fail
        refine hIs.mono ?_; clear hIs; rintro e wn ⟨rfl, rfl⟩
        go_wp2_with fail
        refine hlf.mono ?_; clear hlf; rintro e w1 ⟨rfl, hb1⟩
        have HO1 := Lib.hid (HO.out.below hb1)
        have HB1 : Hid (Below w.heap.size w w1) := HB.out.trans (hb1.mono HB.out.size)
        clear hb1
        have ho5 := HO1.out
        rw [← HM2.out] at ho5
        have HO5 := Lib.hid ho5
        clear ho5
        have HB5 := HB1
        go_wp2_with fail
        go_roundw
        · (first | exact HR.out _ _ HO5.out HB5.out | (rw [e1]; exact HR.out _ _ HO5.out HB5.out))
        · (first | exact HM.out | (rw [e1]; exact HM.out) | (simp only [RowKit.intOf]; exact HM.out) | (rw [e1]; simp only [RowKit.intOf]; exact HM.out))
    · obtain rfl : k = L.length := by omega
      have t0 : decide ((L.length : Int) + 1 ≤ (L.length : Int)) = false := decide_eq_false (by omega)
      generalize ((L.length : Nat) : Int) + 1 = j at *
      clear ho hb hlt hk
      go_wp2_with fail
      go_ret
      exact ⟨_, rfl, HO.out, HB.out⟩
set_option maxHeartbeats 4000000 in
set_option maxRecDepth 100000 in
theorem r20under_n (a : Option Addr) (c : Nat) (L : List AcT) (y : Int) (w : World) (hL : RdA w a L) (hn : L.length ≤ 1000) (hy : ¬ Ent (L.length : Int) y) :
    Calls Try.prog 21 #[.slice a L.length c, .int .i64 y] w fun e w' => ∃ v, e = .returned v ∧ Own w' w.heap.size v (flt L.length (fun _ => false)) ∧ Below w.heap.size w w' := by
  have HL := Lib.hid hL
  have HN := Lib.hid hn
  have HYY := Lib.hid hy
  clear hy
  clear hL hn
  go_enter Try.func21, Try.ntmps21
  go_wp2_with fail
  go_loopw [5, 6] (fun vl vi wr => ∃ k : Nat, k ≤ L.length ∧ vi = .int .i64 ((k : Int) + 1) ∧ Own wr w.heap.size vl (flt k (fun _ => false)) ∧ Below w.heap.size w wr) (fun _ vi _ => ((L.length : Int) + 1 - RowKit.intOf vi).toNat)
  case atStart => exact ⟨0, Nat.zero_le _, rfl, Own.nil _ _, Below.refl _ _⟩
  case round =>
    obtain ⟨k, hk, rfl, ho, hb⟩ := hrel
    have HO := Lib.hid ho
    have HB := Lib.hid hb
    by_cases hlt : k < L.length
    · have t0 : decide ((k : Int) + 1 ≤ (L.length : Int)) = true := decide_eq_true (by omega)
      have hk40 : k < 1000 := by have := HN.out; omega
      have HEN : Hid (Ent (L.length : Int) ((k : Int) + 1)) := ⟨by omega, by omega⟩
      have HYE : Hid ((fun _ => false) ((k : Int) + 1) = true → flt (k + 1) (fun _ => false) = flt k (fun _ => false) ++ [(k : Int) + 1]) := fun q => flt_yes (k := k) q
      have HNO : Hid ((fun _ => false) ((k : Int) + 1) = false → flt (k + 1) (fun _ => false) = flt k (fun _ => false)) := fun q => flt_no (k := k) q
      have hlen : (flt k (fun _ => false)).length ≤ 1000 := by have := flt_len k (fun _ => false); omega
      have HR : Hid (∀ vl w', Own w' w.heap.size vl (flt (k + 1) (fun _ => false)) → Below w.heap.size w w' → ∃ k' : Nat, k' ≤ L.length ∧ Value.int .i64 ((k : Int) + 1 + 1) = .int .i64 ((k' : Int) + 1) ∧ Own w' w.heap.size vl (flt k' (fun _ => false)) ∧ Below w.heap.size w w') := fun vl w' h1 h2 => ⟨k + 1, by omega, rfl, h1, h2⟩
      have HM : Hid (((L.length : Int) + 1 - ((k : Int) + 1 + 1)).toNat < ((L.length : Int) + 1 - ((k : Int) + 1)).toNat) := by show _ < _; omega
      (try dsimp only at HYE HNO)
      have hIs := r20is a L.length c y wr
      rw [decide_eq_false HYY.out] at hIs
      generalize flt k (fun _ => false) = F at *
      generalize flt (k + 1) (fun _ => false) = M at *
      have e1 : wrap64 ((k : Int) + 1 + 1) = (k : Int) + 1 + 1 := by unfold wrap64; omega
      generalize (k : Int) + 1 = j at *
      clear ho hb hk hlt
      have HM2 := Lib.hid (HNO.out rfl)
      clear HYE HNO
      have HO1 := HO
      have HB1 := HB
      go_wp2_with fail
      refine hIs.mono ?_; clear hIs; rintro e wn ⟨rfl, rfl⟩
      have ho5 := HO1.out
      rw [← HM2.out] at ho5
      have HO5 := Lib.hid ho5
      clear ho5
      have HB5 := HB1
      go_wp2_with fail
      go_roundw
      · (first | exact HR.out _ _ HO5.out HB5.out | (rw [e1]; exact HR.out _ _ HO5.out HB5.out))
      · (first | exact HM.out | (rw [e1]; exact HM.out) | (simp only [RowKit.intOf]; exact HM.out) | (rw [e1]; simp only [RowKit.intOf]; exact HM.out))
    · obtain rfl : k = L.length := by omega
      have t0 : decide ((L.length : Int) + 1 ≤ (L.length : Int)) = false := decide_eq_false (by omega)
      generalize ((L.length : Nat) : Int) + 1 = j at *
      clear ho hb hlt hk
      go_wp2_with fail
      go_ret
      exact ⟨_, rfl, HO.out, HB.out⟩
theorem r20under (a : Option Addr) (c : Nat) (L : List AcT) (y : Int) (w : World) (hL : RdA w a L) (hn : L.length ≤ 1000) :
    Calls Try.prog 21 #[.slice a L.length c, .int .i64 y] w fun e w' => ∃ v, e = .returned v ∧ Own w' w.heap.size v (unl L.length (pa L) y) ∧ Below w.heap.size w w' := by
  unfold unl
  by_cases hy : Ent (L.length : Int) y
  · rw [if_pos hy]; exact r20under_y a c L y w hL hn hy
  · rw [if_neg hy, ← flt_nones L.length]; exact r20under_n a c L y w hL hn hy
theorem r20leaves (a : Option Addr) (c : Nat) (L : List AcT) (w : World) (hL : RdA w a L) (hn : L.length ≤ 1000) :
    Calls Try.prog 17 #[.slice a L.length c] w fun e w' => ∃ v, e = .returned v ∧ Own w' w.heap.size v (lvs L.length (pa L)) ∧ Below w.heap.size w w' := r20leaves_f a c L w hL hn
end Go.Proofs.Yteendpdidkekkaa
