/-
  The document's Up, Above, Children, Under and Roots of layer 19. The conditions: a row of at most 1000000; at most 40 entities; nobody comes back to itself.
-/
import Derived.Test.YtebjmnppeohdiaaR19a
import Derived.Test.YtebjmnppeohdiaaFr2
import Derived.Deep.QuietTactic
import Derived.BigQuiet
import Derived.WalkSmall
import Derived.Deep.DeepCutAuto
import Derived.Deep.RegionHeld3
namespace Go.Proofs.Ytebjmnppeohdiaa
open Go.RowKit
set_option linter.unusedSimpArgs false
set_option linter.unusedVariables false

set_option maxHeartbeats 1000000 in
set_option maxRecDepth 100000 in
theorem r19up (a : Option Addr) (c : Nat) (L : List K4) (n p x : Int) (w : World) (hL : RdQ w a L) (hl : L.length ≤ 1000000) (hn : n ≤ 40) (hf : FOk n (pr L n p)) :
    Calls Try.prog 18 #[fV a c L n p, .int .i64 x] w fun e w' => ∃ v, e = .returned v ∧ Own w' w.heap.size v (up n (pr L n p) (pr L n p x)) ∧ Below w.heap.size w w' := by
  have HB := Lib.hid (below1 w (fC a c L n p))
  have HY := Lib.hid (Lies.new w a c L n p)
  obtain ⟨c0, c1, c2⟩ := HY.out
  have hi := r19is a c L n p x (w.alloc (fC a c L n p))
  by_cases hx : Ent n x
  · rw [decide_eq_true hx] at hi
    have HA : Hid (∀ wz, Below w.heap.size w wz → Calls Try.prog 40 #[.slice a L.length c, .int .i64 x, .int .i64 p] wz fun e w' => ∃ v, e = .returned v ∧ Own w' wz.heap.size v (up n (pr L n p) (pr L n p x)) ∧ Below wz.heap.size wz w') := fun wz q => r18up a c L n p x wz (hL.below q) hl hx hn hf
    generalize up n (pr L n p) (pr L n p x) = U at *
    clear hL hx hf
    go_enter Try.func18, Try.ntmps18
    go_wp2_with fail
    refine hi.mono ?_; clear hi; rintro e w1 ⟨rfl, hb1⟩
    have HB1 : Hid (Below w.heap.size w w1) := HB.out.trans (hb1.mono HB.out.size)
    obtain ⟨c0, c1, c2⟩ := HY.out.below hb1
    have ha := HA.out w1 HB1.out
    clear hb1
    go_wp2_with fail
    refine ha.mono ?_; clear ha; rintro e w2 ⟨v, rfl, ho, hb2⟩
    have HO := Lib.hid (ho.down HB1.out.size)
    have HB2 : Hid (Below w.heap.size w w2) := HB1.out.trans (hb2.mono HB1.out.size)
    clear hb2 ho
    go_wp2_with fail
    go_ret
    exact ⟨_, rfl, HO.out, HB2.out⟩
  · rw [decide_eq_false hx] at hi
    have HE : Hid (up n (pr L n p) (pr L n p x) = []) := by show _ = _; rw [pr_no hx, up_no (not_ent0 n)]
    clear hL hx hf
    go_enter Try.func18, Try.ntmps18
    go_wp2_with fail
    refine hi.mono ?_; clear hi; rintro e w1 ⟨rfl, hb1⟩
    have HB1 : Hid (Below w.heap.size w w1) := HB.out.trans (hb1.mono HB.out.size)
    clear hb1
    go_wp2_with fail
    go_ret
    exact ⟨_, rfl, by rw [HE.out]; exact Own.nil _ _, HB1.out⟩
set_option maxHeartbeats 2000000 in
set_option maxRecDepth 100000 in
theorem r19abv (a : Option Addr) (c : Nat) (L : List K4) (n p t x : Int) (w : World) (hL : RdQ w a L) (hl : L.length ≤ 1000000) (hn : n ≤ 40) (hf : FOk n (pr L n p)) :
    Calls Try.prog 42 #[fV a c L n p, .int .i64 t, .int .i64 x] w fun e w' => e = .returned (.bool (decide (t ∈ up n (pr L n p) x))) ∧ Below w.heap.size w w' := by
  have HB := Lib.hid (below1 w (fC a c L n p))
  have HY := Lib.hid (Lies.new w a c L n p)
  obtain ⟨c0, c1, c2⟩ := HY.out
  have hi := r19is a c L n p t (w.alloc (fC a c L n p))
  by_cases ht : Ent n t
  · rw [decide_eq_true ht] at hi
    have HI2 := Lib.hid (r19is a c L n p x)
    by_cases hx : Ent n x
    · rw [decide_eq_true hx] at HI2
      by_cases htx : t = x
      · have e1 : (t == x) = true := by simpa using htx
        have HE : Hid (decide (t ∈ up n (pr L n p) x) = true) := decide_eq_true (by rw [htx]; exact up_self hf hx)
        clear hL hf ht hx htx
        rw [HE.out]
        go_enter Try.func42, Try.ntmps42
        go_wp2_with fail
        refine hi.mono ?_; clear hi; rintro e w1 ⟨rfl, hb1⟩
        have HB1 : Hid (Below w.heap.size w w1) := HB.out.trans (hb1.mono HB.out.size)
        obtain ⟨c0, c1, c2⟩ := HY.out.below hb1
        clear hb1
        go_wp2_with fail
        refine (HI2.out w1).mono ?_; rintro e w2 ⟨rfl, hb2⟩
        have HB2 : Hid (Below w.heap.size w w2) := HB1.out.trans (hb2.mono HB1.out.size)
        clear hb2
        go_wp2_with fail
        go_ret
        exact ⟨rfl, HB2.out⟩
      · have e1 : (t == x) = false := by simpa using htx
        have HE : Hid (decide (t ∈ up n (pr L n p) x) = decide (t ∈ up n (pr L n p) (pr L n p x))) := by
          show _ = _
          rw [up_yes hf hx, decide_eq_decide, List.mem_cons]
          exact ⟨fun q => q.resolve_left htx, Or.inr⟩
        have HU : Hid (∀ wz, Below w.heap.size w wz → Calls Try.prog 18 #[fV a c L n p, .int .i64 x] wz fun e w' => ∃ v, e = .returned v ∧ Own w' wz.heap.size v (up n (pr L n p) (pr L n p x)) ∧ Below wz.heap.size wz w') := fun wz q => r19up a c L n p x wz (hL.below q) hl hn hf
        have HUI : Hid ((up n (pr L n p) (pr L n p x)).length ≤ 1000 ∧ ∀ z ∈ up n (pr L n p) (pr L n p x), InR z) := ⟨by have := ups_len hf (pr L n p x); omega, up_inR hf (by omega) _⟩
        rw [HE.out]
        clear HE
        generalize up n (pr L n p) (pr L n p x) = U at *
        clear hL hf ht hx htx
        go_enter Try.func42, Try.ntmps42
        go_wp2_with fail
        refine hi.mono ?_; clear hi; rintro e w1 ⟨rfl, hb1⟩
        have HB1 : Hid (Below w.heap.size w w1) := HB.out.trans (hb1.mono HB.out.size)
        have HY1 := Lib.hid (HY.out.below hb1)
        obtain ⟨c0, c1, c2⟩ := HY1.out
        clear hb1
        go_wp2_with fail
        refine (HI2.out w1).mono ?_; rintro e w2 ⟨rfl, hb2⟩
        have HB2 : Hid (Below w.heap.size w w2) := HB1.out.trans (hb2.mono HB1.out.size)
        obtain ⟨c0, c1, c2⟩ := HY1.out.below hb2
        have hu := HU.out w2 HB2.out
        clear hb2
        go_wp2_with fail
        refine hu.mono ?_; clear hu; rintro e w3 ⟨v, rfl, ho, hb3⟩
        have HB3 : Hid (Below w.heap.size w w3) := HB2.out.trans (hb3.mono HB2.out.size)
        obtain ⟨ra, rc, rfl, -, hR⟩ := ho.reads HUI.out.2
        have hh := has_any ra rc U t w3 hR (by have := HUI.out.1; omega)
        clear hb3 ho hR c0 c1 c2
        go_wp2_with fail
        refine hh.mono ?_; clear hh; rintro e w4 ⟨rfl, rfl⟩
        go_wp2_with fail
        go_ret
        exact ⟨rfl, HB3.out⟩
    · rw [decide_eq_false hx] at HI2
      have HE : Hid (decide (t ∈ up n (pr L n p) x) = false) := decide_eq_false (by rw [up_no hx]; simp)
      clear hL hf ht hx
      rw [HE.out]
      go_enter Try.func42, Try.ntmps42
      go_wp2_with fail
      refine hi.mono ?_; clear hi; rintro e w1 ⟨rfl, hb1⟩
      have HB1 : Hid (Below w.heap.size w w1) := HB.out.trans (hb1.mono HB.out.size)
      obtain ⟨c0, c1, c2⟩ := HY.out.below hb1
      clear hb1
      go_wp2_with fail
      refine (HI2.out w1).mono ?_; rintro e w2 ⟨rfl, hb2⟩
      have HB2 : Hid (Below w.heap.size w w2) := HB1.out.trans (hb2.mono HB1.out.size)
      clear hb2
      go_wp2_with fail
      go_ret
      exact ⟨rfl, HB2.out⟩
  · rw [decide_eq_false ht] at hi
    have HE : Hid (decide (t ∈ up n (pr L n p) x) = false) := decide_eq_false (fun q => ht (up_ent hf x q))
    clear hL hf ht
    rw [HE.out]
    go_enter Try.func42, Try.ntmps42
    go_wp2_with fail
    refine hi.mono ?_; clear hi; rintro e w1 ⟨rfl, hb1⟩
    have HB1 : Hid (Below w.heap.size w w1) := HB.out.trans (hb1.mono HB.out.size)
    clear hb1
    go_wp2_with fail
    go_ret
    exact ⟨rfl, HB1.out⟩
set_option maxHeartbeats 4000000 in
set_option maxRecDepth 100000 in
theorem r19under (a : Option Addr) (c : Nat) (L : List K4) (n p x : Int) (w : World) (hL : RdQ w a L) (hl : L.length ≤ 1000000) (hn : n ≤ 40) (hf : FOk n (pr L n p)) :
    Calls Try.prog 20 #[fV a c L n p, .int .i64 x] w fun e w' => ∃ v, e = .returned v ∧ Own w' w.heap.size v (flt n.toNat (fun i => decide (x ∈ up n (pr L n p) i))) ∧ Below w.heap.size w w' := by
  have HB0 := Lib.hid (below1 w (fC a c L n p))
  have hsz0 : w.heap.size ≤ (w.alloc (fC a c L n p)).heap.size := by simp
  have HSZ := Lib.hid hsz0
  have HY := Lib.hid (Lies.new w a c L n p)
  have HN := Lib.hid hn
  have HC : Hid (∀ wz y, Below (w.alloc (fC a c L n p)).heap.size (w.alloc (fC a c L n p)) wz → Calls Try.prog 42 #[fV a c L n p, .int .i64 x, .int .i64 y] wz fun e w' => e = .returned (.bool (decide (x ∈ up n (pr L n p) y))) ∧ Below wz.heap.size wz w') := fun wz y q => r19abv a c L n p x y wz (hL.below (HB0.out.trans (q.mono HB0.out.size))) hl hn hf
  clear hf
  clear hL hn hsz0
  go_enter Try.func20, Try.ntmps20
  go_wp2_with fail
  generalize hW : w.alloc (fC a c L n p) = W at *
  have HWW := Lib.hid hW
  clear hW
  go_loopw [5, 6] (fun vl vi wr => ∃ k : Nat, k ≤ n.toNat ∧ vi = .int .i64 ((k : Int) + 1) ∧ Own wr W.heap.size vl (flt k (fun i => decide (x ∈ up n (pr L n p) i))) ∧ Below W.heap.size W wr) (fun _ vi _ => (n + 1 - RowKit.intOf vi).toNat)
  case atStart => exact ⟨0, Nat.zero_le _, rfl, Own.nil _ _, by first | exact Below.refl _ _ | (rw [HWW.out]; exact Below.refl _ _)⟩
  case round =>
    obtain ⟨k, hk, rfl, ho, hb⟩ := hrel
    have HO := Lib.hid ho
    have HB := Lib.hid hb
    have HYW := Lib.hid (HY.out.below hb)
    obtain ⟨c0, c1, c2⟩ := HYW.out
    by_cases hlt : k < n.toNat
    · have t0 : decide ((k : Int) + 1 ≤ n) = true := decide_eq_true (by omega)
      have hk40 : k < 40 := by have := HN.out; omega
      have e1 : wrap64 ((k : Int) + 1 + 1) = (k : Int) + 1 + 1 := by unfold wrap64; omega
      have HEN : Hid (Ent n ((k : Int) + 1)) := ⟨by omega, by omega⟩
      have HYE : Hid (decide (x ∈ up n (pr L n p) ((k : Int) + 1)) = true → flt (k + 1) (fun i => decide (x ∈ up n (pr L n p) i)) = flt k (fun i => decide (x ∈ up n (pr L n p) i)) ++ [(k : Int) + 1]) := fun q => flt_yes (k := k) (g := (fun i => decide (x ∈ up n (pr L n p) i))) q
      have HNO : Hid (decide (x ∈ up n (pr L n p) ((k : Int) + 1)) = false → flt (k + 1) (fun i => decide (x ∈ up n (pr L n p) i)) = flt k (fun i => decide (x ∈ up n (pr L n p) i))) := fun q => flt_no (k := k) (g := (fun i => decide (x ∈ up n (pr L n p) i))) q
      have hlen : (flt k (fun i => decide (x ∈ up n (pr L n p) i))).length ≤ 1000 := by have := flt_len k (fun i => decide (x ∈ up n (pr L n p) i)); omega
      have HR : Hid (∀ vl w', Own w' W.heap.size vl (flt (k + 1) (fun i => decide (x ∈ up n (pr L n p) i))) → Below W.heap.size W w' → ∃ k' : Nat, k' ≤ n.toNat ∧ Value.int .i64 ((k : Int) + 1 + 1) = .int .i64 ((k' : Int) + 1) ∧ Own w' W.heap.size vl (flt k' (fun i => decide (x ∈ up n (pr L n p) i))) ∧ Below W.heap.size W w') := fun vl w' h1 h2 => ⟨k + 1, by omega, rfl, h1, h2⟩
      have HM : Hid ((n + 1 - ((k : Int) + 1 + 1)).toNat < (n + 1 - ((k : Int) + 1)).toNat) := by show _ < _; omega
      have hcall := HC.out wr ((k : Int) + 1) HB.out
      generalize ht : decide (x ∈ up n (pr L n p) ((k : Int) + 1)) = t at *
      clear ht
      generalize flt k (fun i => decide (x ∈ up n (pr L n p) i)) = F at *
      generalize flt (k + 1) (fun i => decide (x ∈ up n (pr L n p) i)) = M at *
      generalize (k : Int) + 1 = j at *
      clear ho hb hk hlt
      cases t with
      | true =>
        go_wp2_with fail
        refine (hcall).mono ?_; rintro e w1 ⟨rfl, hbw1⟩
        have HOw1 := Lib.hid (HO.out.below hbw1)
        have HBw1 : Hid (Below W.heap.size W w1) := HB.out.trans (hbw1.mono HB.out.size)
        obtain ⟨c0, c1, c2⟩ := HYW.out.below hbw1
        clear hbw1 hcall c0 c1 c2
        have HM2 := Lib.hid (HYE.out (by first | rfl | trivial))
        clear HYE HNO
        have hsz := HBw1.out.size
        go_wp2_with (at_builtin; refine wp_push w1 rfl (.tmp 17) (.tmp 19) rfl W.heap.size _ F j rfl HOw1.out rfl (by omega) hsz ?_; intro v5 w5 ho5 hb5)
        rw [← HM2.out] at ho5
        have HO5 := Lib.hid ho5
        have HB5 : Hid (Below W.heap.size W w5) := HBw1.out.trans hb5
        clear ho5 hb5 hsz
        go_wp2_with fail
        go_roundw
        · (first | exact HR.out _ _ HO5.out HB5.out | (rw [e1]; exact HR.out _ _ HO5.out HB5.out))
        · (first | exact HM.out | (rw [e1]; exact HM.out))
      | false =>
        go_wp2_with fail
        refine (hcall).mono ?_; rintro e w1 ⟨rfl, hbw1⟩
        have HOw1 := Lib.hid (HO.out.below hbw1)
        have HBw1 : Hid (Below W.heap.size W w1) := HB.out.trans (hbw1.mono HB.out.size)
        obtain ⟨c0, c1, c2⟩ := HYW.out.below hbw1
        clear hbw1 hcall c0 c1 c2
        have HM2 := Lib.hid (HNO.out (by first | rfl | trivial))
        clear HYE HNO
        have ho5 := HOw1.out
        rw [← HM2.out] at ho5
        have HO5 := Lib.hid ho5
        clear ho5
        go_wp2_with fail
        go_roundw
        · (first | exact HR.out _ _ HO5.out HBw1.out | (rw [e1]; exact HR.out _ _ HO5.out HBw1.out))
        · (first | exact HM.out | (rw [e1]; exact HM.out))
    · obtain rfl : k = n.toNat := by omega
      have t0 : decide (((n.toNat : Nat) : Int) + 1 ≤ n) = false := decide_eq_false (by omega)
      have HOD := Lib.hid (ho.down HSZ.out)
      have HBD : Hid (Below w.heap.size w wr) := HB0.out.trans (HB.out.mono HSZ.out)
      generalize ((n.toNat : Nat) : Int) + 1 = j at *
      clear ho hb hlt hk
      go_wp2_with fail
      go_ret
      exact ⟨_, rfl, by exact HOD.out, HBD.out⟩
set_option maxHeartbeats 4000000 in
set_option maxRecDepth 100000 in
theorem r19roots (a : Option Addr) (c : Nat) (L : List K4) (n p : Int) (w : World) (hL : RdQ w a L) (hl : L.length ≤ 1000000) (hn : n ≤ 40) :
    Calls Try.prog 22 #[fV a c L n p] w fun e w' => ∃ v, e = .returned v ∧ Own w' w.heap.size v (flt n.toNat (fun i => pr L n p i == 0)) ∧ Below w.heap.size w w' := by
  have HB0 := Lib.hid (below1 w (fC a c L n p))
  have hsz0 : w.heap.size ≤ (w.alloc (fC a c L n p)).heap.size := by simp
  have HSZ := Lib.hid hsz0
  have HY := Lib.hid (Lies.new w a c L n p)
  have HN := Lib.hid hn
  have HC : Hid (∀ wz y, Below (w.alloc (fC a c L n p)).heap.size (w.alloc (fC a c L n p)) wz → Calls Try.prog 11 #[fV a c L n p, .int .i64 y] wz fun e w' => e = .returned (.int .i64 (pr L n p y)) ∧ Below wz.heap.size wz w') := fun wz y q => r19parent a c L n p y wz (hL.below (HB0.out.trans (q.mono HB0.out.size))) hl
  clear hL hn hsz0
  go_enter Try.func22, Try.ntmps22
  go_wp2_with fail
  generalize hW : w.alloc (fC a c L n p) = W at *
  have HWW := Lib.hid hW
  clear hW
  go_loopw [3, 4] (fun vl vi wr => ∃ k : Nat, k ≤ n.toNat ∧ vi = .int .i64 ((k : Int) + 1) ∧ Own wr W.heap.size vl (flt k (fun i => pr L n p i == 0)) ∧ Below W.heap.size W wr) (fun _ vi _ => (n + 1 - RowKit.intOf vi).toNat)
  case atStart => exact ⟨0, Nat.zero_le _, rfl, Own.nil _ _, by first | exact Below.refl _ _ | (rw [HWW.out]; exact Below.refl _ _)⟩
  case round =>
    obtain ⟨k, hk, rfl, ho, hb⟩ := hrel
    have HO := Lib.hid ho
    have HB := Lib.hid hb
    have HYW := Lib.hid (HY.out.below hb)
    obtain ⟨c0, c1, c2⟩ := HYW.out
    by_cases hlt : k < n.toNat
    · have t0 : decide ((k : Int) + 1 ≤ n) = true := decide_eq_true (by omega)
      have hk40 : k < 40 := by have := HN.out; omega
      have e1 : wrap64 ((k : Int) + 1 + 1) = (k : Int) + 1 + 1 := by unfold wrap64; omega
      have HEN : Hid (Ent n ((k : Int) + 1)) := ⟨by omega, by omega⟩
      have HYE : Hid ((pr L n p ((k : Int) + 1) == 0) = true → flt (k + 1) (fun i => pr L n p i == 0) = flt k (fun i => pr L n p i == 0) ++ [(k : Int) + 1]) := fun q => flt_yes (k := k) (g := (fun i => pr L n p i == 0)) q
      have HNO : Hid ((pr L n p ((k : Int) + 1) == 0) = false → flt (k + 1) (fun i => pr L n p i == 0) = flt k (fun i => pr L n p i == 0)) := fun q => flt_no (k := k) (g := (fun i => pr L n p i == 0)) q
      have hlen : (flt k (fun i => pr L n p i == 0)).length ≤ 1000 := by have := flt_len k (fun i => pr L n p i == 0); omega
      have HR : Hid (∀ vl w', Own w' W.heap.size vl (flt (k + 1) (fun i => pr L n p i == 0)) → Below W.heap.size W w' → ∃ k' : Nat, k' ≤ n.toNat ∧ Value.int .i64 ((k : Int) + 1 + 1) = .int .i64 ((k' : Int) + 1) ∧ Own w' W.heap.size vl (flt k' (fun i => pr L n p i == 0)) ∧ Below W.heap.size W w') := fun vl w' h1 h2 => ⟨k + 1, by omega, rfl, h1, h2⟩
      have HM : Hid ((n + 1 - ((k : Int) + 1 + 1)).toNat < (n + 1 - ((k : Int) + 1)).toNat) := by show _ < _; omega
      have hcall := HC.out wr ((k : Int) + 1) HB.out
      generalize pr L n p ((k : Int) + 1) = z at *
      generalize flt k (fun i => pr L n p i == 0) = F at *
      generalize flt (k + 1) (fun i => pr L n p i == 0) = M at *
      generalize (k : Int) + 1 = j at *
      clear ho hb hk hlt
      cases htt : (z == 0) with
      | true =>
        rw [htt] at HYE HNO
        go_wp2_with fail
        refine (hcall).mono ?_; rintro e w1 ⟨rfl, hbw1⟩
        have HOw1 := Lib.hid (HO.out.below hbw1)
        have HBw1 : Hid (Below W.heap.size W w1) := HB.out.trans (hbw1.mono HB.out.size)
        obtain ⟨c0, c1, c2⟩ := HYW.out.below hbw1
        clear hbw1 hcall c0 c1 c2
        have HM2 := Lib.hid (HYE.out (by first | rfl | trivial))
        clear HYE HNO
        have hsz := HBw1.out.size
        go_wp2_with (at_builtin; refine wp_push w1 rfl (.tmp 15) (.tmp 17) rfl W.heap.size _ F j rfl HOw1.out rfl (by omega) hsz ?_; intro v5 w5 ho5 hb5)
        rw [← HM2.out] at ho5
        have HO5 := Lib.hid ho5
        have HB5 : Hid (Below W.heap.size W w5) := HBw1.out.trans hb5
        clear ho5 hb5 hsz
        go_wp2_with fail
        go_roundw
        · (first | exact HR.out _ _ HO5.out HB5.out | (rw [e1]; exact HR.out _ _ HO5.out HB5.out))
        · (first | exact HM.out | (rw [e1]; exact HM.out))
      | false =>
        rw [htt] at HYE HNO
        go_wp2_with fail
        refine (hcall).mono ?_; rintro e w1 ⟨rfl, hbw1⟩
        have HOw1 := Lib.hid (HO.out.below hbw1)
        have HBw1 : Hid (Below W.heap.size W w1) := HB.out.trans (hbw1.mono HB.out.size)
        obtain ⟨c0, c1, c2⟩ := HYW.out.below hbw1
        clear hbw1 hcall c0 c1 c2
        have HM2 := Lib.hid (HNO.out (by first | rfl | trivial))
        clear HYE HNO
        have ho5 := HOw1.out
        rw [← HM2.out] at ho5
        have HO5 := Lib.hid ho5
        clear ho5
        go_wp2_with fail
        go_roundw
        · (first | exact HR.out _ _ HO5.out HBw1.out | (rw [e1]; exact HR.out _ _ HO5.out HBw1.out))
        · (first | exact HM.out | (rw [e1]; exact HM.out))
    · obtain rfl : k = n.toNat := by omega
      have t0 : decide (((n.toNat : Nat) : Int) + 1 ≤ n) = false := decide_eq_false (by omega)
      have HOD := Lib.hid (ho.down HSZ.out)
      have HBD : Hid (Below w.heap.size w wr) := HB0.out.trans (HB.out.mono HSZ.out)
      generalize ((n.toNat : Nat) : Int) + 1 = j at *
      clear ho hb hlt hk
      go_wp2_with fail
      go_ret
      exact ⟨_, rfl, by exact HOD.out, HBD.out⟩
set_option maxHeartbeats 4000000 in
set_option maxRecDepth 100000 in
theorem r19children_y (a : Option Addr) (c : Nat) (L : List K4) (n p x : Int) (w : World) (hL : RdQ w a L) (hl : L.length ≤ 1000000) (hn : n ≤ 40) (hx : Ent n x) :
    Calls Try.prog 16 #[fV a c L n p, .int .i64 x] w fun e w' => ∃ v, e = .returned v ∧ Own w' w.heap.size v (flt n.toNat (fun i => pr L n p i == x)) ∧ Below w.heap.size w w' := by
  have HB0 := Lib.hid (below1 w (fC a c L n p))
  have hsz0 : w.heap.size ≤ (w.alloc (fC a c L n p)).heap.size := by simp
  have HSZ := Lib.hid hsz0
  have HY := Lib.hid (Lies.new w a c L n p)
  have HN := Lib.hid hn
  have HIS : Hid (∀ wz, Calls Try.prog 34 #[fV a c L n p, .int .i64 x] wz fun e w' => e = .returned (.bool true) ∧ Below wz.heap.size wz w') := fun wz => by have := r19is a c L n p x wz; rwa [decide_eq_true hx] at this
  have HC : Hid (∀ wz y, Below (w.alloc (fC a c L n p)).heap.size (w.alloc (fC a c L n p)) wz → Calls Try.prog 11 #[fV a c L n p, .int .i64 y] wz fun e w' => e = .returned (.int .i64 (pr L n p y)) ∧ Below wz.heap.size wz w') := fun wz y q => r19parent a c L n p y wz (hL.below (HB0.out.trans (q.mono HB0.out.size))) hl
  clear hx
  clear hL hn hsz0
  go_enter Try.func16, Try.ntmps16
  go_wp2_with fail
  generalize hW : w.alloc (fC a c L n p) = W at *
  have HWW := Lib.hid hW
  clear hW
  go_loopw [5, 6] (fun vl vi wr => ∃ k : Nat, k ≤ n.toNat ∧ vi = .int .i64 ((k : Int) + 1) ∧ Own wr W.heap.size vl (flt k (fun i => pr L n p i == x)) ∧ Below W.heap.size W wr) (fun _ vi _ => (n + 1 - RowKit.intOf vi).toNat)
  case atStart => exact ⟨0, Nat.zero_le _, rfl, Own.nil _ _, by first | exact Below.refl _ _ | (rw [HWW.out]; exact Below.refl _ _)⟩
  case round =>
    obtain ⟨k, hk, rfl, ho, hb⟩ := hrel
    have HO := Lib.hid ho
    have HB := Lib.hid hb
    have HYW := Lib.hid (HY.out.below hb)
    obtain ⟨c0, c1, c2⟩ := HYW.out
    by_cases hlt : k < n.toNat
    · have t0 : decide ((k : Int) + 1 ≤ n) = true := decide_eq_true (by omega)
      have hk40 : k < 40 := by have := HN.out; omega
      have e1 : wrap64 ((k : Int) + 1 + 1) = (k : Int) + 1 + 1 := by unfold wrap64; omega
      have HEN : Hid (Ent n ((k : Int) + 1)) := ⟨by omega, by omega⟩
      have HYE : Hid ((pr L n p ((k : Int) + 1) == x) = true → flt (k + 1) (fun i => pr L n p i == x) = flt k (fun i => pr L n p i == x) ++ [(k : Int) + 1]) := fun q => flt_yes (k := k) (g := (fun i => pr L n p i == x)) q
      have HNO : Hid ((pr L n p ((k : Int) + 1) == x) = false → flt (k + 1) (fun i => pr L n p i == x) = flt k (fun i => pr L n p i == x)) := fun q => flt_no (k := k) (g := (fun i => pr L n p i == x)) q
      have hlen : (flt k (fun i => pr L n p i == x)).length ≤ 1000 := by have := flt_len k (fun i => pr L n p i == x); omega
      have HR : Hid (∀ vl w', Own w' W.heap.size vl (flt (k + 1) (fun i => pr L n p i == x)) → Below W.heap.size W w' → ∃ k' : Nat, k' ≤ n.toNat ∧ Value.int .i64 ((k : Int) + 1 + 1) = .int .i64 ((k' : Int) + 1) ∧ Own w' W.heap.size vl (flt k' (fun i => pr L n p i == x)) ∧ Below W.heap.size W w') := fun vl w' h1 h2 => ⟨k + 1, by omega, rfl, h1, h2⟩
      have HM : Hid ((n + 1 - ((k : Int) + 1 + 1)).toNat < (n + 1 - ((k : Int) + 1)).toNat) := by show _ < _; omega
      have hIs := HIS.out wr
      have HP : Hid (∀ wz, Below W.heap.size W wz → Calls Try.prog 11 #[fV a c L n p, .int .i64 ((k : Int) + 1)] wz fun e w' => e = .returned (.int .i64 (pr L n p ((k : Int) + 1))) ∧ Below wz.heap.size wz w') := fun wz q => HC.out wz _ q
      generalize pr L n p ((k : Int) + 1) = z at *
      generalize flt k (fun i => pr L n p i == x) = F at *
      generalize flt (k + 1) (fun i => pr L n p i == x) = M at *
      generalize (k : Int) + 1 = j at *
      clear ho hb hk hlt
      cases htt : (z == x) with
      | true =>
        rw [htt] at HYE HNO
        go_wp2_with fail
        refine (hIs).mono ?_; rintro e w1 ⟨rfl, hbw1⟩
        have HOw1 := Lib.hid (HO.out.below hbw1)
        have HBw1 : Hid (Below W.heap.size W w1) := HB.out.trans (hbw1.mono HB.out.size)
        obtain ⟨c0, c1, c2⟩ := HYW.out.below hbw1
        have HYW1 := Lib.hid (HYW.out.below hbw1)
        clear hbw1 hIs
        have hp := HP.out w1 HBw1.out
        go_wp2_with fail
        refine (hp).mono ?_; rintro e w2 ⟨rfl, hbw2⟩
        have HOw2 := Lib.hid (HOw1.out.below hbw2)
        have HBw2 : Hid (Below W.heap.size W w2) := HBw1.out.trans (hbw2.mono HBw1.out.size)
        obtain ⟨c0, c1, c2⟩ := HYW1.out.below hbw2
        clear hbw2 hp c0 c1 c2
        have HM2 := Lib.hid (HYE.out (by first | rfl | trivial))
        clear HYE HNO
        have hsz := HBw2.out.size
        go_wp2_with (at_builtin; refine wp_push w2 rfl (.tmp 23) (.tmp 25) rfl W.heap.size _ F j rfl HOw2.out rfl (by omega) hsz ?_; intro v5 w5 ho5 hb5)
        rw [← HM2.out] at ho5
        have HO5 := Lib.hid ho5
        have HB5 : Hid (Below W.heap.size W w5) := HBw2.out.trans hb5
        clear ho5 hb5 hsz
        go_wp2_with fail
        go_roundw
        · (first | exact HR.out _ _ HO5.out HB5.out | (rw [e1]; exact HR.out _ _ HO5.out HB5.out))
        · (first | exact HM.out | (rw [e1]; exact HM.out))
      | false =>
        rw [htt] at HYE HNO
        go_wp2_with fail
        refine (hIs).mono ?_; rintro e w1 ⟨rfl, hbw1⟩
        have HOw1 := Lib.hid (HO.out.below hbw1)
        have HBw1 : Hid (Below W.heap.size W w1) := HB.out.trans (hbw1.mono HB.out.size)
        obtain ⟨c0, c1, c2⟩ := HYW.out.below hbw1
        have HYW1 := Lib.hid (HYW.out.below hbw1)
        clear hbw1 hIs
        have hp := HP.out w1 HBw1.out
        go_wp2_with fail
        refine (hp).mono ?_; rintro e w2 ⟨rfl, hbw2⟩
        have HOw2 := Lib.hid (HOw1.out.below hbw2)
        have HBw2 : Hid (Below W.heap.size W w2) := HBw1.out.trans (hbw2.mono HBw1.out.size)
        obtain ⟨c0, c1, c2⟩ := HYW1.out.below hbw2
        clear hbw2 hp c0 c1 c2
        have HM2 := Lib.hid (HNO.out (by first | rfl | trivial))
        clear HYE HNO
        have ho5 := HOw2.out
        rw [← HM2.out] at ho5
        have HO5 := Lib.hid ho5
        clear ho5
        go_wp2_with fail
        go_roundw
        · (first | exact HR.out _ _ HO5.out HBw2.out | (rw [e1]; exact HR.out _ _ HO5.out HBw2.out))
        · (first | exact HM.out | (rw [e1]; exact HM.out))
    · obtain rfl : k = n.toNat := by omega
      have t0 : decide (((n.toNat : Nat) : Int) + 1 ≤ n) = false := decide_eq_false (by omega)
      have HOD := Lib.hid (ho.down HSZ.out)
      have HBD : Hid (Below w.heap.size w wr) := HB0.out.trans (HB.out.mono HSZ.out)
      generalize ((n.toNat : Nat) : Int) + 1 = j at *
      clear ho hb hlt hk
      go_wp2_with fail
      go_ret
      exact ⟨_, rfl, by exact HOD.out, HBD.out⟩
set_option maxHeartbeats 4000000 in
set_option maxRecDepth 100000 in
theorem r19children_n (a : Option Addr) (c : Nat) (L : List K4) (n p x : Int) (w : World) (hL : RdQ w a L) (hl : L.length ≤ 1000000) (hn : n ≤ 40) (hx : ¬ Ent n x) :
    Calls Try.prog 16 #[fV a c L n p, .int .i64 x] w fun e w' => ∃ v, e = .returned v ∧ Own w' w.heap.size v (flt n.toNat (fun _ => false)) ∧ Below w.heap.size w w' := by
  have HB0 := Lib.hid (below1 w (fC a c L n p))
  have hsz0 : w.heap.size ≤ (w.alloc (fC a c L n p)).heap.size := by simp
  have HSZ := Lib.hid hsz0
  have HY := Lib.hid (Lies.new w a c L n p)
  have HN := Lib.hid hn
  have HIS : Hid (∀ wz, Calls Try.prog 34 #[fV a c L n p, .int .i64 x] wz fun e w' => e = .returned (.bool false) ∧ Below wz.heap.size wz w') := fun wz => by have := r19is a c L n p x wz; rwa [decide_eq_false hx] at this
  clear hx
  clear hL hn hsz0
  go_enter Try.func16, Try.ntmps16
  go_wp2_with fail
  generalize hW : w.alloc (fC a c L n p) = W at *
  have HWW := Lib.hid hW
  clear hW
  go_loopw [5, 6] (fun vl vi wr => ∃ k : Nat, k ≤ n.toNat ∧ vi = .int .i64 ((k : Int) + 1) ∧ Own wr W.heap.size vl (flt k (fun _ => false)) ∧ Below W.heap.size W wr) (fun _ vi _ => (n + 1 - RowKit.intOf vi).toNat)
  case atStart => exact ⟨0, Nat.zero_le _, rfl, Own.nil _ _, by first | exact Below.refl _ _ | (rw [HWW.out]; exact Below.refl _ _)⟩
  case round =>
    obtain ⟨k, hk, rfl, ho, hb⟩ := hrel
    have HO := Lib.hid ho
    have HB := Lib.hid hb
    have HYW := Lib.hid (HY.out.below hb)
    obtain ⟨c0, c1, c2⟩ := HYW.out
    by_cases hlt : k < n.toNat
    · have t0 : decide ((k : Int) + 1 ≤ n) = true := decide_eq_true (by omega)
      have hk40 : k < 40 := by have := HN.out; omega
      have e1 : wrap64 ((k : Int) + 1 + 1) = (k : Int) + 1 + 1 := by unfold wrap64; omega
      have HEN : Hid (Ent n ((k : Int) + 1)) := ⟨by omega, by omega⟩
      have HYE : Hid (false = true → flt (k + 1) (fun _ => false) = flt k (fun _ => false) ++ [(k : Int) + 1]) := fun q => flt_yes (k := k) (g := (fun _ => false)) q
      have HNO : Hid (false = false → flt (k + 1) (fun _ => false) = flt k (fun _ => false)) := fun q => flt_no (k := k) (g := (fun _ => false)) q
      have hlen : (flt k (fun _ => false)).length ≤ 1000 := by have := flt_len k (fun _ => false); omega
      have HR : Hid (∀ vl w', Own w' W.heap.size vl (flt (k + 1) (fun _ => false)) → Below W.heap.size W w' → ∃ k' : Nat, k' ≤ n.toNat ∧ Value.int .i64 ((k : Int) + 1 + 1) = .int .i64 ((k' : Int) + 1) ∧ Own w' W.heap.size vl (flt k' (fun _ => false)) ∧ Below W.heap.size W w') := fun vl w' h1 h2 => ⟨k + 1, by omega, rfl, h1, h2⟩
      have HM : Hid ((n + 1 - ((k : Int) + 1 + 1)).toNat < (n + 1 - ((k : Int) + 1)).toNat) := by show _ < _; omega
      have hIs := HIS.out wr
      generalize flt k (fun _ => false) = F at *
      generalize flt (k + 1) (fun _ => false) = M at *
      generalize (k : Int) + 1 = j at *
      clear ho hb hk hlt
      go_wp2_with fail
      refine (hIs).mono ?_; rintro e w1 ⟨rfl, hbw1⟩
      have HOw1 := Lib.hid (HO.out.below hbw1)
      have HBw1 : Hid (Below W.heap.size W w1) := HB.out.trans (hbw1.mono HB.out.size)
      obtain ⟨c0, c1, c2⟩ := HYW.out.below hbw1
      clear hbw1 hIs c0 c1 c2
      have HM2 := Lib.hid (HNO.out (by first | rfl | trivial))
      clear HYE HNO
      have ho5 := HOw1.out
      rw [← HM2.out] at ho5
      have HO5 := Lib.hid ho5
      clear ho5
      go_wp2_with fail
      go_roundw
      · (first | exact HR.out _ _ HO5.out HBw1.out | (rw [e1]; exact HR.out _ _ HO5.out HBw1.out))
      · (first | exact HM.out | (rw [e1]; exact HM.out))
    · obtain rfl : k = n.toNat := by omega
      have t0 : decide (((n.toNat : Nat) : Int) + 1 ≤ n) = false := decide_eq_false (by omega)
      have HOD := Lib.hid (ho.down HSZ.out)
      have HBD : Hid (Below w.heap.size w wr) := HB0.out.trans (HB.out.mono HSZ.out)
      generalize ((n.toNat : Nat) : Int) + 1 = j at *
      clear ho hb hlt hk
      go_wp2_with fail
      go_ret
      exact ⟨_, rfl, by exact HOD.out, HBD.out⟩
theorem flt_none (k : Nat) : flt k (fun _ => false) = [] := by unfold flt; simp
theorem r19children (a : Option Addr) (c : Nat) (L : List K4) (n p x : Int) (w : World) (hL : RdQ w a L) (hl : L.length ≤ 1000000) (hn : n ≤ 40) :
    Calls Try.prog 16 #[fV a c L n p, .int .i64 x] w fun e w' => ∃ v, e = .returned v ∧ Own w' w.heap.size v (chl n (pr L n p) x) ∧ Below w.heap.size w w' := by
  unfold chl
  by_cases hx : Ent n x
  · rw [if_pos hx]; exact r19children_y a c L n p x w hL hl hn hx
  · rw [if_neg hx, ← flt_none n.toNat]; exact r19children_n a c L n p x w hL hl hn hx
end Go.Proofs.Ytebjmnppeohdiaa
