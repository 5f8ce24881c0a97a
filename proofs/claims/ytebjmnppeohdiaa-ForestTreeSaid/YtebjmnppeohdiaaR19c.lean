/-
  The document's Meet, Held and At of layer 19. The conditions: a row of at most 1000000; at most 40 entities; nobody comes back to itself.
-/
import Derived.Test.YtebjmnppeohdiaaR19b
import Derived.Test.YtebjmnppeohdiaaFr2
import Derived.Test.YtebjmnppeohdiaaFrsF
import Derived.Test.YtebjmnppeohdiaaStkE0
import Derived.Test.YtebjmnppeohdiaaRefSb
import Derived.Deep.QuietTactic
import Derived.BigQuiet
import Derived.WalkSmall
import Derived.Deep.DeepCutAuto
import Derived.Deep.RegionHeld3
namespace Go.Proofs.Ytebjmnppeohdiaa
open Go.RowKit
set_option linter.unusedSimpArgs false
set_option linter.unusedVariables false

/-- A block of three cells that may be written. -/
def Ow3 (w : World) (B : Nat) (x y z : Value) : Prop := (w.cell? ⟨B, 0, none⟩ = some x ∧ w.cell? ⟨B, 1, none⟩ = some y ∧ w.cell? ⟨B, 2, none⟩ = some z) ∧ w.frozen? ⟨B, 0, none⟩ = false ∧ w.frozen? ⟨B, 1, none⟩ = false ∧ w.frozen? ⟨B, 2, none⟩ = false
theorem Ow3.new (w : World) (x y z : Value) (t : TypeId) : Ow3 (w.alloc (.cells #[x, y, z] t)) w.heap.size x y z := by refine ⟨⟨?_, ?_, ?_⟩, ?_, ?_, ?_⟩ <;> simp
theorem Ow3.below {w w' : World} {B : Nat} {x y z : Value} (h : Ow3 w B x y z) (hb : Below w.heap.size w w') : Ow3 w' B x y z := by
  have hl : B < w.heap.size := World.block_lt_of_cell? w _ h.1.1
  have hbl := hb.block B hl
  refine ⟨⟨(hb.cell (p := ⟨B, 0, none⟩) hl).trans h.1.1, (hb.cell (p := ⟨B, 1, none⟩) hl).trans h.1.2.1, (hb.cell (p := ⟨B, 2, none⟩) hl).trans h.1.2.2⟩, ?_, ?_, ?_⟩
  · rw [← h.2.1]; simp only [World.frozen?]; rw [hbl]
  · rw [← h.2.2.1]; simp only [World.frozen?]; rw [hbl]
  · rw [← h.2.2.2]; simp only [World.frozen?]; rw [hbl]
theorem below_set3 {B k : Nat} {w0 w : World} {p q r : Value} (h : Below B w0 w) (hk : B ≤ k) : Below B w0 (((w.setCell ⟨k, 0, none⟩ p).setCell ⟨k, 1, none⟩ q).setCell ⟨k, 2, none⟩ r) := ((h.setCell hk _).setCell hk _).setCell hk _
set_option maxHeartbeats 8000000 in
set_option maxRecDepth 100000 in
theorem r19meet (a : Option Addr) (c : Nat) (L : List K4) (n p a0 b0 : Int) (w : World) (hL : RdQ w a L) (hl : L.length ≤ 1000000) (hn : n ≤ 40) (hf : FOk n (pr L n p)) :
    Calls Try.prog 27 #[fV a c L n p, .int .i64 a0, .int .i64 b0] w fun e w' => e = .returned (.int .i64 (mt n (pr L n p) a0 b0)) ∧ Below w.heap.size w w' := by
  have HB0 := Lib.hid (below1 w (fC a c L n p))
  have hsz0 : w.heap.size ≤ (w.alloc (fC a c L n p)).heap.size := by simp
  have HSZ := Lib.hid hsz0
  have HY := Lib.hid (Lies.new w a c L n p)
  have HN40 := Lib.hid hn
  have HF := Lib.hid hf
  have HC : Hid (∀ wz t y, Below (w.alloc (fC a c L n p)).heap.size (w.alloc (fC a c L n p)) wz → Calls Try.prog 42 #[fV a c L n p, .int .i64 t, .int .i64 y] wz fun e w' => e = .returned (.bool (decide (t ∈ up n (pr L n p) y))) ∧ Below wz.heap.size wz w') := fun wz t y q => r19abv a c L n p t y wz (hL.below (HB0.out.trans (q.mono HB0.out.size))) hl hn hf
  clear hL hn hsz0 hf
  go_enter Try.func27, Try.ntmps27
  go_wp2_with fail
  generalize hW : w.alloc (fC a c L n p) = W at *
  have HWW := Lib.hid hW
  clear hW
  go_loopw [7, 8] (fun vb vi wr => ∃ (k : Nat) (best : Int), (k : Int) ≤ 40 ∧ ((k : Int) ≤ n ∨ k = 0) ∧ vi = .int .i64 ((k : Int) + 1) ∧ vb = .int .i64 best ∧ BM n (pr L n p) a0 b0 (k : Int) best ∧ Below W.heap.size W wr) (fun _ vi _ => (n + 1 - RowKit.intOf vi).toNat)
  case atStart => exact ⟨0, 0, by omega, Or.inr rfl, rfl, rfl, bm_start HF.out a0 b0, by first | exact Below.refl _ _ | (rw [HWW.out]; exact Below.refl _ _)⟩
  case round =>
    obtain ⟨k, best, hk40, hkn, rfl, rfl, hbm, hb⟩ := hrel
    have HB := Lib.hid hb
    have HYW := Lib.hid (HY.out.below hb)
    obtain ⟨c0, c1, c2⟩ := HYW.out
    by_cases hlt : (k : Int) + 1 ≤ n
    · have t0 : decide ((k : Int) + 1 ≤ n) = true := decide_eq_true hlt
      have hk41 : (k : Int) + 1 ≤ 40 := by have := HN40.out; omega
      have e1 : wrap64 ((k : Int) + 1 + 1) = (k : Int) + 1 + 1 := by unfold wrap64; omega
      have HM : Hid ((n + 1 - ((k : Int) + 1 + 1)).toNat < (n + 1 - ((k : Int) + 1)).toNat) := by show _ < _; omega
      have HN : Hid (¬ ((k : Int) + 1 ∈ up n (pr L n p) a0 ∧ (k : Int) + 1 ∈ up n (pr L n p) b0 ∧ (best = 0 ∨ best ∈ up n (pr L n p) ((k : Int) + 1))) → ∀ w', Below W.heap.size W w' → ∃ (k' : Nat) (best' : Int), (k' : Int) ≤ 40 ∧ ((k' : Int) ≤ n ∨ k' = 0) ∧ Value.int .i64 ((k : Int) + 1 + 1) = .int .i64 ((k' : Int) + 1) ∧ Value.int .i64 best = .int .i64 best' ∧ BM n (pr L n p) a0 b0 (k' : Int) best' ∧ Below W.heap.size W w') := fun q w' h => ⟨k + 1, best, by omega, Or.inl (by omega), rfl, rfl, bm_no HF.out hbm q, h⟩
      have HY2 : Hid ((k : Int) + 1 ∈ up n (pr L n p) a0 → (k : Int) + 1 ∈ up n (pr L n p) b0 → (best = 0 ∨ best ∈ up n (pr L n p) ((k : Int) + 1)) → ∀ w', Below W.heap.size W w' → ∃ (k' : Nat) (best' : Int), (k' : Int) ≤ 40 ∧ ((k' : Int) ≤ n ∨ k' = 0) ∧ Value.int .i64 ((k : Int) + 1 + 1) = .int .i64 ((k' : Int) + 1) ∧ Value.int .i64 ((k : Int) + 1) = .int .i64 best' ∧ BM n (pr L n p) a0 b0 (k' : Int) best' ∧ Below W.heap.size W w') := fun q1 q2 q3 w' h => ⟨k + 1, (k : Int) + 1, by omega, Or.inl (by omega), rfl, rfl, bm_yes HF.out hbm q1 q2 q3, h⟩
      have hca := HC.out wr ((k : Int) + 1) a0 HB.out
      have HCB := Lib.hid (fun wz (q : Below W.heap.size W wz) => HC.out wz ((k : Int) + 1) b0 q)
      have HCC := Lib.hid (fun wz (q : Below W.heap.size W wz) => HC.out wz best ((k : Int) + 1) q)
      clear hb hbm hlt hk40 hkn
      by_cases hA : (k : Int) + 1 ∈ up n (pr L n p) a0
      · rw [decide_eq_true hA] at hca
        by_cases hB : (k : Int) + 1 ∈ up n (pr L n p) b0
        · rw [decide_eq_true hB] at HCB
          by_cases h0 : best = 0
          · have z0 : (best == 0) = true := by simpa using h0
            have HRY := Lib.hid (HY2.out hA hB (Or.inl h0))
            clear HN HY2
            clear hA hB h0
            go_wp2_with fail
            refine (hca).mono ?_; rintro e w1 ⟨rfl, hbw1⟩
            have HBw1 : Hid (Below W.heap.size W w1) := HB.out.trans (hbw1.mono HB.out.size)
            have HYWw1 := Lib.hid (HYW.out.below hbw1)
            obtain ⟨c0, c1, c2⟩ := HYWw1.out
            clear hbw1
            go_wp2_with fail
            refine (HCB.out w1 HBw1.out).mono ?_; rintro e w2 ⟨rfl, hbw2⟩
            have HBw2 : Hid (Below W.heap.size W w2) := HBw1.out.trans (hbw2.mono HBw1.out.size)
            have HYWw2 := Lib.hid (HYWw1.out.below hbw2)
            obtain ⟨c0, c1, c2⟩ := HYWw2.out
            clear hbw2
            clear c0 c1 c2
            go_wp2_with fail
            go_roundw
            · (first | exact HRY.out _ HBw2.out | (rw [e1]; exact HRY.out _ HBw2.out))
            · (first | exact HM.out | (rw [e1]; exact HM.out))
          · have z0 : (best == 0) = false := by simpa using h0
            by_cases hC : best ∈ up n (pr L n p) ((k : Int) + 1)
            · rw [decide_eq_true hC] at HCC
              have HRY := Lib.hid (HY2.out hA hB (Or.inr hC))
              clear HN HY2
              clear hA hB h0 hC
              go_wp2_with fail
              refine (hca).mono ?_; rintro e w1 ⟨rfl, hbw1⟩
              have HBw1 : Hid (Below W.heap.size W w1) := HB.out.trans (hbw1.mono HB.out.size)
              have HYWw1 := Lib.hid (HYW.out.below hbw1)
              obtain ⟨c0, c1, c2⟩ := HYWw1.out
              clear hbw1
              go_wp2_with fail
              refine (HCB.out w1 HBw1.out).mono ?_; rintro e w2 ⟨rfl, hbw2⟩
              have HBw2 : Hid (Below W.heap.size W w2) := HBw1.out.trans (hbw2.mono HBw1.out.size)
              have HYWw2 := Lib.hid (HYWw1.out.below hbw2)
              obtain ⟨c0, c1, c2⟩ := HYWw2.out
              clear hbw2
              go_wp2_with fail
              refine (HCC.out w2 HBw2.out).mono ?_; rintro e w3 ⟨rfl, hbw3⟩
              have HBw3 : Hid (Below W.heap.size W w3) := HBw2.out.trans (hbw3.mono HBw2.out.size)
              have HYWw3 := Lib.hid (HYWw2.out.below hbw3)
              obtain ⟨c0, c1, c2⟩ := HYWw3.out
              clear hbw3
              clear c0 c1 c2
              go_wp2_with fail
              go_roundw
              · (first | exact HRY.out _ HBw3.out | (rw [e1]; exact HRY.out _ HBw3.out))
              · (first | exact HM.out | (rw [e1]; exact HM.out))
            · rw [decide_eq_false hC] at HCC
              have HRN := Lib.hid (HN.out (by intro q; first | exact hA q.1 | exact hB q.2.1 | exact (q.2.2).elim h0 hC))
              clear HN HY2
              clear hA hB h0 hC
              go_wp2_with fail
              refine (hca).mono ?_; rintro e w1 ⟨rfl, hbw1⟩
              have HBw1 : Hid (Below W.heap.size W w1) := HB.out.trans (hbw1.mono HB.out.size)
              have HYWw1 := Lib.hid (HYW.out.below hbw1)
              obtain ⟨c0, c1, c2⟩ := HYWw1.out
              clear hbw1
              go_wp2_with fail
              refine (HCB.out w1 HBw1.out).mono ?_; rintro e w2 ⟨rfl, hbw2⟩
              have HBw2 : Hid (Below W.heap.size W w2) := HBw1.out.trans (hbw2.mono HBw1.out.size)
              have HYWw2 := Lib.hid (HYWw1.out.below hbw2)
              obtain ⟨c0, c1, c2⟩ := HYWw2.out
              clear hbw2
              go_wp2_with fail
              refine (HCC.out w2 HBw2.out).mono ?_; rintro e w3 ⟨rfl, hbw3⟩
              have HBw3 : Hid (Below W.heap.size W w3) := HBw2.out.trans (hbw3.mono HBw2.out.size)
              have HYWw3 := Lib.hid (HYWw2.out.below hbw3)
              obtain ⟨c0, c1, c2⟩ := HYWw3.out
              clear hbw3
              clear c0 c1 c2
              go_wp2_with fail
              go_roundw
              · (first | exact HRN.out _ HBw3.out | (rw [e1]; exact HRN.out _ HBw3.out))
              · (first | exact HM.out | (rw [e1]; exact HM.out))
        · rw [decide_eq_false hB] at HCB
          have HRN := Lib.hid (HN.out (by intro q; first | exact hA q.1 | exact hB q.2.1 | exact (q.2.2).elim h0 hC))
          clear HN HY2
          clear hA hB
          go_wp2_with fail
          refine (hca).mono ?_; rintro e w1 ⟨rfl, hbw1⟩
          have HBw1 : Hid (Below W.heap.size W w1) := HB.out.trans (hbw1.mono HB.out.size)
          have HYWw1 := Lib.hid (HYW.out.below hbw1)
          obtain ⟨c0, c1, c2⟩ := HYWw1.out
          clear hbw1
          go_wp2_with fail
          refine (HCB.out w1 HBw1.out).mono ?_; rintro e w2 ⟨rfl, hbw2⟩
          have HBw2 : Hid (Below W.heap.size W w2) := HBw1.out.trans (hbw2.mono HBw1.out.size)
          have HYWw2 := Lib.hid (HYWw1.out.below hbw2)
          obtain ⟨c0, c1, c2⟩ := HYWw2.out
          clear hbw2
          clear c0 c1 c2
          go_wp2_with fail
          go_roundw
          · (first | exact HRN.out _ HBw2.out | (rw [e1]; exact HRN.out _ HBw2.out))
          · (first | exact HM.out | (rw [e1]; exact HM.out))
      · rw [decide_eq_false hA] at hca
        have HRN := Lib.hid (HN.out (by intro q; first | exact hA q.1 | exact hB q.2.1 | exact (q.2.2).elim h0 hC))
        clear HN HY2
        clear hA
        go_wp2_with fail
        refine (hca).mono ?_; rintro e w1 ⟨rfl, hbw1⟩
        have HBw1 : Hid (Below W.heap.size W w1) := HB.out.trans (hbw1.mono HB.out.size)
        have HYWw1 := Lib.hid (HYW.out.below hbw1)
        obtain ⟨c0, c1, c2⟩ := HYWw1.out
        clear hbw1
        clear c0 c1 c2
        go_wp2_with fail
        go_roundw
        · (first | exact HRN.out _ HBw1.out | (rw [e1]; exact HRN.out _ HBw1.out))
        · (first | exact HM.out | (rw [e1]; exact HM.out))
    · have t0 : decide ((k : Int) + 1 ≤ n) = false := decide_eq_false hlt
      have HE := Lib.hid (bm_end HF.out (show n ≤ (k : Int) by omega) hbm)
      have HBD : Hid (Below w.heap.size w wr) := HB0.out.trans (HB.out.mono HSZ.out)
      clear hb hbm hlt hk40 hkn
      go_wp2_with fail
      go_ret
      exact ⟨by rw [HE.out]; rfl, HBD.out⟩
set_option maxHeartbeats 8000000 in
set_option maxRecDepth 100000 in
theorem r19held (a : Option Addr) (c : Nat) (L : List K4) (n p t x : Int) (w : World) (hL : RdQ w a L) (hl : L.length ≤ 1000000) (hn : n ≤ 40) (hf : FOk n (pr L n p)) (hs : ∀ x, 0 ≤ sr L n p x ∧ sr L n p x ≤ 10000) :
    Calls Try.prog 25 #[fV a c L n p, .int .i64 t, .int .i64 x] w fun e w' => e = .returned (.tuple #[.agg #[.int .i64 (hdv n (pr L n p) (sr L n p) t x).1, .int .i64 (hdv n (pr L n p) (sr L n p) t x).2.1], .int .i64 (hdv n (pr L n p) (sr L n p) t x).2.2]) ∧ Below w.heap.size w w' := by
  have hb2 := below2 w (fC a c L n p) (.cells #[.int .i64 0, .int .i64 0] 43)
  have HB0 := Lib.hid hb2
  have HY := Lib.hid ((Lies.new w a c L n p).below (below1 (w.alloc (fC a c L n p)) (.cells #[.int .i64 0, .int .i64 0] 43)))
  have HO0 := Lib.hid (Ow2.new2 w (fC a c L n p) (.int .i64 0) (.int .i64 0) 43)
  have HF := Lib.hid hf
  have hab := r19abv a c L n p t x _ (hL.below hb2) hl hn hf
  have HPA : Hid (∀ wz y, Below ((w.alloc (fC a c L n p)).alloc (.cells #[.int .i64 0, .int .i64 0] 43)).heap.size ((w.alloc (fC a c L n p)).alloc (.cells #[.int .i64 0, .int .i64 0] 43)) wz → Calls Try.prog 11 #[fV a c L n p, .int .i64 y] wz fun e w' => e = .returned (.int .i64 (pr L n p y)) ∧ Below wz.heap.size wz w') := fun wz y q => r19parent a c L n p y wz (hL.below (HB0.out.trans (q.mono HB0.out.size))) hl
  have HSA : Hid (∀ wz y, Below ((w.alloc (fC a c L n p)).alloc (.cells #[.int .i64 0, .int .i64 0] 43)).heap.size ((w.alloc (fC a c L n p)).alloc (.cells #[.int .i64 0, .int .i64 0] 43)) wz → Calls Try.prog 13 #[fV a c L n p, .int .i64 y] wz fun e w' => e = .returned (.int .i64 (sr L n p y)) ∧ Below wz.heap.size wz w') := fun wz y q => r19share a c L n p y wz (hL.below (HB0.out.trans (q.mono HB0.out.size))) hl
  have HSI : Hid (∀ z, InR (sr L n p z)) := fun z => by have := hs z; unfold InR; omega
  have HQ : Hid (hdv n (pr L n p) (sr L n p) t x = ((hdv n (pr L n p) (sr L n p) t x).1, (hdv n (pr L n p) (sr L n p) t x).2.1, (hdv n (pr L n p) (sr L n p) t x).2.2)) := rfl
  have HV : Hid (∀ A B, up n (pr L n p) x = A ++ t :: B → ¬ t ∈ A → hdv n (pr L n p) (sr L n p) t x = chainv (A.map (sr L n p))) := fun A B e hA => by
    unfold hdv
    rw [if_pos (by rw [e]; simp), pth_eq e hA]
  have HU : Hid ((up n (pr L n p) x).length ≤ 40) := by have := ups_len hf x; show _ ≤ _; omega
  by_cases hm : t ∈ up n (pr L n p) x
  · rw [decide_eq_true hm] at hab
    have HMM := Lib.hid hm
    generalize (hdv n (pr L n p) (sr L n p) t x).1 = q1 at *; generalize (hdv n (pr L n p) (sr L n p) t x).2.1 = q2 at *; generalize (hdv n (pr L n p) (sr L n p) t x).2.2 = q3 at *
    generalize hdv n (pr L n p) (sr L n p) t x = q at *
    obtain ⟨c0, c1, c2⟩ := HY.out
    clear hL hf hs hn hb2 hm
    go_enter Try.func25, Try.ntmps25
    go_wp2_with fail
    generalize hW : (w.alloc (fC a c L n p)).alloc (.cells #[.int .i64 0, .int .i64 0] 43) = W at *
    clear hW
    refine hab.mono ?_; clear hab; rintro e w1 ⟨rfl, hb1⟩
    have HB1 : Hid (Below W.heap.size W w1) := hb1
    clear hb1 c0 c1 c2
    go_wp2_with fail
    go_loopw [8, 9] (fun vs vy wr => ∃ (y : Int) (A : List Int), vy = .int .i64 y ∧ Own wr W.heap.size vs (A.map (sr L n p)) ∧ A ++ up n (pr L n p) y = up n (pr L n p) x ∧ ¬ t ∈ A ∧ t ∈ up n (pr L n p) y ∧ Below W.heap.size W wr) (fun _ vy _ => (up n (pr L n p) (RowKit.intOf vy)).length)
    case atStart => exact ⟨x, [], rfl, Own.nil _ _, rfl, by simp, HMM.out, HB1.out⟩
    case round =>
      clear HB1
      obtain ⟨y, A, rfl, ho, hA, htA, hty, hb⟩ := hrel
      have HO := Lib.hid ho
      have HB := Lib.hid hb
      have HYW := Lib.hid (HY.out.below hb)
      have hye : Ent n y := Decidable.not_not.1 fun q => by rw [up_no q] at hty; cases hty
      have hAl : (A.map (sr L n p)).length ≤ 40 := by
        have e := congrArg List.length hA
        rw [List.length_append] at e
        have := HU.out
        rw [List.length_map]; omega
      obtain ⟨c0, c1, c2⟩ := HYW.out
      by_cases hyt : y = t
      · have e0 : (y != t) = false := by simp [hyt]
        have HE : Hid (q1 = (chainv (A.map (sr L n p))).1 ∧ q2 = (chainv (A.map (sr L n p))).2.1 ∧ q3 = (chainv (A.map (sr L n p))).2.2) := by
          have e := HV.out A (up n (pr L n p) (pr L n p y)) (by rw [← hA, up_yes HF.out hye, hyt]) htA
          rw [← e, HQ.out]; exact ⟨rfl, rfl, rfl⟩
        obtain ⟨sa, sc, rfl, -, hRs⟩ := ho.reads (fun z hz => by obtain ⟨v, -, rfl⟩ := List.mem_map.1 hz; exact HSI.out v)
        have hch := r5chain_any sa sc _ wr hRs (by omega)
        generalize (chainv (A.map (sr L n p))).1 = k1 at *; generalize (chainv (A.map (sr L n p))).2.1 = k2 at *; generalize (chainv (A.map (sr L n p))).2.2 = k3 at *
        generalize (A.map (sr L n p)).length = ls at *
        obtain ⟨rfl, rfl, rfl⟩ := HE.out
        have HOO := Lib.hid (HO0.out.below hb)
        clear hb hRs HE ho hA htA hty hye hyt hAl HQ HV
        go_wp2_with fail
        refine hch.mono ?_; clear hch; rintro e w6 ⟨rfl, hb6⟩
        have HB6 : Hid (Below w.heap.size w w6) := HB0.out.trans ((HB.out.trans (hb6.mono HB.out.size)).mono HB0.out.size)
        obtain ⟨⟨o0, o1, o2⟩, f1, f2⟩ := HOO.out.below hb6
        clear hb6 c0 c1 c2
        go_wp2_with fail
        refine bodyPost_ret (v := .tuple #[.agg #[.int .i64 q1, .int .i64 q2], .int .i64 q3]) (by simp [results, Try.results25, go_sem, o0, o1]) rfl ⟨rfl, ?_⟩
        exact below_set2 HB6.out (by omega)
      · have e0 : (y != t) = true := by simpa using hyt
        have hsa := HSA.out wr y HB.out
        have HPY := Lib.hid (fun wz (q : Below W.heap.size W wz) => HPA.out wz y q)
        have HS : Hid ((A ++ [y]) ++ up n (pr L n p) (pr L n p y) = up n (pr L n p) x ∧ ¬ t ∈ A ++ [y] ∧ t ∈ up n (pr L n p) (pr L n p y)) := by
          refine ⟨by rw [← hA, up_yes HF.out hye, List.append_assoc]; rfl, fun q => ?_, ?_⟩
          · rcases List.mem_append.1 q with r | r
            · exact htA r
            · exact hyt (List.mem_singleton.1 r).symm
          · rw [up_yes HF.out hye] at hty
            exact (List.mem_cons.1 hty).resolve_left (fun r => hyt r.symm)
        have HL2 : Hid ((up n (pr L n p) y).length = (up n (pr L n p) (pr L n p y)).length + 1) := by show _ = _; rw [up_yes HF.out hye, List.length_cons]
        have HMP : Hid ((A ++ [y]).map (sr L n p) = A.map (sr L n p) ++ [sr L n p y]) := by show _ = _; rw [List.map_append]; rfl
        generalize pr L n p y = z at *
        generalize sr L n p y = sy at *
        generalize A.map (sr L n p) = M at *
        clear hb ho hA htA hty hye hyt
        go_wp2_with fail
        refine hsa.mono ?_; clear hsa; rintro e w3 ⟨rfl, hb3⟩
        have HO3 := Lib.hid (HO.out.below hb3)
        have HB3 : Hid (Below W.heap.size W w3) := HB.out.trans (hb3.mono HB.out.size)
        have hsz := HB3.out.size
        clear hb3 c0 c1 c2
        go_wp2_with (at_builtin; refine wp_push w3 rfl (.tmp 23) (.tmp 27) rfl W.heap.size _ M sy rfl HO3.out rfl (by omega) hsz ?_; intro v5 w5 ho5 hb5; obtain ⟨c0, c1, c2⟩ := HY.out.below (HB3.out.trans hb5))
        rw [← HMP.out] at ho5
        have HO5 := Lib.hid ho5
        have HB5 : Hid (Below W.heap.size W w5) := HB3.out.trans hb5
        have hpy := HPY.out w5 HB5.out
        clear ho5 hb5 hsz
        refine hpy.mono ?_; clear hpy; rintro e w6 ⟨rfl, hb6⟩
        have HO6 := Lib.hid (HO5.out.below hb6)
        have HB6 : Hid (Below W.heap.size W w6) := HB5.out.trans (hb6.mono HB5.out.size)
        clear hb6 c0 c1 c2
        go_wp2_with fail
        go_roundw
        · exact ⟨z, A ++ [y], rfl, HO6.out, HS.out.1, HS.out.2.1, HS.out.2.2, HB6.out⟩
        · have := HL2.out; simp [RowKit.intOf]; omega
  · rw [decide_eq_false hm] at hab
    rw [show hdv n (pr L n p) (sr L n p) t x = (0, 0, 20) from if_neg hm]
    obtain ⟨c0, c1, c2⟩ := HY.out
    clear hL hf hs hn hb2 hm HQ HV
    go_enter Try.func25, Try.ntmps25
    go_wp2_with fail
    generalize hW : (w.alloc (fC a c L n p)).alloc (.cells #[.int .i64 0, .int .i64 0] 43) = W at *
    clear hW
    refine hab.mono ?_; clear hab; rintro e w1 ⟨rfl, hb1⟩
    obtain ⟨⟨o0, o1, o2⟩, f1, f2⟩ := HO0.out.below hb1
    have HB6 : Hid (Below w.heap.size w w1) := HB0.out.trans (hb1.mono HB0.out.size)
    clear hb1 c0 c1 c2
    go_wp2_with fail
    refine bodyPost_ret (v := .tuple #[.agg #[.int .i64 0, .int .i64 0], .int .i64 20]) (by simp [results, Try.results25, go_sem, o0, o1]) rfl ⟨rfl, ?_⟩
    first | exact HB6.out | exact below_set2 HB6.out (by omega)
set_option maxHeartbeats 4000000 in
set_option maxRecDepth 100000 in
theorem r19at_no (a : Option Addr) (c : Nat) (L : List K4) (n p : Int) (w : World) (hL : RdQ w a L) (hl : L.length ≤ 1000000) (hlc : L.length ≤ c) (he : atE L n p ≠ 0) :
    Calls Try.prog 9 #[.slice a L.length c, .int .i64 n, .int .i64 p] w fun e w' => e = .returned (.tuple #[.agg #[.slice none 0 0, .int .i64 0, .int .i64 0], .int .i64 (atE L n p)]) ∧ Below w.heap.size w w' := by
  have hb := below1 w (.cells #[.slice none 0 0, .int .i64 0, .int .i64 0] 29)
  have HO := Lib.hid (Ow3.new w (.slice none 0 0) (.int .i64 0) (.int .i64 0) 29)
  have hck := r18check a c L n _ (hL.below hb) hl hlc
  have HB := Lib.hid hb
  obtain ⟨⟨o0, o1, o2⟩, f0, f1, f2⟩ := HO.out
  clear hL hb
  by_cases h1 : n < 0
  · have d1 : decide (n < 0) = true := decide_eq_true h1
    rw [show atE L n p = 20 from if_pos (Or.inl h1)]
    clear he h1 hck
    go_enter Try.func9, Try.ntmps9
    go_wp2_with fail
    refine bodyPost_ret (v := .tuple #[.agg #[.slice none 0 0, .int .i64 0, .int .i64 0], .int .i64 20]) (by simp [results, Try.results9, go_sem, o0, o1, o2]) rfl ⟨rfl, ?_⟩
    first | exact HB.out | exact below_set3 HB.out (Nat.le_refl _)
  · have d1 : decide (n < 0) = false := decide_eq_false h1
    by_cases h2 : 40 < n
    · have d2 : decide (40 < n) = true := decide_eq_true h2
      rw [show atE L n p = 20 from if_pos (Or.inr h2)]
      clear he h1 h2 hck
      go_enter Try.func9, Try.ntmps9
      go_wp2_with fail
      refine bodyPost_ret (v := .tuple #[.agg #[.slice none 0 0, .int .i64 0, .int .i64 0], .int .i64 20]) (by simp [results, Try.results9, go_sem, o0, o1, o2]) rfl ⟨rfl, ?_⟩
      first | exact HB.out | exact below_set3 HB.out (Nat.le_refl _)
    · have d2 : decide (40 < n) = false := decide_eq_false h2
      have e0 : atE L n p = if p < 0 ∨ 24 ≤ p then 22 else chE L n := if_neg (fun q => q.elim h1 h2)
      rw [e0] at he ⊢
      clear e0
      by_cases h3 : p < 0 ∨ 24 ≤ p
      · rw [if_pos h3]
        have hd : (p < 0) ∨ (¬ p < 0 ∧ 24 ≤ p) := by omega
        rcases hd with h4 | ⟨h4, h5⟩
        · have d3 : decide (p < 0) = true := decide_eq_true h4
          clear he h1 h2 h3 h4 hck
          go_enter Try.func9, Try.ntmps9
          go_wp2_with fail
          refine bodyPost_ret (v := .tuple #[.agg #[.slice none 0 0, .int .i64 0, .int .i64 0], .int .i64 22]) (by simp [results, Try.results9, go_sem, o0, o1, o2]) rfl ⟨rfl, ?_⟩
          first | exact HB.out | exact below_set3 HB.out (Nat.le_refl _)
        · have d3 : decide (p < 0) = false := decide_eq_false h4
          have d4 : decide (24 ≤ p) = true := decide_eq_true h5
          clear he h1 h2 h3 h4 h5 hck
          go_enter Try.func9, Try.ntmps9
          go_wp2_with fail
          refine bodyPost_ret (v := .tuple #[.agg #[.slice none 0 0, .int .i64 0, .int .i64 0], .int .i64 22]) (by simp [results, Try.results9, go_sem, o0, o1, o2]) rfl ⟨rfl, ?_⟩
          first | exact HB.out | exact below_set3 HB.out (Nat.le_refl _)
      · rw [if_neg h3] at he ⊢
        have d3 : decide (p < 0) = false := decide_eq_false (by omega)
        have d4 : decide (24 ≤ p) = false := decide_eq_false (by omega)
        have d5 : (chE L n != 0) = true := by simpa using he
        generalize chV L n = cv at *
        generalize chE L n = ce at *
        clear he h1 h2 h3
        go_enter Try.func9, Try.ntmps9
        go_wp2_with fail
        refine hck.mono ?_; clear hck; rintro e w1 ⟨rfl, hb1⟩
        have HB1 : Hid (Below w.heap.size w w1) := HB.out.trans (hb1.mono HB.out.size)
        obtain ⟨⟨o0, o1, o2⟩, f0, f1, f2⟩ := HO.out.below hb1
        clear hb1
        go_wp2_with fail
        refine bodyPost_ret (v := .tuple #[.agg #[.slice none 0 0, .int .i64 0, .int .i64 0], .int .i64 ce]) (by simp [results, Try.results9, go_sem, o0, o1, o2]) rfl ⟨rfl, ?_⟩
        first | exact HB1.out | exact below_set3 HB1.out (Nat.le_refl _)
set_option maxHeartbeats 4000000 in
set_option maxRecDepth 100000 in
theorem r19at_yes (a : Option Addr) (c : Nat) (L : List K4) (n p : Int) (w : World) (hL : RdQ w a L) (hl : L.length ≤ 1000000) (hlc : L.length ≤ c) (he : atE L n p = 0) :
    Calls Try.prog 9 #[.slice a L.length c, .int .i64 n, .int .i64 p] w fun e w' => e = .returned (.tuple #[fV a c L n p, .int .i64 0]) ∧ Below w.heap.size w w' := by
  have hb := below1 w (.cells #[.slice none 0 0, .int .i64 0, .int .i64 0] 29)
  have HO := Lib.hid (Ow3.new w (.slice none 0 0) (.int .i64 0) (.int .i64 0) 29)
  have hck := r18check a c L n _ (hL.below hb) hl hlc
  have HB := Lib.hid hb
  obtain ⟨h1, h2, h3⟩ := atE_zero he
  rw [h3] at hck
  have d1 : decide (n < 0) = false := decide_eq_false (by omega)
  have d2 : decide (40 < n) = false := decide_eq_false (by omega)
  have d3 : decide (p < 0) = false := decide_eq_false (by omega)
  have d4 : decide (24 ≤ p) = false := decide_eq_false (by omega)
  generalize chV L n = cv at *
  clear hL hb he h1 h2 h3
  go_enter Try.func9, Try.ntmps9
  go_wp2_with fail
  refine hck.mono ?_; clear hck; rintro e w1 ⟨rfl, hb1⟩
  have HB1 : Hid (Below w.heap.size w w1) := HB.out.trans (hb1.mono HB.out.size)
  obtain ⟨⟨o0, o1, o2⟩, f0, f1, f2⟩ := HO.out.below hb1
  clear hb1
  go_wp2_with fail
  refine bodyPost_ret (v := .tuple #[fV a c L n p, .int .i64 0]) (by simp [results, Try.results9, go_sem, o0, o1, o2]) rfl ⟨rfl, ?_⟩
  exact below_set3 HB1.out (Nat.le_refl _)
end Go.Proofs.Ytebjmnppeohdiaa
