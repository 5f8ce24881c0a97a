/-
  What the landed At answers. The condition: a row of at most 1000000.
-/
import Derived.Test.YtebjmnppeohdiaaFr1
import Derived.Test.YtebjmnppeohdiaaStkB
import Derived.Test.YtebjmnppeohdiaaSt1
namespace Go.Proofs.Ytebjmnppeohdiaa
open Go.RowKit
set_option linter.unusedSimpArgs false
set_option linter.unusedVariables false

/-- The cells of a forest's block. -/
structure CelB (w : World) (B : Nat) (g : Nat → Value) : Prop where
  lt : B < w.heap.size
  at' : ∀ i, i < 81 → w.cell? ⟨B, i, none⟩ = some (g i)
  free : ∀ i, i < 81 → w.frozen? ⟨B, i, none⟩ = false
theorem CelB.below {w w' : World} {B : Nat} {g : Nat → Value} (h : CelB w B g) (hb : Below w.heap.size w w') : CelB w' B g :=
  ⟨Nat.lt_of_lt_of_le h.lt hb.size, fun i hi => (hb.cell (p := ⟨B, i, none⟩) h.lt).trans (h.at' i hi), fun i hi => by
    rw [← h.free i hi]
    have := hb.block B h.lt
    simp only [World.frozen?]
    rw [this]⟩
theorem CelB.set {w : World} {B : Nat} {g : Nat → Value} (h : CelB w B g) {i : Nat} (hi : i < 81) (v : Value) : CelB (w.setCell ⟨B, i, none⟩ v) B (fun j => if j = i then v else g j) := by
  refine ⟨by simpa using h.lt, fun j hj => ?_, fun j hj => by have := h.free j hj; simpa using this⟩
  by_cases e : j = i
  · subst e
    rw [if_pos rfl]
    exact World.cell?_setCell_same _ _ _ (h.at' j hj)
  · rw [World.cell?_setCell_other _ _ _ _ (fun q => e (by cases q; rfl)), if_neg e]
    exact h.at' j hj
theorem zero_cells : Try.zeroCells58 = Array.replicate 81 (.int .i64 0) := by kernel_rfl
def fg0 (n : Int) (i : Nat) : Value := if i = 0 then .int .i64 n else .int .i64 0
theorem CelB.new (n : Int) (w : World) : CelB (w.alloc (.cells (Try.zeroCells58.setIfInBounds 0 (.int .i64 n)) 58)) w.heap.size (fg0 n) := by
  rw [zero_cells]
  refine ⟨by simp, fun i hi => ?_, fun i hi => ?_⟩
  · simp only [World.cell?_alloc_at, fg0]
    by_cases e : i = 0
    · subst e; simp
    · rw [if_neg e, Array.getElem?_setIfInBounds, if_neg (fun q => e q.symm), Array.getElem?_replicate, if_pos hi]
  · simp
/-- So many of them are laid. -/
def FrP (w : World) (B : Nat) (n : Int) (f s : Int → Int) (k : Nat) : Prop := ∃ g, CelB w B g ∧ g 0 = .int .i64 n ∧ ∀ i, i < k → g (1 + i * 2) = .int .i64 (f ((i : Int) + 1)) ∧ g (1 + i * 2 + 1) = .int .i64 (s ((i : Int) + 1))
theorem FrP.below {w w' : World} {B : Nat} {n : Int} {f s : Int → Int} {k : Nat} (h : FrP w B n f s k) (hb : Below w.heap.size w w') : FrP w' B n f s k := by
  obtain ⟨g, h1, h2, h3⟩ := h
  exact ⟨g, h1.below hb, h2, h3⟩
theorem FrP.cells {w : World} {B : Nat} {n : Int} {f s : Int → Int} {k : Nat} (h : FrP w B n f s k) (hk : k < 40) : ∃ x y, w.cell? ⟨B, 1 + k * 2, none⟩ = some x ∧ w.cell? ⟨B, 1 + k * 2 + 1, none⟩ = some y ∧ w.frozen? ⟨B, 1 + k * 2, none⟩ = false ∧ w.frozen? ⟨B, 1 + k * 2 + 1, none⟩ = false := by
  obtain ⟨g, h1, h2, h3⟩ := h
  exact ⟨_, _, h1.at' _ (by omega), h1.at' _ (by omega), h1.free _ (by omega), h1.free _ (by omega)⟩
theorem FrP.next {w : World} {B : Nat} {n : Int} {f s : Int → Int} {k : Nat} (h : FrP w B n f s k) (hk : k < 40) {u v : Int} (hu : f ((k : Int) + 1) = u) (hv : s ((k : Int) + 1) = v) : FrP ((w.setCell ⟨B, 1 + k * 2, none⟩ (.int .i64 u)).setCell ⟨B, 1 + k * 2 + 1, none⟩ (.int .i64 v)) B n f s (k + 1) := by
  obtain ⟨g, h1, h2, h3⟩ := h
  refine ⟨_, (h1.set (by omega) _).set (by omega) _, ?_, fun i hi => ?_⟩
  · show (if 0 = 1 + k * 2 + 1 then _ else if 0 = 1 + k * 2 then _ else g 0) = _
    rw [if_neg (by omega), if_neg (by omega)]; exact h2
  · show (if 1 + i * 2 = 1 + k * 2 + 1 then _ else if 1 + i * 2 = 1 + k * 2 then _ else g (1 + i * 2)) = _ ∧ (if 1 + i * 2 + 1 = 1 + k * 2 + 1 then _ else if 1 + i * 2 + 1 = 1 + k * 2 then _ else g (1 + i * 2 + 1)) = _
    by_cases e : i = k
    · subst e
      rw [if_neg (by omega), if_pos rfl, if_pos rfl, hu, hv]
      exact ⟨rfl, rfl⟩
    · have := h3 i (by omega)
      rw [if_neg (by omega), if_neg (by omega), if_neg (by omega), if_neg (by omega)]
      exact this
theorem FrP.done {w : World} {B : Nat} {n : Int} {f s : Int → Int} (h : FrP w B n f s n.toNat) (h0 : 0 ≤ n) (h4 : n ≤ 40) (hf : ∀ x, ¬ Ent n x → f x = 0) (hs : ∀ x, ¬ Ent n x → s x = 0) : FrB w B n f s := by
  obtain ⟨g, h1, h2, h3⟩ := h
  refine ⟨h0, h4, (h1.at' 0 (by omega)).trans (by rw [h2]), fun x hx => ?_, fun x hx => ?_, hf, hs⟩ <;> unfold Ent at hx <;> have h5 := h3 (x - 1).toNat (by omega) <;> rw [show (((x - 1).toNat : Nat) : Int) + 1 = x by omega] at h5
  · rw [h1.at' _ (by omega), h5.1]
  · rw [h1.at' _ (by omega), h5.2]
theorem wrap_nat' {j : Nat} (h : j < 1000000) : wrap64 ((j : Int) + 1) = (j : Int) + 1 := by unfold wrap64; omega
set_option maxHeartbeats 4000000 in
set_option maxRecDepth 100000 in
theorem fat_c (a : Option Addr) (c : Nat) (L : List K4) (n p : Int) (w : World) (hL : RdQ w a L) (hl : L.length ≤ 1000000) (hn : ¬ (n < 0 ∨ 40 < n)) (hp : ¬ (p < 0 ∨ 24 ≤ p)) (he : chE L n = 0) :
    Calls Try.prog 8 #[.slice a L.length c, .int .i64 n, .int .i64 p] w fun e w' => ∃ B, e = .returned (.tuple #[ptr B, .int .i64 0]) ∧ FrB w' B n (pr L n p) (sr L n p) ∧ w.heap.size ≤ B ∧ Below w.heap.size w w' := by
  have HL := Lib.hid hL
  have hck := check_s a c L n w hL hl
  rw [he] at hck
  have d1 : decide (n < 0) = false := decide_eq_false (by omega)
  have d2 : decide (40 < n) = false := decide_eq_false (by omega)
  have d3 : decide (p < 0) = false := decide_eq_false (by omega)
  have d4 : decide (24 ≤ p) = false := decide_eq_false (by omega)
  have HN : Hid (0 ≤ n ∧ n ≤ 40) := ⟨by omega, by omega⟩
  generalize chV L n = cv at *
  clear hL he hn hp
  go_enter Try.func8, Try.ntmps8
  go_wp2_with fail
  refine hck.mono ?_; clear hck; rintro e w1 ⟨rfl, hb1⟩
  have HB1 := Lib.hid hb1
  have hF0 : FrP (w1.alloc (.cells (Try.zeroCells58.setIfInBounds 0 (.int .i64 n)) 58)) w1.heap.size n (pr L n p) (sr L n p) 0 := ⟨_, CelB.new n w1, rfl, fun i hi => by cases hi⟩
  have hb2 : Below w.heap.size w (w1.alloc (.cells (Try.zeroCells58.setIfInBounds 0 (.int .i64 n)) 58)) := hb1.trans ((below1 w1 _).mono hb1.size)
  have HF0 := Lib.hid hF0
  have HB2 := Lib.hid hb2
  have HSZ : Hid (w.heap.size ≤ w1.heap.size) := hb1.size
  clear hb1 hF0 hb2
  go_wp2_with fail
  generalize w1.alloc (.cells (Try.zeroCells58.setIfInBounds 0 (.int .i64 n)) 58) = w2 at *
  generalize w1.heap.size = B at *
  clear d1 d2 d3 d4
  go_loopw [39] (fun i wr => ∃ k : Nat, k ≤ n.toNat ∧ i = .int .i64 (k : Int) ∧ FrP wr B n (pr L n p) (sr L n p) k ∧ Below w.heap.size w wr) (fun i _ => n.toNat - (RowKit.intOf i).toNat)
  case atStart => exact ⟨0, Nat.zero_le _, rfl, HF0.out, HB2.out⟩
  case round =>
    clear HF0 HB2
    obtain ⟨k, hk, rfl, hF, hb⟩ := hrel
    have HB := Lib.hid hb
    have HF := Lib.hid hF
    by_cases hlt : k < n.toNat
    · have hk40 : k < 40 := by have := HN.out; omega
      have t0 : decide ((k : Int) < n) = true := decide_eq_true (by omega)
      have i0 : (0 : Int) ≤ (k : Int) := by omega
      have i1 : (k : Int) < 40 := by omega
      have e1 := wrap_nat' (show k < 1000000 by omega)
      have e2 : IntKind.i64.wrap ((k : Int) + 1) = (k : Int) + 1 := by rw [IntKind.wrap_i64]; omega
      have HAT : Hid (∀ wz, Below wr.heap.size wr wz → Calls Try.prog 31 #[.slice a L.length c, .int .i64 (IntKind.i64.wrap ((k : Int) + 1)), .int .i64 p] wz fun e w' => e = .returned (.tuple #[.int .i64 (upv L ((k : Int) + 1) p), .int .i64 (shv L ((k : Int) + 1) p)]) ∧ Below wz.heap.size wz w') := fun wz q => by
        rw [e2]; exact at_s a c L ((k : Int) + 1) p wz (HL.out.below (hb.trans (q.mono hb.size))) hl
      have HFW : Hid (∀ wz, Below wr.heap.size wr wz → ∃ x y, wz.cell? ⟨B, 1 + k * 2, none⟩ = some x ∧ wz.cell? ⟨B, 1 + k * 2 + 1, none⟩ = some y ∧ wz.frozen? ⟨B, 1 + k * 2, none⟩ = false ∧ wz.frozen? ⟨B, 1 + k * 2 + 1, none⟩ = false) := fun wz q => (hF.below q).cells hk40
      have K := Lib.hid (Below.refl wr.heap.size wr)
      have hy : Ent n ((k : Int) + 1) := by unfold Ent; omega
      have HU : Hid (pr L n p ((k : Int) + 1) = upv L ((k : Int) + 1) p ∧ sr L n p ((k : Int) + 1) = shv L ((k : Int) + 1) p) := ⟨pr_yes hy, sr_yes hy⟩
      generalize upv L ((k : Int) + 1) p = u at *
      generalize shv L ((k : Int) + 1) p = v at *
      have HR : Hid (∀ w', FrP w' B n (pr L n p) (sr L n p) (k + 1) → Below w.heap.size w w' → ∃ k' : Nat, k' ≤ n.toNat ∧ Value.int .i64 ((k : Int) + 1) = .int .i64 (k' : Int) ∧ FrP w' B n (pr L n p) (sr L n p) k' ∧ Below w.heap.size w w') := fun w' h1 h2 => ⟨k + 1, by omega, by go_num, h1, h2⟩
      have HM : Hid (n.toNat - (k + 1) < n.toNat - k) := by show _ < _; omega
      clear hb hF hy hlt e2
      go_wp2_with fail
      go_region_held3 (fun _ => True) (trivial)
        (first
          | (go_at_call 31; (with_reducible first | refine (HAT.out _ K.out.drew).mono ?_ | refine (HAT.out _ K.out).mono ?_); rintro e wn ⟨rfl, hbn⟩; (first | replace K := Lib.hid (K.out.drew.trans (hbn.mono K.out.drew.size)) | replace K := Lib.hid (K.out.trans (hbn.mono K.out.size))); clear hbn; obtain ⟨xx, yy, c0, c1, f0, f1⟩ := HFW.out wn K.out))
      all_goals go_wp2_with fail
      all_goals go_roundw
      · (first | exact HR.out _ ((HF.out.below K.out).next hk40 HU.out.1 HU.out.2) (((HB.out.trans (K.out.mono HB.out.size)).setCell (p := ⟨B, 1 + k * 2, none⟩) HSZ.out _).setCell (p := ⟨B, 1 + k * 2 + 1, none⟩) HSZ.out _) | (rw [e1]; exact HR.out _ ((HF.out.below K.out).next hk40 HU.out.1 HU.out.2) (((HB.out.trans (K.out.mono HB.out.size)).setCell (p := ⟨B, 1 + k * 2, none⟩) HSZ.out _).setCell (p := ⟨B, 1 + k * 2 + 1, none⟩) HSZ.out _)))
      · have := HM.out; simp [RowKit.intOf]; omega
    · obtain rfl : k = n.toNat := by omega
      have t0 : decide (((n.toNat : Nat) : Int) < n) = false := decide_eq_false (by omega)
      have HE := Lib.hid (hF.done HN.out.1 HN.out.2 (fun x hx => pr_no hx) (fun x hx => sr_no hx))
      clear hb hF hlt hk
      go_wp2_with fail
      go_ret2
      exact ⟨B, rfl, HE.out, HSZ.out, HB.out⟩
/-- What is told of a forest's numbers and stakes. -/
def atE (L : List K4) (n p : Int) : Int := if n < 0 ∨ 40 < n then 20 else if p < 0 ∨ 24 ≤ p then 22 else chE L n
theorem atE_zero {L : List K4} {n p : Int} (h : atE L n p = 0) : ¬ (n < 0 ∨ 40 < n) ∧ ¬ (p < 0 ∨ 24 ≤ p) ∧ chE L n = 0 := by
  unfold atE at h
  split at h
  · omega
  · split at h
    · omega
    · rename_i h1 h2
      exact ⟨h1, h2, h⟩
set_option maxHeartbeats 4000000 in
set_option maxRecDepth 100000 in
theorem fat_no (a : Option Addr) (c : Nat) (L : List K4) (n p : Int) (w : World) (hL : RdQ w a L) (hl : L.length ≤ 1000000) (he : atE L n p ≠ 0) :
    Calls Try.prog 8 #[.slice a L.length c, .int .i64 n, .int .i64 p] w fun e w' => e = .returned (.tuple #[.pointer none, .int .i64 (atE L n p)]) ∧ Below w.heap.size w w' := by
  have hck := check_s a c L n w hL hl
  clear hL
  by_cases h1 : n < 0
  · have d1 : decide (n < 0) = true := decide_eq_true h1
    rw [show atE L n p = 20 from if_pos (Or.inl h1)]
    clear he h1 hck
    go_enter Try.func8, Try.ntmps8
    go_wp2_with fail
    go_ret2
    exact ⟨rfl, Below.refl _ _⟩
  · have d1 : decide (n < 0) = false := decide_eq_false h1
    by_cases h2 : 40 < n
    · have d2 : decide (40 < n) = true := decide_eq_true h2
      rw [show atE L n p = 20 from if_pos (Or.inr h2)]
      clear he h1 h2 hck
      go_enter Try.func8, Try.ntmps8
      go_wp2_with fail
      go_ret2
      exact ⟨rfl, Below.refl _ _⟩
    · have d2 : decide (40 < n) = false := decide_eq_false h2
      have e0 : atE L n p = if p < 0 ∨ 24 ≤ p then 22 else chE L n := if_neg (fun q => q.elim h1 h2)
      rw [e0] at he ⊢
      clear e0
      by_cases h3 : p < 0
      · have d3 : decide (p < 0) = true := decide_eq_true h3
        rw [if_pos (Or.inl h3)]
        clear he h1 h2 h3 hck
        go_enter Try.func8, Try.ntmps8
        go_wp2_with fail
        go_ret2
        exact ⟨rfl, Below.refl _ _⟩
      · have d3 : decide (p < 0) = false := decide_eq_false h3
        by_cases h4 : 24 ≤ p
        · have d4 : decide (24 ≤ p) = true := decide_eq_true h4
          rw [if_pos (Or.inr h4)]
          clear he h1 h2 h3 h4 hck
          go_enter Try.func8, Try.ntmps8
          go_wp2_with fail
          go_ret2
          exact ⟨rfl, Below.refl _ _⟩
        · have d4 : decide (24 ≤ p) = false := decide_eq_false h4
          rw [if_neg (fun q => q.elim h3 h4)] at he ⊢
          have d5 : (chE L n != 0) = true := by simpa using he
          generalize chV L n = cv at *
          generalize chE L n = ce at *
          clear he h1 h2 h3 h4
          go_enter Try.func8, Try.ntmps8
          go_wp2_with fail
          refine hck.mono ?_; clear hck; rintro e w1 ⟨rfl, hb1⟩
          have HB1 := Lib.hid hb1
          clear hb1
          go_wp2_with fail
          go_ret2
          exact ⟨rfl, HB1.out⟩
end Go.Proofs.Ytebjmnppeohdiaa
