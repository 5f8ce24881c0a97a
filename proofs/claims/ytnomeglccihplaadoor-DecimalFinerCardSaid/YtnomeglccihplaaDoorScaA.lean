/-
  What scale's own division of words (divided) answers. The condition: the divisor is from 1 to 2^63 - 1.
-/
import Derived.Test.YtnomeglccihplaaDoorDivX
import Derived.Test.YtnomeglccihplaaDoorKeepG
namespace Go.Proofs.YtnomeglccihplaaDoor
open Go.RowKit
set_option linter.unusedSimpArgs false
set_option linter.unusedVariables false

theorem Ow2.put0 {w : World} {k : Nat} {p q a : Value} (h : Ow2 w k p q) : Ow2 (w.setCell ⟨k, 0, none⟩ a) k a q := by
  obtain ⟨⟨h1, h2, h3⟩, h4, h5⟩ := h
  refine ⟨⟨?_, ?_, by simpa [World.setCell] using h3⟩, ?_, ?_⟩ <;> simp [go_sem, h1, h2, h4, h5]
theorem Ow2.put1 {w : World} {k : Nat} {p q a : Value} (h : Ow2 w k p q) : Ow2 (w.setCell ⟨k, 1, none⟩ a) k p a := by
  obtain ⟨⟨h1, h2, h3⟩, h4, h5⟩ := h
  refine ⟨⟨?_, ?_, by simpa [World.setCell] using h3⟩, ?_, ?_⟩ <;> simp [go_sem, h1, h2, h4, h5]

/-- One word more is divided: what is above, and the word, by D. -/
def dq (l a D : Nat) : Nat := (l * 18446744073709551616 + a) / D
def dr (l a D : Nat) : Nat := (l * 18446744073709551616 + a) % D
theorem dr_lt {l a D : Nat} (h : 0 < D) : dr l a D < D := Nat.mod_lt _ h
theorem dq_lt {l a D : Nat} (h : l < D) (ha : a < 18446744073709551616) : dq l a D < 18446744073709551616 := by
  unfold dq; rw [Nat.div_lt_iff_lt_mul (by omega)]
  have : (l + 1) * 18446744073709551616 ≤ D * 18446744073709551616 := Nat.mul_le_mul_right _ h
  omega
theorem dq_none {a D : Nat} (h : a < D) : dq 0 a D = 0 ∧ dr 0 a D = a := by
  unfold dq dr; rw [Nat.zero_mul, Nat.zero_add]; exact ⟨Nat.div_eq_of_lt h, Nat.mod_eq_of_lt h⟩

theorem div64_d (l a D : Nat) (hy0 : 0 < D) (hy : D < 9223372036854775808) (hlo : a < 18446744073709551616) (hhi : l < D) (w : World) :
    Calls Tryd.prog 92 #[.int .u64 (l : Int), .int .u64 (a : Int), .int .u64 (D : Int)] w fun e w' =>
      e = .returned (.tuple #[.int .u64 (dq l a D : Int), .int .u64 (dr l a D : Int)]) ∧ Below w.heap.size w w' := by
  unfold dq dr; exact div64_any l a D hy0 hy hlo hhi w
theorem none_i {l a D : Nat} (h : l = 0) (h2 : a < D) : (dq l a D : Int) = 0 ∧ (dr l a D : Int) = (a : Int) := by
  have := dq_none h2; rw [h]; exact ⟨by rw [this.1]; rfl, by rw [this.2]⟩
theorem zero_i {l : Nat} (h : l = 0) : ((l : Int) == 0) = true := by rw [h]; rfl
theorem some_i {l : Nat} (h : 0 < l) : ((l : Int) == 0) = false := by simp; omega

/-- What holds at the loop's head. -/
def DvRel (H L D l0 : Nat) (w : World) (k : Nat) (l at' : Value) (wr : World) : Prop :=
  Below w.heap.size w wr ∧ ((k = 2 ∧ at' = .int .i64 0 ∧ l = .int .u64 (l0 : Int) ∧ Ow2 wr (w.heap.size + 1) (.int .u64 (H : Int)) (.int .u64 (L : Int))) ∨
    (k = 1 ∧ at' = .int .i64 1 ∧ l = .int .u64 (dr l0 H D : Int) ∧ Ow2 wr (w.heap.size + 1) (.int .u64 (dq l0 H D : Int)) (.int .u64 (L : Int))) ∨
    (k = 0 ∧ at' = .int .i64 2 ∧ l = .int .u64 (dr (dr l0 H D) L D : Int) ∧ Ow2 wr (w.heap.size + 1) (.int .u64 (dq l0 H D : Int)) (.int .u64 (dq (dr l0 H D) L D : Int))))

set_option maxHeartbeats 8000000 in
set_option maxRecDepth 100000 in
theorem divided_p (h : Int) (H L D l0 : Nat) (w : World) (hh : 0 ≤ h) (eH : IntKind.u64.wrap h = (H : Int)) (hz : (l0 : Int) = 0) (hH : H < 18446744073709551616) (hL : L < 18446744073709551616) (hD : 0 < D) (hD2 : D < 9223372036854775808) (hl0 : l0 < D) :
    Calls Tryd.prog 83 #[.agg #[.int .i64 h, .int .u64 (L : Int)], .int .u64 (D : Int)] w fun e w' => e = .returned (.tuple #[.int .u64 (dq l0 H D : Int), .int .u64 (dq (dr l0 H D) L D : Int), .int .u64 (dr (dr l0 H D) L D : Int)]) ∧ Below w.heap.size w w' := by
  have HB := Lib.hid (And.intro hH (And.intro hL (And.intro hD (And.intro hD2 hl0))))
  have H0 : Hid (DvRel H L D l0 w 2 (.int .u64 (l0 : Int)) (.int .i64 0) ((w.alloc (.cells #[.int .i64 h, .int .u64 (L : Int)] 67)).alloc (.cells #[.int .u64 (H : Int), .int .u64 (L : Int)] 127))) :=
    ⟨below2 _ _ _, Or.inl ⟨rfl, rfl, rfl, by simpa using Ow2.new (w.alloc (.cells #[.int .i64 h, .int .u64 (L : Int)] 67)) (.int .u64 (H : Int)) (.int .u64 (L : Int)) 127⟩⟩
  clear hH hL hD hD2 hl0
  go_enter Tryd.func83, Tryd.ntmps83
  go_wp2_with fail
  go_step3
  go_wp2_with fail
  go_step3
  go_wp2_with fail
  go_loopg [6, 8] 2 (fun k l at' wr => DvRel H L D l0 w k l at' wr)
  case atStart => have := H0.out; rwa [hz] at this
  case round =>
    clear H0 eH hh hz
    obtain ⟨hb, hc⟩ := hrel
    obtain ⟨hH, hL, hD, hD2, hl0⟩ := HB.out
    rcases hc with ⟨hk, rfl, rfl, ho⟩ | ⟨hk, rfl, rfl, ho⟩ | ⟨hk, rfl, rfl, ho⟩
    · have hq := dq_lt (l := l0) (a := H) (D := D) hl0 hH
      have hr := dr_lt (l := l0) (a := H) (D := D) hD
      have hV := fun w => div64_d l0 H D hD hD2 hH hl0 w
      have HO := Lib.hid (And.intro ho (And.intro hb hk))
      obtain ⟨⟨x0, x1, x2⟩, x3, x4⟩ := ho
      by_cases c1 : l0 = 0 ∧ H < D
      · obtain ⟨c1, c2⟩ := c1
        have HN : Hid ((dq l0 H D : Int) = 0 ∧ (dr l0 H D : Int) = (H : Int)) := none_i c1 c2
        have d1 : ((l0 : Int) == 0) = true := zero_i c1
        have d2 : (H : Int) < (D : Int) := by omega
        clear hq hr hV c1 c2 hH hL hD hD2 hl0 hb hk
        generalize g1 : (l0 : Int) = l at *; generalize g2 : (D : Int) = d at *; generalize g3 : (H : Int) = a at *
        have HE := Lib.hid g3
        clear g1 g2 g3
        go_wp2_with fail
        go_roundg 1
        case measure => have := HO.out.2.2; omega
        case rel =>
          refine ⟨HO.out.2.1.setCell (by show _ ≤ w.heap.size + 1; omega) _, Or.inr (Or.inl ⟨rfl, rfl, by rw [HN.out.2], by rw [HN.out.1]; exact HO.out.1.put0⟩)⟩
      · have d1 : (((l0 : Int) == 0) = true ∧ ¬ (H : Int) < (D : Int)) ∨ ((l0 : Int) == 0) = false := by
          rcases Nat.eq_zero_or_pos l0 with h | h
          · left; exact ⟨zero_i h, by omega⟩
          · right; exact some_i h
        clear hq hr c1 hH hL hD hD2 hl0 hb hk
        generalize g1 : (l0 : Int) = l at *; generalize g2 : (H : Int) = a at *; generalize g3 : (D : Int) = d at *
        generalize g4 : (dq l0 H D : Int) = q at *; generalize g5 : (dr l0 H D : Int) = r at *
        have HE := Lib.hid (And.intro g4 g5)
        clear g1 g2 g3 g4 g5
        rcases d1 with ⟨d1, d2⟩ | d1
        · obtain rfl : l = 0 := by simpa using d1
          clear d1
          go_wp2_with fail
          refine (hV _).mono ?_; rintro e w1 ⟨rfl, hb1⟩
          obtain ⟨⟨y0, y1, y2⟩, y3, y4⟩ := HO.out.1.below hb1
          go_wp2_with fail
          go_roundg 1
          case measure => have := HO.out.2.2; omega
          case rel =>
            have j := HO.out.2.1.trans (hb1.mono HO.out.2.1.size)
            refine ⟨j.setCell (by show _ ≤ w.heap.size + 1; omega) _, Or.inr (Or.inl ⟨rfl, rfl, by rw [HE.out.2], by rw [HE.out.1]; exact (HO.out.1.below hb1).put0⟩)⟩
        · go_wp2_with fail
          refine (hV _).mono ?_; rintro e w1 ⟨rfl, hb1⟩
          obtain ⟨⟨y0, y1, y2⟩, y3, y4⟩ := HO.out.1.below hb1
          go_wp2_with fail
          go_roundg 1
          case measure => have := HO.out.2.2; omega
          case rel =>
            have j := HO.out.2.1.trans (hb1.mono HO.out.2.1.size)
            refine ⟨j.setCell (by show _ ≤ w.heap.size + 1; omega) _, Or.inr (Or.inl ⟨rfl, rfl, by rw [HE.out.2], by rw [HE.out.1]; exact (HO.out.1.below hb1).put0⟩)⟩
    · have hq := dq_lt (l := (dr l0 H D)) (a := L) (D := D) (dr_lt hD) hL
      have hr := dr_lt (l := (dr l0 H D)) (a := L) (D := D) hD
      have hV := fun w => div64_d (dr l0 H D) L D hD hD2 hL (dr_lt hD) w
      have HO := Lib.hid (And.intro ho (And.intro hb hk))
      obtain ⟨⟨x0, x1, x2⟩, x3, x4⟩ := ho
      by_cases c1 : (dr l0 H D) = 0 ∧ L < D
      · obtain ⟨c1, c2⟩ := c1
        have HN : Hid ((dq (dr l0 H D) L D : Int) = 0 ∧ (dr (dr l0 H D) L D : Int) = (L : Int)) := none_i c1 c2
        have d1 : (((dr l0 H D) : Int) == 0) = true := zero_i c1
        have d2 : (L : Int) < (D : Int) := by omega
        clear hq hr hV c1 c2 hH hL hD hD2 hl0 hb hk
        generalize g1 : ((dr l0 H D) : Int) = l at *; generalize g2 : (D : Int) = d at *; generalize g3 : (L : Int) = a at *
        have HE := Lib.hid g3
        clear g1 g2 g3
        go_wp2_with fail
        go_roundg 0
        case measure => have := HO.out.2.2; omega
        case rel =>
          refine ⟨HO.out.2.1.setCell (by show _ ≤ w.heap.size + 1; omega) _, Or.inr (Or.inr ⟨rfl, rfl, by rw [HN.out.2], by rw [HN.out.1]; exact HO.out.1.put1⟩)⟩
      · have d1 : ((((dr l0 H D) : Int) == 0) = true ∧ ¬ (L : Int) < (D : Int)) ∨ (((dr l0 H D) : Int) == 0) = false := by
          rcases Nat.eq_zero_or_pos (dr l0 H D) with h | h
          · left; exact ⟨zero_i h, by omega⟩
          · right; exact some_i h
        clear hq hr c1 hH hL hD hD2 hl0 hb hk
        generalize g1 : ((dr l0 H D) : Int) = l at *; generalize g2 : (L : Int) = a at *; generalize g3 : (D : Int) = d at *
        generalize g4 : (dq (dr l0 H D) L D : Int) = q at *; generalize g5 : (dr (dr l0 H D) L D : Int) = r at *
        have HE := Lib.hid (And.intro g4 g5)
        clear g1 g2 g3 g4 g5
        rcases d1 with ⟨d1, d2⟩ | d1
        · obtain rfl : l = 0 := by simpa using d1
          clear d1
          go_wp2_with fail
          refine (hV _).mono ?_; rintro e w1 ⟨rfl, hb1⟩
          obtain ⟨⟨y0, y1, y2⟩, y3, y4⟩ := HO.out.1.below hb1
          go_wp2_with fail
          go_roundg 0
          case measure => have := HO.out.2.2; omega
          case rel =>
            have j := HO.out.2.1.trans (hb1.mono HO.out.2.1.size)
            refine ⟨j.setCell (by show _ ≤ w.heap.size + 1; omega) _, Or.inr (Or.inr ⟨rfl, rfl, by rw [HE.out.2], by rw [HE.out.1]; exact (HO.out.1.below hb1).put1⟩)⟩
        · go_wp2_with fail
          refine (hV _).mono ?_; rintro e w1 ⟨rfl, hb1⟩
          obtain ⟨⟨y0, y1, y2⟩, y3, y4⟩ := HO.out.1.below hb1
          go_wp2_with fail
          go_roundg 0
          case measure => have := HO.out.2.2; omega
          case rel =>
            have j := HO.out.2.1.trans (hb1.mono HO.out.2.1.size)
            refine ⟨j.setCell (by show _ ≤ w.heap.size + 1; omega) _, Or.inr (Or.inr ⟨rfl, rfl, by rw [HE.out.2], by rw [HE.out.1]; exact (HO.out.1.below hb1).put1⟩)⟩
    · obtain ⟨⟨x0, x1, x2⟩, x3, x4⟩ := ho
      clear HB hk hH hL hD hD2 hl0
      generalize g1 : (dr (dr l0 H D) L D : Int) = r at *; generalize g2 : (dq l0 H D : Int) = p at *; generalize g3 : (dq (dr l0 H D) L D : Int) = q at *
      have HE := Lib.hid (And.intro g1 (And.intro g2 g3))
      clear g1 g2 g3
      go_wp2_with fail
      go_region
      go_wp2_with fail
      try rw [Exit.noGoto_ret]
      go_ret3
      obtain ⟨rfl, rfl, rfl⟩ := HE.out
      exact ⟨rfl, hb.drew⟩

set_option maxHeartbeats 8000000 in
set_option maxRecDepth 100000 in
theorem divided_n (h : Int) (H L D l0 : Nat) (w : World) (hh : h < 0) (eH : IntKind.u64.wrap h = (H : Int)) (eL : IntKind.u64.wrap ((D : Int) - 1) = (l0 : Int)) (hH : H < 18446744073709551616) (hL : L < 18446744073709551616) (hD : 0 < D) (hD2 : D < 9223372036854775808) (hl0 : l0 < D) :
    Calls Tryd.prog 83 #[.agg #[.int .i64 h, .int .u64 (L : Int)], .int .u64 (D : Int)] w fun e w' => e = .returned (.tuple #[.int .u64 (dq l0 H D : Int), .int .u64 (dq (dr l0 H D) L D : Int), .int .u64 (dr (dr l0 H D) L D : Int)]) ∧ Below w.heap.size w w' := by
  have HB := Lib.hid (And.intro hH (And.intro hL (And.intro hD (And.intro hD2 hl0))))
  have H0 : Hid (DvRel H L D l0 w 2 (.int .u64 (l0 : Int)) (.int .i64 0) ((w.alloc (.cells #[.int .i64 h, .int .u64 (L : Int)] 67)).alloc (.cells #[.int .u64 (H : Int), .int .u64 (L : Int)] 127))) :=
    ⟨below2 _ _ _, Or.inl ⟨rfl, rfl, rfl, by simpa using Ow2.new (w.alloc (.cells #[.int .i64 h, .int .u64 (L : Int)] 67)) (.int .u64 (H : Int)) (.int .u64 (L : Int)) 127⟩⟩
  clear hH hL hD hD2 hl0
  go_enter Tryd.func83, Tryd.ntmps83
  go_wp2_with fail
  go_step3
  go_wp2_with fail
  go_step3
  go_wp2_with fail
  go_loopg [6, 8] 2 (fun k l at' wr => DvRel H L D l0 w k l at' wr)
  case atStart => exact H0.out
  case round =>
    clear H0 eH hh eL
    obtain ⟨hb, hc⟩ := hrel
    obtain ⟨hH, hL, hD, hD2, hl0⟩ := HB.out
    rcases hc with ⟨hk, rfl, rfl, ho⟩ | ⟨hk, rfl, rfl, ho⟩ | ⟨hk, rfl, rfl, ho⟩
    · have hq := dq_lt (l := l0) (a := H) (D := D) hl0 hH
      have hr := dr_lt (l := l0) (a := H) (D := D) hD
      have hV := fun w => div64_d l0 H D hD hD2 hH hl0 w
      have HO := Lib.hid (And.intro ho (And.intro hb hk))
      obtain ⟨⟨x0, x1, x2⟩, x3, x4⟩ := ho
      by_cases c1 : l0 = 0 ∧ H < D
      · obtain ⟨c1, c2⟩ := c1
        have HN : Hid ((dq l0 H D : Int) = 0 ∧ (dr l0 H D : Int) = (H : Int)) := none_i c1 c2
        have d1 : ((l0 : Int) == 0) = true := zero_i c1
        have d2 : (H : Int) < (D : Int) := by omega
        clear hq hr hV c1 c2 hH hL hD hD2 hl0 hb hk
        generalize g1 : (l0 : Int) = l at *; generalize g2 : (D : Int) = d at *; generalize g3 : (H : Int) = a at *
        have HE := Lib.hid g3
        clear g1 g2 g3
        go_wp2_with fail
        go_roundg 1
        case measure => have := HO.out.2.2; omega
        case rel =>
          refine ⟨HO.out.2.1.setCell (by show _ ≤ w.heap.size + 1; omega) _, Or.inr (Or.inl ⟨rfl, rfl, by rw [HN.out.2], by rw [HN.out.1]; exact HO.out.1.put0⟩)⟩
      · have d1 : (((l0 : Int) == 0) = true ∧ ¬ (H : Int) < (D : Int)) ∨ ((l0 : Int) == 0) = false := by
          rcases Nat.eq_zero_or_pos l0 with h | h
          · left; exact ⟨zero_i h, by omega⟩
          · right; exact some_i h
        clear hq hr c1 hH hL hD hD2 hl0 hb hk
        generalize g1 : (l0 : Int) = l at *; generalize g2 : (H : Int) = a at *; generalize g3 : (D : Int) = d at *
        generalize g4 : (dq l0 H D : Int) = q at *; generalize g5 : (dr l0 H D : Int) = r at *
        have HE := Lib.hid (And.intro g4 g5)
        clear g1 g2 g3 g4 g5
        rcases d1 with ⟨d1, d2⟩ | d1
        · obtain rfl : l = 0 := by simpa using d1
          clear d1
          go_wp2_with fail
          refine (hV _).mono ?_; rintro e w1 ⟨rfl, hb1⟩
          obtain ⟨⟨y0, y1, y2⟩, y3, y4⟩ := HO.out.1.below hb1
          go_wp2_with fail
          go_roundg 1
          case measure => have := HO.out.2.2; omega
          case rel =>
            have j := HO.out.2.1.trans (hb1.mono HO.out.2.1.size)
            refine ⟨j.setCell (by show _ ≤ w.heap.size + 1; omega) _, Or.inr (Or.inl ⟨rfl, rfl, by rw [HE.out.2], by rw [HE.out.1]; exact (HO.out.1.below hb1).put0⟩)⟩
        · go_wp2_with fail
          refine (hV _).mono ?_; rintro e w1 ⟨rfl, hb1⟩
          obtain ⟨⟨y0, y1, y2⟩, y3, y4⟩ := HO.out.1.below hb1
          go_wp2_with fail
          go_roundg 1
          case measure => have := HO.out.2.2; omega
          case rel =>
            have j := HO.out.2.1.trans (hb1.mono HO.out.2.1.size)
            refine ⟨j.setCell (by show _ ≤ w.heap.size + 1; omega) _, Or.inr (Or.inl ⟨rfl, rfl, by rw [HE.out.2], by rw [HE.out.1]; exact (HO.out.1.below hb1).put0⟩)⟩
    · have hq := dq_lt (l := (dr l0 H D)) (a := L) (D := D) (dr_lt hD) hL
      have hr := dr_lt (l := (dr l0 H D)) (a := L) (D := D) hD
      have hV := fun w => div64_d (dr l0 H D) L D hD hD2 hL (dr_lt hD) w
      have HO := Lib.hid (And.intro ho (And.intro hb hk))
      obtain ⟨⟨x0, x1, x2⟩, x3, x4⟩ := ho
      by_cases c1 : (dr l0 H D) = 0 ∧ L < D
      · obtain ⟨c1, c2⟩ := c1
        have HN : Hid ((dq (dr l0 H D) L D : Int) = 0 ∧ (dr (dr l0 H D) L D : Int) = (L : Int)) := none_i c1 c2
        have d1 : (((dr l0 H D) : Int) == 0) = true := zero_i c1
        have d2 : (L : Int) < (D : Int) := by omega
        clear hq hr hV c1 c2 hH hL hD hD2 hl0 hb hk
        generalize g1 : ((dr l0 H D) : Int) = l at *; generalize g2 : (D : Int) = d at *; generalize g3 : (L : Int) = a at *
        have HE := Lib.hid g3
        clear g1 g2 g3
        go_wp2_with fail
        go_roundg 0
        case measure => have := HO.out.2.2; omega
        case rel =>
          refine ⟨HO.out.2.1.setCell (by show _ ≤ w.heap.size + 1; omega) _, Or.inr (Or.inr ⟨rfl, rfl, by rw [HN.out.2], by rw [HN.out.1]; exact HO.out.1.put1⟩)⟩
      · have d1 : ((((dr l0 H D) : Int) == 0) = true ∧ ¬ (L : Int) < (D : Int)) ∨ (((dr l0 H D) : Int) == 0) = false := by
          rcases Nat.eq_zero_or_pos (dr l0 H D) with h | h
          · left; exact ⟨zero_i h, by omega⟩
          · right; exact some_i h
        clear hq hr c1 hH hL hD hD2 hl0 hb hk
        generalize g1 : ((dr l0 H D) : Int) = l at *; generalize g2 : (L : Int) = a at *; generalize g3 : (D : Int) = d at *
        generalize g4 : (dq (dr l0 H D) L D : Int) = q at *; generalize g5 : (dr (dr l0 H D) L D : Int) = r at *
        have HE := Lib.hid (And.intro g4 g5)
        clear g1 g2 g3 g4 g5
        rcases d1 with ⟨d1, d2⟩ | d1
        · obtain rfl : l = 0 := by simpa using d1
          clear d1
          go_wp2_with fail
          refine (hV _).mono ?_; rintro e w1 ⟨rfl, hb1⟩
          obtain ⟨⟨y0, y1, y2⟩, y3, y4⟩ := HO.out.1.below hb1
          go_wp2_with fail
          go_roundg 0
          case measure => have := HO.out.2.2; omega
          case rel =>
            have j := HO.out.2.1.trans (hb1.mono HO.out.2.1.size)
            refine ⟨j.setCell (by show _ ≤ w.heap.size + 1; omega) _, Or.inr (Or.inr ⟨rfl, rfl, by rw [HE.out.2], by rw [HE.out.1]; exact (HO.out.1.below hb1).put1⟩)⟩
        · go_wp2_with fail
          refine (hV _).mono ?_; rintro e w1 ⟨rfl, hb1⟩
          obtain ⟨⟨y0, y1, y2⟩, y3, y4⟩ := HO.out.1.below hb1
          go_wp2_with fail
          go_roundg 0
          case measure => have := HO.out.2.2; omega
          case rel =>
            have j := HO.out.2.1.trans (hb1.mono HO.out.2.1.size)
            refine ⟨j.setCell (by show _ ≤ w.heap.size + 1; omega) _, Or.inr (Or.inr ⟨rfl, rfl, by rw [HE.out.2], by rw [HE.out.1]; exact (HO.out.1.below hb1).put1⟩)⟩
    · obtain ⟨⟨x0, x1, x2⟩, x3, x4⟩ := ho
      clear HB hk hH hL hD hD2 hl0
      generalize g1 : (dr (dr l0 H D) L D : Int) = r at *; generalize g2 : (dq l0 H D : Int) = p at *; generalize g3 : (dq (dr l0 H D) L D : Int) = q at *
      have HE := Lib.hid (And.intro g1 (And.intro g2 g3))
      clear g1 g2 g3
      go_wp2_with fail
      go_region
      go_wp2_with fail
      try rw [Exit.noGoto_ret]
      go_ret3
      obtain ⟨rfl, rfl, rfl⟩ := HE.out
      exact ⟨rfl, hb.drew⟩
end Go.Proofs.YtnomeglccihplaaDoor
