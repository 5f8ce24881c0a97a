/-
  What the document's own wide numbers (gavelkindref02: Of, Fits, Told) are, as whole numbers. The condition of Fits and Told: at most 300 digits.
-/
import Derived.Test.YtclpigmomijliaaRefW
namespace Go.Proofs.Ytclpigmomijliaa
open Go.RowKit
set_option linter.unusedVariables false

theorem p64_len : (digs p64.natAbs).length ≤ 20 := digs_len _ _ (by unfold p64; omega)
theorem inU_len {x : Int} (h : InU x) : (digs x.natAbs).length ≤ 20 := digs_len _ _ (by unfold InU at h; omega)
theorem wide_len {h l : Int} (hh : InR h) (hl : InU l) : (digs (wideOf h l).natAbs).length ≤ 40 :=
  digs_len_plus (Nat.le_trans (digs_len_times (digs_19 hh) p64_len) (by omega)) (Nat.le_trans (inU_len hl) (by omega))

theorem argbox {w w1 : World} {p q r s : Value} {t t' : TypeId} (hb : Below ((w.alloc (.cells #[p, q] t)).alloc (.cells #[r, s] t')).drew.heap.size ((w.alloc (.cells #[p, q] t)).alloc (.cells #[r, s] t')).drew w1) :
    w1.cell? ⟨w.heap.size, 0, none⟩ = some p ∧ w1.cell? ⟨w.heap.size, 1, none⟩ = some q := by
  obtain ⟨bc, bf⟩ := bcell hb
  have hz : w.heap.size < ((w.alloc (.cells #[p, q] t)).alloc (.cells #[r, s] t')).drew.heap.size := by show w.heap.size < ((w.alloc (.cells #[p, q] t)).alloc (.cells #[r, s] t')).heap.size; simp; omega
  refine ⟨(bc _ _ hz).trans ?_, (bc _ _ hz).trans ?_⟩ <;> simp [go_sem]

theorem keep2 {B : Nat} {w : World} {a b p q : Value} (h0 : w.cell? ⟨B, 0, none⟩ = some a) (h1 : w.cell? ⟨B, 1, none⟩ = some b) :
    ((w.setCell ⟨B + 1, 0, none⟩ p).setCell ⟨B + 1, 1, none⟩ q).cell? ⟨B, 0, none⟩ = some a ∧ ((w.setCell ⟨B + 1, 0, none⟩ p).setCell ⟨B + 1, 1, none⟩ q).cell? ⟨B, 1, none⟩ = some b := by
  refine ⟨?_, ?_⟩
  · rw [World.cell?_setCell_other _ _ _ _ (by simp), World.cell?_setCell_other _ _ _ _ (by simp)]; exact h0
  · rw [World.cell?_setCell_other _ _ _ _ (by simp), World.cell?_setCell_other _ _ _ _ (by simp)]; exact h1

set_option maxHeartbeats 1000000 in
theorem wof_any (h l : Int) (hh : InR h) (hl : InU l) (w : World) :
    Calls Try.prog 13 #[.agg #[.int .i64 h, .int .u64 l]] w fun e w' => ∃ u, e = .returned u ∧ Big w' u (wideOf h l) ∧ Below w.heap.size w w' := by
  have l1 := digs_19 hh
  have l2 := p64_len
  have l3 := digs_len_times l1 l2
  have l4 := inU_len hl
  have HR : Hid (Res (w.heap.size + 1) ((w.alloc (.cells #[.int .i64 h, .int .u64 l] 28)).alloc (.cells #[.bool false, .slice none 0 0] 24)).drew) := by
    have := Res.init (w.alloc (.cells #[.int .i64 h, .int .u64 l] 28)) 24
    rw [show (w.alloc (.cells #[.int .i64 h, .int .u64 l] 28)).heap.size = w.heap.size + 1 by simp] at this
    exact this.below (Below.refl _ _).drew
  have hO := of_any h hh ((w.alloc (.cells #[.int .i64 h, .int .u64 l] 28)).alloc (.cells #[.bool false, .slice none 0 0] 24)).drew
  have HL := Lib.hid hl; clear hl
  go_enter Try.func13, Try.ntmps13
  go_wp2
  go_region_held3 (fun w' => w'.cell? ⟨w.heap.size, 0, none⟩ = some (.int .i64 h) ∧ w'.cell? ⟨w.heap.size, 1, none⟩ = some (.int .u64 l)) (first | (exact argbox hb1) | (exact argbox hb12) | (exact argbox hb13) | (exact argbox hb14) | (exact argbox hb15) | (exact keep2 (argbox hb15).1 (argbox hb15).2) | (simp [go_sem, World.cell?_alloc_past]))
    (first
      | (go_at_call 7; refine hO.mono ?_; rintro e w1 ⟨r1, rfl, hr1, hb1⟩; obtain ⟨a0, a1⟩ := argbox hb1)
      | (go_at_call 31; refine (power_any _).mono ?_; rintro e w2 ⟨r2, rfl, hr2, hb2⟩; have hb12 := hb1.trans (hb2.mono hb1.size); obtain ⟨b0, b1⟩ := argbox hb12)
      | (go_at_call 11; refine (btimes _ _ h p64 _ (hr1.below hb2) hr2 (by omega) (by omega)).mono ?_; rintro e w3 ⟨r3, rfl, hr3, hb3⟩; have hb13 := hb12.trans (hb3.mono hb12.size); obtain ⟨c0, c1⟩ := argbox hb13)
      | (go_at_call 32; refine (word_any l HL.out.1 HL.out.2 _).mono ?_; rintro e w4 ⟨r4, rfl, hr4, hb4⟩; have hb14 := hb13.trans (hb4.mono hb13.size); obtain ⟨d0, d1⟩ := argbox hb14)
      | (go_at_call 20; refine (bplus _ _ (h * p64) l _ (hr3.below hb4) hr4 (by omega) (by omega)).mono ?_; rintro e w5 ⟨r5, rfl, hr5, hb5⟩; have hb15 := hb14.trans (hb5.mono hb14.size); obtain ⟨e0, e1⟩ := argbox hb15; obtain ⟨ra, rc, rfl⟩ := hr5.form; obtain ⟨k1, k2, k3, k4, k5⟩ := HR.out.below hb15))
  go_wp2
  refine bodyPost_ret (v := .agg #[.bool (decide (h * p64 + l < 0)), .slice ra (digs (h * p64 + l).natAbs).length rc]) (by simp [results, Try.results13, go_sem, k1, k2]) rfl ⟨_, rfl, hr5.set2 k1 k2, ?_⟩
  have j1 := (below2 w _ _).drew.trans (hb15.mono (by simp; omega))
  exact (j1.setCell (by show w.heap.size ≤ w.heap.size + 1; omega) _).setCell (by show w.heap.size ≤ w.heap.size + 1; omega) _

def topV : Int := 170141183460469231731687303715884105727
def lowV : Int := -170141183460469231731687303715884105728
theorem top_of : wideOf 9223372036854775807 18446744073709551615 = topV := by unfold wideOf p64 topV; omega
theorem low_of : wideOf (-9223372036854775808) 0 = lowV := by unfold wideOf p64 lowV; omega
theorem top_len : (digs topV.natAbs).length ≤ 40 := digs_len _ _ (by unfold topV; omega)
theorem low_len : (digs lowV.natAbs).length ≤ 40 := digs_len _ _ (by unfold lowV; omega)
theorem top_any (w : World) : Calls Try.prog 13 #[.agg #[.int .i64 9223372036854775807, .int .u64 18446744073709551615]] w fun e w' => ∃ u, e = .returned u ∧ Big w' u topV ∧ Below w.heap.size w w' := by
  have h := wof_any 9223372036854775807 18446744073709551615 (by unfold InR; omega) (by unfold InU; omega) w
  rwa [top_of] at h
theorem low_any (w : World) : Calls Try.prog 13 #[.agg #[.int .i64 (-9223372036854775808), .int .u64 0]] w fun e w' => ∃ u, e = .returned u ∧ Big w' u lowV ∧ Below w.heap.size w w' := by
  have h := wof_any (-9223372036854775808) 0 (by unfold InR; omega) (by unfold InU; omega) w
  rwa [low_of] at h

theorem cmpv_ge {x y : Int} (h : y ≤ x) : 0 ≤ cmpv x y := by unfold cmpv; split <;> (try split) <;> omega
theorem cmpv_le {x y : Int} (h : x ≤ y) : cmpv x y ≤ 0 := by unfold cmpv; split <;> (try split) <;> omega

theorem ret_bool {a b : Bool} (h : a = b) : Ending.returned (.bool a) = .returned (.bool b) := by rw [h]

set_option maxHeartbeats 1000000 in
theorem fits_any (v : Value) (x : Int) (w : World) (hv : Big w v x) (hl : (digs x.natAbs).length ≤ 300) :
    Calls Try.prog 35 #[v] w fun e w' => e = .returned (.bool (decide (InV x))) ∧ Below w.heap.size w w' := by
  obtain ⟨a, c, rfl⟩ := hv.form
  have hb0 : Below w.heap.size w (w.alloc (.cells #[.bool (decide (x < 0)), .slice a (digs x.natAbs).length c] 24)) := (Below.refl _ _).alloc (Nat.le_refl _) _
  have HV := Lib.hid (hv.below hb0)
  generalize hsx : decide (x < 0) = sx at *
  generalize hlx : (digs x.natAbs).length = lx at *
  have HX := Lib.hid (And.intro hsx hlx)
  clear hv hsx hlx
  have tl := top_len
  have ll := low_len
  have l1 : (digs (x - lowV).natAbs).length ≤ 2000 := Nat.le_trans (digs_len_minus (k := 300) (by have := HX.out.2; omega) (by omega)) (by omega)
  have l2 : (digs (x - topV).natAbs).length ≤ 2000 := Nat.le_trans (digs_len_minus (k := 300) (by have := HX.out.2; omega) (by omega)) (by omega)
  have hcase : (cmpv x lowV = -1 ∧ decide (InV x) = false) ∨ (0 ≤ cmpv x lowV ∧ cmpv x topV = 1 ∧ decide (InV x) = false) ∨ (0 ≤ cmpv x lowV ∧ cmpv x topV ≤ 0 ∧ decide (InV x) = true) := by
    by_cases h : x < lowV
    · left; exact ⟨by unfold cmpv; rw [if_pos h], decide_eq_false (by unfold InV; unfold lowV at h; omega)⟩
    · by_cases h' : topV < x
      · right; left; exact ⟨cmpv_ge (by omega), by unfold cmpv; rw [if_neg (by omega), if_pos h'], decide_eq_false (by unfold InV; unfold topV at h'; omega)⟩
      · right; right; exact ⟨cmpv_ge (by omega), cmpv_le (by omega), decide_eq_true (by unfold InV; unfold topV at h'; unfold lowV at h; omega)⟩
  have HCS := Lib.hid hcase; clear hcase
  go_enter Try.func35, Try.ntmps35
  go_wp2_with fail
  refine (top_any _).mono ?_; rintro e w1 ⟨r1, rfl, hr1, hb1⟩
  obtain ⟨ta, tc, rfl⟩ := hr1.form
  obtain ⟨t0, t1, t2⟩ := onebox hb1
  generalize hst : decide (topV < 0) = st at *
  generalize hlt : (digs topV.natAbs).length = lt at *
  go_wp2_with fail
  refine (low_any _).mono ?_; rintro e w2 ⟨r2, rfl, hr2, hb2⟩
  obtain ⟨la, lc, rfl⟩ := hr2.form
  obtain ⟨u0, u1, u2⟩ := onebox hb2
  have hb2' : Below w1.heap.size w1 w2 := ((Below.refl _ _).alloc (Nat.le_refl _) _).trans (hb2.mono (by simp))
  have x0 : w2.cell? ⟨w.heap.size, 0, none⟩ = some (.bool sx) := cell_later hb2' t0
  have x1 : w2.cell? ⟨w.heap.size, 1, none⟩ = some (.slice a lx c) := cell_later hb2' t1
  have x2 : w.heap.size < w2.heap.size := Nat.lt_of_lt_of_le t2 hb2'.size
  generalize hsl : decide (lowV < 0) = sl at *
  generalize hll : (digs lowV.natAbs).length = ll' at *
  have HT := Lib.hid (And.intro hst (And.intro hlt (And.intro hsl hll))); clear hst hlt hsl hll
  have hb12 := hb1.trans (hb2'.mono hb1.size)
  have hW : Below w.heap.size w w2 := hb0.trans (hb12.mono hb0.size)
  have B0 := Lib.hid ((HV.out.below hb12).alloc (.cells #[.bool sl, .slice la ll' lc] 24))
  have B1 := Lib.hid ((hr1.below hb2').alloc (.cells #[.bool sl, .slice la ll' lc] 24))
  have B2 := Lib.hid (hr2.alloc (.cells #[.bool sl, .slice la ll' lc] 24))
  clear hr1 hr2 hb1 hb2 t0 t1 t2
  go_wp2_with fail
  refine (bcmp _ _ x lowV _ B0.out B2.out (by have := HX.out.2; omega) (by have := HT.out.2.2.2; omega) l1).mono ?_; rintro e w3 ⟨rfl, hb3⟩
  have z0 : w3.cell? ⟨w.heap.size, 0, none⟩ = some (.bool sx) := cell_later hb3 (by rw [World.cell?_alloc_lt _ _ _ x2]; exact x0)
  have z1 : w3.cell? ⟨w.heap.size, 1, none⟩ = some (.slice a lx c) := cell_later hb3 (by rw [World.cell?_alloc_lt _ _ _ x2]; exact x1)
  have z2 : w3.cell? ⟨w1.heap.size, 0, none⟩ = some (.bool st) := cell_later hb3 (by rw [World.cell?_alloc_lt _ _ _ u2]; exact u0)
  have z3 : w3.cell? ⟨w1.heap.size, 1, none⟩ = some (.slice ta lt tc) := cell_later hb3 (by rw [World.cell?_alloc_lt _ _ _ u2]; exact u1)
  have hW3 : Below w.heap.size w w3 := (hW.alloc (Nat.le_of_lt x2) _).trans (hb3.mono (by simp; omega))
  rcases HCS.out with ⟨q1, q2⟩ | ⟨q1, q2, q3⟩ | ⟨q1, q2, q3⟩
  · rw [q1]
    have HQ := Lib.hid q2
    clear q1 q2
    go_wp2_with fail
    go_ret
    exact ⟨ret_bool HQ.out.symm, hW3⟩
  · have HQ := Lib.hid q3
    clear q3
    generalize cmpv x lowV = cm at *
    go_wp2_with fail
    refine (bcmp _ _ x topV _ (B0.out.below hb3) (B1.out.below hb3) (by have := HX.out.2; omega) (by have := HT.out.2.1; omega) l2).mono ?_; rintro e w4 ⟨rfl, hb4⟩
    rw [q2]
    clear q2
    go_wp2_with fail
    go_ret
    exact ⟨ret_bool HQ.out.symm, hW3.trans (hb4.mono hW3.size)⟩
  · have HQ := Lib.hid q3
    clear q3
    generalize cmpv x lowV = cm at *
    go_wp2_with fail
    refine (bcmp _ _ x topV _ (B0.out.below hb3) (B1.out.below hb3) (by have := HX.out.2; omega) (by have := HT.out.2.1; omega) l2).mono ?_; rintro e w4 ⟨rfl, hb4⟩
    generalize cmpv x topV = cn at *
    go_wp2_with fail
    go_ret
    exact ⟨ret_bool HQ.out.symm, hW3.trans (hb4.mono hW3.size)⟩
end Go.Proofs.Ytclpigmomijliaa
