/-
  What the document's own wide numbers (gavelkindref02: Of) are, as whole numbers. No conditions besides.
-/
import Derived.Test.YtiegfehmhlabcaaRefW
namespace Go.Proofs.Ytiegfehmhlabcaa
open Go.RowKit
set_option linter.unusedVariables false

theorem p64_len : (digs p64.natAbs).length ≤ 20 := digs_len _ _ (by unfold p64; omega)
theorem inU_len {x : Int} (h : InU x) : (digs x.natAbs).length ≤ 20 := digs_len _ _ (by unfold InU at h; omega)
theorem wide_len {h l : Int} (hh : InR h) (hl : InU l) : (digs (wideOf h l).natAbs).length ≤ 40 :=
  digs_len_plus (Nat.le_trans (digs_len_times (digs_19 hh) p64_len) (by omega)) (Nat.le_trans (inU_len hl) (by omega))

theorem argbox {w w1 : World} {p q r s : Value} {t t' : TypeId} (hb : Below ((w.alloc (.cells #[p, q] t)).alloc (.cells #[r, s] t')).drew.heap.size ((w.alloc (.cells #[p, q] t)).alloc (.cells #[r, s] t')).drew w1) :
    w1.cell? ⟨w.heap.size, 0, none⟩ = some p ∧ w1.cell? ⟨w.heap.size, 1, none⟩ = some q := by
  obtain ⟨bc, bf⟩ := bcell hb
  have hz : w.heap.size < ((w.alloc (.cells #[p, q] t)).alloc (.cells #[r, s] t')).drew.heap.size := by show w.heap.size < ((w.alloc (.cells #[p, q] t)).alloc (.cells #[r, s] t')).heap.size; simp; omega
  refine ⟨(bc _ _ hz).trans ?_, (bc _ _ hz).trans ?_⟩ <;> simp [go_sem]

theorem keep2 {B : Nat} {w : World} {a b p q : Value} (h0 : w.cell? ⟨B, 0, none⟩ = some a) (h1 : w.cell? ⟨B, 1, none⟩ = some b) :
    ((w.setCell ⟨B + 1, 0, none⟩ p).setCell ⟨B + 1, 1, none⟩ q).cell? ⟨B, 0, none⟩ = some a ∧ ((w.setCell ⟨B + 1, 0, none⟩ p).setCell ⟨B + 1, 1, none⟩ q).cell? ⟨B, 1, none⟩ = some b := by
  refine ⟨?_, ?_⟩
  · rw [World.cell?_setCell_other _ _ _ _ (by simp), World.cell?_setCell_other _ _ _ _ (by simp)]; exact h0
  · rw [World.cell?_setCell_other _ _ _ _ (by simp), World.cell?_setCell_other _ _ _ _ (by simp)]; exact h1

set_option maxHeartbeats 1000000 in
theorem wof_any (h l : Int) (hh : InR h) (hl : InU l) (w : World) :
    Calls Try.prog 7 #[.agg #[.int .i64 h, .int .u64 l]] w fun e w' => ∃ u, e = .returned u ∧ Big w' u (wideOf h l) ∧ Below w.heap.size w w' := by
  have l1 := digs_19 hh
  have l2 := p64_len
  have l3 := digs_len_times l1 l2
  have l4 := inU_len hl
  have HR : Hid (Res (w.heap.size + 1) ((w.alloc (.cells #[.int .i64 h, .int .u64 l] 24)).alloc (.cells #[.bool false, .slice none 0 0] 27)).drew) := by
    have := Res.init (w.alloc (.cells #[.int .i64 h, .int .u64 l] 24)) 27
    rw [show (w.alloc (.cells #[.int .i64 h, .int .u64 l] 24)).heap.size = w.heap.size + 1 by simp] at this
    exact this.below (Below.refl _ _).drew
  have hO := of_any h hh ((w.alloc (.cells #[.int .i64 h, .int .u64 l] 24)).alloc (.cells #[.bool false, .slice none 0 0] 27)).drew
  have HL := Lib.hid hl; clear hl
  go_enter Try.func7, Try.ntmps7
  go_wp2
  go_region_held3 (fun w' => w'.cell? ⟨w.heap.size, 0, none⟩ = some (.int .i64 h) ∧ w'.cell? ⟨w.heap.size, 1, none⟩ = some (.int .u64 l)) (first | (exact argbox hb1) | (exact argbox hb12) | (exact argbox hb13) | (exact argbox hb14) | (exact argbox hb15) | (exact keep2 (argbox hb15).1 (argbox hb15).2) | (simp [go_sem, World.cell?_alloc_past]))
    (first
      | (go_at_call 13; refine hO.mono ?_; rintro e w1 ⟨r1, rfl, hr1, hb1⟩; obtain ⟨a0, a1⟩ := argbox hb1)
      | (go_at_call 22; refine (power_any _).mono ?_; rintro e w2 ⟨r2, rfl, hr2, hb2⟩; have hb12 := hb1.trans (hb2.mono hb1.size); obtain ⟨b0, b1⟩ := argbox hb12)
      | (go_at_call 20; refine (btimes _ _ h p64 _ (hr1.below hb2) hr2 (by omega) (by omega)).mono ?_; rintro e w3 ⟨r3, rfl, hr3, hb3⟩; have hb13 := hb12.trans (hb3.mono hb12.size); obtain ⟨c0, c1⟩ := argbox hb13)
      | (go_at_call 23; refine (word_any l HL.out.1 HL.out.2 _).mono ?_; rintro e w4 ⟨r4, rfl, hr4, hb4⟩; have hb14 := hb13.trans (hb4.mono hb13.size); obtain ⟨d0, d1⟩ := argbox hb14)
      | (go_at_call 19; refine (bplus _ _ (h * p64) l _ (hr3.below hb4) hr4 (by omega) (by omega)).mono ?_; rintro e w5 ⟨r5, rfl, hr5, hb5⟩; have hb15 := hb14.trans (hb5.mono hb14.size); obtain ⟨e0, e1⟩ := argbox hb15; obtain ⟨ra, rc, rfl⟩ := hr5.form; obtain ⟨k1, k2, k3, k4, k5⟩ := HR.out.below hb15))
  go_wp2
  refine bodyPost_ret (v := .agg #[.bool (decide (h * p64 + l < 0)), .slice ra (digs (h * p64 + l).natAbs).length rc]) (by simp [results, Try.results7, go_sem, k1, k2]) rfl ⟨_, rfl, hr5.set2 k1 k2, ?_⟩
  have j1 := (below2 w _ _).drew.trans (hb15.mono (by simp; omega))
  exact (j1.setCell (by show w.heap.size ≤ w.heap.size + 1; omega) _).setCell (by show w.heap.size ≤ w.heap.size + 1; omega) _

def topV : Int := 170141183460469231731687303715884105727
def lowV : Int := -170141183460469231731687303715884105728
theorem top_of : wideOf 9223372036854775807 18446744073709551615 = topV := by unfold wideOf p64 topV; omega
theorem low_of : wideOf (-9223372036854775808) 0 = lowV := by unfold wideOf p64 lowV; omega
theorem top_len : (digs topV.natAbs).length ≤ 40 := digs_len _ _ (by unfold topV; omega)
theorem low_len : (digs lowV.natAbs).length ≤ 40 := digs_len _ _ (by unfold lowV; omega)
theorem top_any (w : World) : Calls Try.prog 7 #[.agg #[.int .i64 9223372036854775807, .int .u64 18446744073709551615]] w fun e w' => ∃ u, e = .returned u ∧ Big w' u topV ∧ Below w.heap.size w w' := by
  have h := wof_any 9223372036854775807 18446744073709551615 (by unfold InR; omega) (by unfold InU; omega) w
  rwa [top_of] at h
theorem low_any (w : World) : Calls Try.prog 7 #[.agg #[.int .i64 (-9223372036854775808), .int .u64 0]] w fun e w' => ∃ u, e = .returned u ∧ Big w' u lowV ∧ Below w.heap.size w w' := by
  have h := wof_any (-9223372036854775808) 0 (by unfold InR; omega) (by unfold InU; omega) w
  rwa [low_of] at h

theorem cmpv_ge {x y : Int} (h : y ≤ x) : 0 ≤ cmpv x y := by unfold cmpv; split <;> (try split) <;> omega
theorem cmpv_le {x y : Int} (h : x ≤ y) : cmpv x y ≤ 0 := by unfold cmpv; split <;> (try split) <;> omega

theorem ret_bool {a b : Bool} (h : a = b) : Ending.returned (.bool a) = .returned (.bool b) := by rw [h]

end Go.Proofs.Ytiegfehmhlabcaa
