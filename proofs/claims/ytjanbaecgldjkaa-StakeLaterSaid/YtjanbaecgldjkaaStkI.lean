/-
  The landed next of a holding: what is wrong with a stake behind those that it holds. The conditions: the holding's rows, fewer than 100000 stakes.
-/
import Derived.Test.YtjanbaecgldjkaaStkC
import Derived.Test.YtjanbaecgldjkaaStkG
import Derived.Test.YtjanbaecgldjkaaStkH
namespace Go.Proofs.Ytjanbaecgldjkaa
open Go.RowKit Go.Maps
set_option linter.unusedSimpArgs false
set_option linter.unusedVariables false

theorem ok4_snoc {L : List K4} {s : K4} (hL : ∀ t ∈ L, ok4 t) (hs : ok4 s) : ∀ t ∈ L ++ [s], ok4 t := fun t ht => by
  rcases List.mem_append.1 ht with q | q
  · exact hL t q
  · rw [List.mem_singleton.1 q]; exact hs
set_option maxHeartbeats 4000000 in
set_option maxRecDepth 100000 in
theorem next_s {w : World} {base hb : Nat} {L : List K4} (h : HoR w base hb L) (hbs : base ≤ w.heap.size) (hL : ∀ t ∈ L, ok4 t) (hn : L.length < 100000) (s : K4) (hs : ok4 s) (n : Int) :
    Calls Try.prog 23 #[.map (some hb), .agg #[.int .i64 s.1, .int .i64 s.2.1, .int .i64 s.2.2.1, .int .i64 s.2.2.2], .int .i64 n] w fun e w' => e = .returned (.int .i64 (nxe L s n)) ∧ (nxe L s n = 0 → HoR w' base hb (L ++ [s])) ∧ Below base w w' := by
  have hbx := below1 w (.cells #[.int .i64 s.1, .int .i64 s.2.1, .int .i64 s.2.2.1, .int .i64 s.2.2.2] 24)
  obtain ⟨g0, g1, g2, g3⟩ := new4 (w := w) (s := s) (Below.refl _ _)
  have hlt : w.heap.size < (w.alloc (.cells #[.int .i64 s.1, .int .i64 s.2.1, .int .i64 s.2.2.1, .int .i64 s.2.2.2] 24)).heap.size := by simp
  have hwr := wrong_s s n (w.alloc (.cells #[.int .i64 s.1, .int .i64 s.2.1, .int .i64 s.2.2.1, .int .i64 s.2.2.2] 24))
  have HBX := Lib.hid hbx
  have HBS := Lib.hid hbs
  by_cases hw : wrg s n = 0
  · have hx0 : s.1 ≠ 0 := fun q => by have := wrg_zero hw; omega
    have HV : Hid (nxe L s n = if goes (L ++ [s]) s.1 = true then 26 else 0) := by show _ = _; unfold nxe; rw [hw, if_neg (fun q => q rfl)]
    rw [hw] at hwr
    have HH := Lib.hid h
    have HPUT : Hid (∀ X, Below w.heap.size w X → Calls Try.prog 22 #[.map (some hb), .agg #[.int .i64 s.1, .int .i64 s.2.1, .int .i64 s.2.2.1, .int .i64 s.2.2.2]] X fun e w' => e = .returned (.tuple #[]) ∧ HoR w' base hb (L ++ [s]) ∧ Below base X w' ∧ ∀ j, w.heap.size ≤ j → j < X.heap.size → w'.heap[j]? = X.heap[j]?) := fun X hX => put_s h hX hL (by omega) s hs
    have HGO : Hid (∀ X, HoR X base hb (L ++ [s]) → Calls Try.prog 31 #[.map (some hb), .int .i64 s.1] X fun e w' => e = .returned (.bool (goes (L ++ [s]) s.1)) ∧ Below X.heap.size X w') := fun X hX => goes_h hX (ok4_snoc hL hs) (by simp; omega) s.1 hx0 hs.1
    obtain ⟨r, hr⟩ : ∃ r, r = nxe L s n := ⟨_, rfl⟩
    rw [← hr]
    have HR : Hid (r = if goes (L ++ [s]) s.1 = true then 26 else 0) := hr.trans HV.out
    have HQ : Hid (∀ X, HoR X base hb (L ++ [s]) → (r = 0 → HoR X base hb (L ++ [s]))) := fun X hX _ => hX
    clear hw hx0 h hL hn hs hbx hbs hr
    go_enter Try.func23, Try.ntmps23
    go_wp2_with fail
    generalize hW : w.alloc (.cells #[.int .i64 s.1, .int .i64 s.2.1, .int .i64 s.2.2.1, .int .i64 s.2.2.2] 24) = W at *
    clear hW
    refine hwr.mono ?_; clear hwr; rintro e w2 ⟨rfl, hb2⟩
    have k0 := (hb2.cell (p := ⟨w.heap.size, 0, none⟩) hlt).trans g0
    have k1 := (hb2.cell (p := ⟨w.heap.size, 1, none⟩) hlt).trans g1
    have k2 := (hb2.cell (p := ⟨w.heap.size, 2, none⟩) hlt).trans g2
    have k3 := (hb2.cell (p := ⟨w.heap.size, 3, none⟩) hlt).trans g3
    have hl2 : w.heap.size < w2.heap.size := Nat.lt_of_lt_of_le hlt hb2.size
    have HB2 : Hid (Below w.heap.size w w2) := HBX.out.trans (hb2.mono HBX.out.size)
    clear g0 g1 g2 g3 hb2 hlt
    go_wp2_with fail
    refine (HPUT.out w2 HB2.out).mono ?_; rintro e w3 ⟨rfl, hr3, hb3, hk3⟩
    have q0 : w3.cell? ⟨w.heap.size, 0, none⟩ = some (.int .i64 s.1) := (World.cell?_of_block (a := ⟨w.heap.size, 0, none⟩) (hk3 w.heap.size (Nat.le_refl _) hl2)).trans k0
    have hgo := HGO.out w3 hr3
    have HR3 := Lib.hid hr3
    have HB3 : Hid (Below base w w3) := (HB2.out.mono HBS.out).trans hb3
    clear k0 k1 k2 k3 hr3 hb3 hk3 hl2
    cases hg : goes (L ++ [s]) s.1 with
    | false =>
      have HRV : Hid (r = 0) := by show _ = _; rw [HR.out, hg]; rfl
      rw [hg] at hgo
      clear hg
      go_wp2_with fail
      refine hgo.mono ?_; clear hgo; rintro e w4 ⟨rfl, hb4⟩
      have HB4 : Hid (Below base w w4) := HB3.out.trans (hb4.mono (Nat.le_trans HBS.out HB3.out.size))
      have HR4 := Lib.hid (HR3.out.below hb4)
      clear hb4 q0
      go_wp2_with fail
      go_ret
      exact ⟨by rw [HRV.out] <;> rfl, HQ.out _ HR4.out, HB4.out⟩
    | true =>
      have HRV : Hid (r = 26) := by show _ = _; rw [HR.out, hg]; rfl
      rw [hg] at hgo
      clear hg
      go_wp2_with fail
      refine hgo.mono ?_; clear hgo; rintro e w4 ⟨rfl, hb4⟩
      have HB4 : Hid (Below base w w4) := HB3.out.trans (hb4.mono (Nat.le_trans HBS.out HB3.out.size))
      have HR4 := Lib.hid (HR3.out.below hb4)
      clear hb4 q0
      go_wp2_with fail
      go_ret
      exact ⟨by rw [HRV.out] <;> rfl, HQ.out _ HR4.out, HB4.out⟩
  · have HRV : Hid (nxe L s n = wrg s n ∧ ¬ nxe L s n = 0) := by
      have e : nxe L s n = wrg s n := by unfold nxe; rw [if_pos hw]
      exact ⟨e, by rw [e]; exact hw⟩
    have e0 : (wrg s n != 0) = true := by simpa using hw
    obtain ⟨r, hr⟩ : ∃ r, r = nxe L s n := ⟨_, rfl⟩
    rw [← hr] at HRV ⊢
    generalize wrg s n = x at *
    clear hw h hL hn hs hbx hbs hr
    go_enter Try.func23, Try.ntmps23
    go_wp2_with fail
    generalize hW : w.alloc (.cells #[.int .i64 s.1, .int .i64 s.2.1, .int .i64 s.2.2.1, .int .i64 s.2.2.2] 24) = W at *
    clear hW
    refine hwr.mono ?_; clear hwr; rintro e w2 ⟨rfl, hb2⟩
    have HB2 : Hid (Below base w w2) := (HBX.out.trans (hb2.mono HBX.out.size)).mono HBS.out
    clear g0 g1 g2 g3 hb2 hlt
    go_wp2_with fail
    go_ret
    exact ⟨by rw [HRV.out.1] <;> rfl, fun q => absurd q HRV.out.2, HB2.out⟩
end Go.Proofs.Ytjanbaecgldjkaa
