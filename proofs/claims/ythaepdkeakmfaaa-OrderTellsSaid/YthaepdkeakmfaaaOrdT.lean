/-
  OrderTells of layer 14. No conditions.
-/
import Derived.Test.YthaepdkeakmfaaaOrdA
import Derived.Test.YthaepdkeakmfaaaRf4
namespace Go.Proofs.Ythaepdkeakmfaaa
open Go.RowKit
set_option linter.unusedSimpArgs false
set_option linter.unusedVariables false

theorem r14self {w : World} {b1 b2 : Nat} {u v : Value} {rs : List (List Int)} (h1 : RowsR w b1 u rs) (h2 : RowsR w b2 v rs) (hn : rs.length ≤ 1000000) (hr : ∀ k, k < rs.length → (rAt rs k).length ≤ 1000000) :
    Calls Try.prog 14 #[u, v] w fun e w' => e = .returned (.bool true) ∧ Below w.heap.size w w' :=
  (r14same h1 h2 hn hr).mono fun e w' ⟨h, hb⟩ => ⟨by rw [h, decide_eq_true (show rs = rs from rfl)], hb⟩
theorem same_self {a a' : Option Addr} {c c' : Nat} {L : List Int} {w : World} (hL : Reads w a L) (hM : Reads w a' L) (hn : L.length ≤ 20000) :
    Calls Try.prog 13 #[.slice a L.length c, .slice a' L.length c'] w fun e w' => e = .returned (.bool true) ∧ Below w.heap.size w w' :=
  (same_any a a' c c' L L w hL hM (by omega)).mono fun e w' ⟨h, hb⟩ => ⟨by rw [h, decide_eq_true (show L = L from rfl)], hb⟩
theorem s_same {s t : Bool} {P : Prop} (h : s = true ↔ P) (k : t = true ↔ P) : s = t := Bool.eq_iff_iff.2 (h.trans k.symm)
theorem ord_inr {R : List (List Int)} {A l : List Int} (hA : ∀ z ∈ A, InR z) (h : IsOrd R A l) (s : Bool) : ∀ z ∈ (if s = true then [] else l), InR z := fun z hz => by
  split at hz
  · cases hz
  · exact hA z (h.step.sub z hz)
theorem ord_le {R : List (List Int)} {L l : List Int} (hI : GrI R) (h : IsOrd R (sel R.length L) l) (s : Bool) : (if s = true then [] else l).length ≤ 20000 := by
  split
  · simp
  · have := nodup_len (n := R.length) h.step.nodup fun x hx => (mem_sel.1 (h.step.sub x hx)).1
    have := hI.hi
    omega
theorem wav_le {R : List (List Int)} {L : List Int} {rs : List (List Int)} (hI : GrI R) (h : IsWav R (sel R.length L) rs) (s : Bool) : (if s = true then [] else rs).length ≤ 1000000 ∧ ∀ k, k < (if s = true then [] else rs).length → (rAt (if s = true then [] else rs) k).length ≤ 1000000 := by
  have hi := hI.hi
  split
  · exact ⟨by simp, fun k hk => by cases hk⟩
  · have h1 := rows_le h.step
    have h2 := nodup_len (n := R.length) (wav_nodup (sel_rises _ _).nodup h.step) fun x hx => (mem_sel.1 (h.step.sub x hx)).1
    refine ⟨by omega, fun k hk => ?_⟩
    have h3 := WavP.nodup h.step (sel_rises _ _).nodup (k + 1) hk
    rw [flat_step hk] at h3
    have h4 := nodup_len (n := R.length) (List.nodup_append.1 h3).2.1 fun x hx => (mem_sel.1 (h.step.at hk hx).1).1
    omega
set_option maxHeartbeats 8000000 in
set_option maxRecDepth 100000 in
theorem tells14 (m : Int) (a : Option Addr) (c : Nat) (l : List GA) (fa : Option Addr) (fc : Nat) (L : List Int) (w : World) (h : ActsG w a l) (hn : (l.length : Int) ≤ 9223372036854775807) (hr : Reads w fa L) (hnL : (L.length : Int) ≤ 9223372036854775807) :
    Calls Try.prog 3 #[.int .i64 m, .slice a l.length c, .slice fa L.length fc] w fun e w' => e = .returned (.bool true) ∧ Below w.heap.size w w' := by
  have hfew := few_g a c l w h hn
  have H := Lib.hid h; have HR := Lib.hid hr
  clear h hr
  cases hf : gfew l with
  | false =>
    rw [hf] at hfew
    go_enter Try.func3, Try.ntmps3
    go_wp2_with fail
    refine hfew.mono ?_; rintro e w1 ⟨rfl, rfl⟩
    go_wp2_with fail
    refine (awake14 _).mono ?_; rintro e w2 ⟨rfl, hb⟩
    go_wp2_with fail
    go_ret
    exact ⟨rfl, hb⟩
  | true =>
    rw [hf] at hfew
    have HF := Lib.hid hf
    clear hf
    by_cases hm12 : m ≤ 12
    · have dm : decide (12 < m) = false := decide_eq_false (by omega)
      by_cases hL : L.length ≤ 60
      · have dL : decide (60 < (L.length : Int)) = false := decide_eq_false (by omega)
        by_cases hm1 : 1 ≤ m
        · obtain ⟨n, rfl⟩ := Int.eq_ofNat_of_zero_le (by omega : 0 ≤ m)
          have hmade := made_ok n (by omega) (by omega) a c l w H.out HF.out
          go_enter Try.func3, Try.ntmps3
          go_wp2_with fail
          refine hfew.mono ?_; rintro e w1 ⟨rfl, rfl⟩
          go_wp2_with fail
          refine hmade.mono ?_; rintro e w2 ⟨B, R, F, x, rfl, hG⟩
          obtain ⟨xa, xc, us, rfl, _⟩ := hG.x
          have hb3 := below1 w2 (.cells #[.slice xa R.length xc] 29)
          have hG3 := hG.below hb3
          have hbx : (w2.alloc (.cells #[.slice xa R.length xc] 29)).cell? ⟨w2.heap.size, 0, none⟩ = some (.slice xa R.length xc) := by simp
          have HI := Lib.hid hG3.s.r.1
          have hl := HI.out.hi
          obtain ⟨bx, hbxe⟩ : ∃ bx, bx = w2.heap.size := ⟨_, rfl⟩
          clear hb3 hG hfew hmade
          go_upto_region 8 with fail
          rw [← hbxe] at hbx ⊢
          clear hbxe
          generalize w2.alloc (.cells #[.slice xa R.length xc] 29) = w3 at *
          have hS : Hid (∀ W', Below w3.heap.size w3 W' → W'.cell? ⟨bx, 0, none⟩ = some (.slice xa R.length xc)) := fun W' q => (q.cell (p := ⟨bx, 0, none⟩) (World.block_lt_of_cell? _ _ hbx)).trans hbx
          have HG := Lib.hid hG3
          have HR3 : Hid (∀ W', Below w3.heap.size w3 W' → Reads W' fa L) := fun W' q => (HR.out.below HG.out.s.b).below q
          have hn6 : L.length ≤ 1000000 := by omega
          have HAI : Hid (∀ z ∈ sel R.length L, InR z) := fun z hz => by have := (mem_sel.1 hz).1; unfold gnd at this; unfold InR; omega
          have q8 := order_o HG.out.s fa fc L (HR3.out _ (Below.refl _ _)) hn6
          clear hG3
          go_wp2_with fail
          refine q8.mono ?_; clear q8; rintro e w4 ⟨u1, l1, s1, rfl, ho1, hO1, hs1, hb4⟩
          have hin1 := ord_inr HAI.out hO1 s1
          have hle1 := ord_le HI.out hO1 s1
          generalize hp1 : (if s1 = true then [] else l1) = p1 at *
          have HP1 := Lib.hid hp1
          clear hp1
          obtain ⟨sa, sc, rfl, hr1⟩ := inr_own ho1 hin1
          have hc4 := hS.out _ hb4
          have q9 := r14order (HG.out.below hb4).x HI.out fa fc L (HR3.out _ hb4) hn6
          have HB4 := Lib.hid hb4
          have HO1 := Lib.hid (And.intro hO1 hs1)
          have HR1 := Lib.hid hr1
          clear ho1 hb4 hr1 hO1 hs1
          go_wp2_with fail
          refine q9.mono ?_; clear q9; rintro e w5 ⟨u2, l2, s2, rfl, ho2, hO2, hs2, hb5⟩
          obtain rfl := hO2.uniq HO1.out.1
          obtain rfl := s_same hs2 HO1.out.2
          rw [HP1.out] at ho2
          obtain ⟨sb, sd, rfl, hr2⟩ := inr_own ho2 hin1
          have hb5' := HB4.out.trans (hb5.mono HB4.out.size)
          have q10 := waves_o (HG.out.below hb5').s fa fc L (HR3.out _ hb5') hn6
          have HB5 := Lib.hid hb5'
          have HR2 := Lib.hid hr2
          have HR1b := Lib.hid (HR1.out.below hb5)
          clear ho2 hb5 hb5' hr2 hO2 hs2 HR1 hc4 hin1 HP1 HO1
          have de1 : (ecir s2 == ecir s2) = true := by simp
          generalize ecir s2 = e2 at *
          go_wp2_with fail
          refine q10.mono ?_; clear q10; rintro e w6 ⟨u3, rs1, s3, rfl, ho3, hO3, hs3, hb6⟩
          have hwl := wav_le HI.out hO3 s3
          generalize hp2 : (if s3 = true then [] else rs1) = p2 at *
          have HP2 := Lib.hid hp2
          clear hp2
          have hb6' := HB5.out.trans (hb6.mono HB5.out.size)
          have hc6 := hS.out _ hb6'
          have q11 := r14waves (HG.out.below hb6').x HI.out fa fc L (HR3.out _ hb6') hn6
          have HB6 := Lib.hid hb6'
          have HO3 := Lib.hid (And.intro hO3 hs3)
          have HW1 := Lib.hid ho3
          have HWL := Lib.hid hwl
          have HR1c := Lib.hid (HR1b.out.below hb6)
          have HR2c := Lib.hid (HR2.out.below hb6)
          clear ho3 hb6 hb6' hO3 hs3 HR1b HR2 hwl
          go_wp2_with fail
          refine q11.mono ?_; clear q11; rintro e w7 ⟨u4, rs2, s4, rfl, ho4, hO4, hs4, hb7⟩
          obtain rfl := hO4.uniq HO3.out.1
          obtain rfl := s_same hs4 HO3.out.2
          rw [HP2.out] at ho4
          have hsm := same_self (c := sc) (c' := sd) (HR1c.out.below hb7) (HR2c.out.below hb7) hle1
          have q14 := fun w8 (hb8 : Below w7.heap.size w7 w8) => r14self ((HW1.out.below hb7).below hb8) (ho4.below hb8) HWL.out.1 HWL.out.2
          have HB7 := Lib.hid (HB6.out.trans (hb7.mono HB6.out.size))
          have HQ := Lib.hid q14
          have de2 : (ecir s4 == ecir s4) = true := by simp
          clear ho4 hb7 hO4 hs4 HR1c HR2c HW1 q14 hc6 HP2 HO3 HWL
          generalize ecir s4 = e4 at *
          go_wp2_with fail
          refine hsm.mono ?_; clear hsm; rintro e w8 ⟨rfl, hb8⟩
          have q15 := HQ.out w8 hb8
          have HB8 := Lib.hid (HB7.out.trans (hb8.mono HB7.out.size))
          clear hb8
          go_wp2_with fail
          refine q15.mono ?_; clear q15; rintro e w9 ⟨rfl, hb9⟩
          have HB9 := Lib.hid (HB8.out.trans (hb9.mono HB8.out.size))
          clear hb9
          go_wp2_with fail
          refine (awake14 _).mono ?_; rintro e w10 ⟨rfl, hb10⟩
          have HEND := Lib.hid (HG.out.s.b.trans ((HB9.out.trans (hb10.mono HB9.out.size)).mono HG.out.s.b.size))
          clear hb10
          go_wp2_with fail
          go_ret
          exact ⟨rfl, HEND.out⟩
        · have hmade := made_no m (by omega) a c l hn w
          go_enter Try.func3, Try.ntmps3
          go_wp2_with fail
          refine hfew.mono ?_; rintro e w1 ⟨rfl, rfl⟩
          go_wp2_with fail
          refine hmade.mono ?_; rintro e w2 ⟨xa, xn, xc, rfl, hb2⟩
          have HB2 := Lib.hid (hb2.trans ((below1 w2 (.cells #[.slice xa xn xc] 29)).mono hb2.size))
          clear hb2
          go_wp2_with fail
          refine (awake14 _).mono ?_; rintro e w3 ⟨rfl, hb⟩
          have HB3 := Lib.hid (HB2.out.trans (hb.mono HB2.out.size))
          clear hb
          go_wp2_with fail
          go_ret
          exact ⟨rfl, HB3.out⟩
      · have dL : decide (60 < (L.length : Int)) = true := decide_eq_true (by omega)
        go_enter Try.func3, Try.ntmps3
        go_wp2_with fail
        refine hfew.mono ?_; rintro e w1 ⟨rfl, rfl⟩
        go_wp2_with fail
        refine (awake14 _).mono ?_; rintro e w2 ⟨rfl, hb⟩
        go_wp2_with fail
        go_ret
        exact ⟨rfl, hb⟩
    · have dm : decide (12 < m) = true := decide_eq_true (by omega)
      go_enter Try.func3, Try.ntmps3
      go_wp2_with fail
      refine hfew.mono ?_; rintro e w1 ⟨rfl, rfl⟩
      go_wp2_with fail
      refine (awake14 _).mono ?_; rintro e w2 ⟨rfl, hb⟩
      go_wp2_with fail
      go_ret
      exact ⟨rfl, hb⟩
end Go.Proofs.Ythaepdkeakmfaaa
