/-
  The landed Check of layer 18. The condition: a row of at most 1000000.
-/
import Derived.Test.YtjanbaecgldjkaaStkI
namespace Go.Proofs.Ytjanbaecgldjkaa
open Go.RowKit Go.Maps
set_option linter.unusedSimpArgs false
set_option linter.unusedVariables false

set_option maxHeartbeats 4000000 in
set_option maxRecDepth 100000 in
theorem check_s (a : Option Addr) (c : Nat) (L : List K4) (n : Int) (w : World) (hL : RdQ w a L) (hn : L.length ≤ 1000000) :
    Calls Try.prog 12 #[.slice a L.length c, .int .i64 n] w fun e w' => e = .returned (.tuple #[.int .i64 (chV L n), .int .i64 (chE L n)]) ∧ Below w.heap.size w w' := by
  by_cases h40 : 400 < L.length
  · have d1 : decide (400 < L.length) = true := decide_eq_true h40
    have d2 : decide ((400 : Int) < (L.length : Int)) = true := decide_eq_true (by omega)
    rw [show chV L n = 0 from if_pos h40, show chE L n = 3 from if_pos h40]
    clear hL
    go_enter Try.func12, Try.ntmps12
    go_wp2_with fail
    go_ret2
    exact ⟨rfl, Below.refl _ _⟩
  · have d1 : decide (400 < L.length) = false := decide_eq_false h40
    have d2 : decide ((400 : Int) < (L.length : Int)) = false := decide_eq_false (by omega)
    have hV : Hid (chV L n = (fst18 L n : Int) ∧ chE L n = if fst18 L n < L.length then nxe (L.take (fst18 L n)) (L.getD (fst18 L n) z4) n else 0) := ⟨if_neg h40, if_neg h40⟩
    have HL := Lib.hid hL; clear hL
    have hln : L.length ≤ 400 := by omega
    have hmm := @run_makeMap Try.prog
    have HM0 : Hid (HoR (w.alloc (.map #[] 0)) w.heap.size w.heap.size []) := HoR.made w w.heap.size (Nat.le_refl _)
    have HB0 := Lib.hid (below1 w (.map #[] 0))
    obtain ⟨hb, hhb⟩ : ∃ hb, hb = w.heap.size := ⟨_, rfl⟩
    have HM0 : Hid (HoR (w.alloc (.map #[] 0)) w.heap.size hb []) := by show HoR _ _ _ _; rw [hhb]; exact HM0.out
    obtain ⟨cv, hcv⟩ : ∃ x, x = chV L n := ⟨_, rfl⟩
    obtain ⟨ce, hce⟩ : ∃ x, x = chE L n := ⟨_, rfl⟩
    rw [← hcv, ← hce] at hV ⊢
    clear hcv hce
    go_enter Try.func12, Try.ntmps12
    go_wp2_with fail
    rw [← hhb]
    clear hhb
    generalize w.alloc (.map #[] 0) = W at *
    clear d1 d2 h40 hmm
    go_loopw [16] (fun i wr => ∃ k : Nat, k ≤ L.length ∧ i = .int .i64 (k : Int) ∧ (∀ j, j < k → nxe (L.take j) (L.getD j z4) n = 0) ∧ HoR wr w.heap.size hb (L.take k) ∧ Below w.heap.size w wr) (fun i _ => L.length - (RowKit.intOf i).toNat)
    case atStart => exact ⟨0, Nat.zero_le _, rfl, fun j hj => by omega, HM0.out, HB0.out⟩
    case round =>
      clear HM0 HB0
      obtain ⟨k, hk, rfl, hok, hm, hb0⟩ := hrel
      have HK := Lib.hid hok; clear hok
      by_cases hlt : k < L.length
      · obtain ⟨b, off, rfl, d0, d1, d2, d3⟩ := (HL.out.below hb0).2 k hlt
        have i0 : (0 : Int) ≤ (k : Int) := by omega
        have i1 : (k : Int) < (L.length : Int) := by omega
        have e1 : wrap64 ((k : Int) + 1) = (k : Int) + 1 := by unfold wrap64; omega
        have HOK : Hid (ok4 (L.getD k z4)) := HL.out.at hlt
        have HOKS : Hid (∀ t ∈ L.take k, ok4 t) := fun t ht => HL.out.1 t (List.mem_of_mem_take ht)
        have HT : Hid (L.take (k + 1) = L.take k ++ [L.getD k z4]) := take4 hlt
        have HLT := Lib.hid hlt
        have hbx := below1 wr (.cells #[.int .i64 (L.getD k z4).1, .int .i64 (L.getD k z4).2.1, .int .i64 (L.getD k z4).2.2.1, .int .i64 (L.getD k z4).2.2.2] 24)
        obtain ⟨g0, g1, g2, g3⟩ := new4 (w := wr) (s := L.getD k z4) (Below.refl _ _)
        have hnx := next_s (hm.below hbx) (Nat.le_trans hb0.size hbx.size) HOKS.out (by rw [List.length_take]; omega) (L.getD k z4) HOK.out n
        have HB : Hid (Below w.heap.size w (wr.alloc (.cells #[.int .i64 (L.getD k z4).1, .int .i64 (L.getD k z4).2.1, .int .i64 (L.getD k z4).2.2.1, .int .i64 (L.getD k z4).2.2.2] 24))) := hb0.trans (hbx.mono hb0.size)
        obtain ⟨x, hx⟩ : ∃ x, x = nxe (L.take k) (L.getD k z4) n := ⟨_, rfl⟩
        rw [← hx] at hnx
        have HX := Lib.hid hx
        have HK2 : Hid (x ≠ 0 → fst18 L n = k) := fun q => fst18_is hk HK.out (Or.inr (fun r => q (hx.trans r)))
        have HRN : Hid (x = 0 → ∀ j, j < k + 1 → nxe (L.take j) (L.getD j z4) n = 0) := fun q j hj => by
          rcases Nat.lt_or_ge j k with r | r
          · exact HK.out j r
          · rw [show j = k by omega]; exact hx.symm.trans q
        have HCV : Hid (x ≠ 0 → cv = (k : Int) ∧ ce = x) := fun q => by
          have e := HK2.out q
          have e1 := hV.out.1
          have e2 := hV.out.2
          rw [e] at e1 e2
          rw [if_pos hlt, ← hx] at e2
          exact ⟨e1, e2⟩
        rw [← HT.out] at hnx
        clear HK HX HK2
        generalize L.getD k z4 = s at *
        clear hm hb0 hbx hx
        by_cases h0 : x = 0
        · subst h0
          go_wp2_with fail
          generalize hW : wr.alloc (.cells #[.int .i64 s.1, .int .i64 s.2.1, .int .i64 s.2.2.1, .int .i64 s.2.2.2] 24) = W' at *
          clear hW
          refine hnx.mono ?_; clear hnx; rintro e w4 ⟨rfl, hm4, hb4⟩
          have HM4 : Hid (HoR w4 w.heap.size hb (L.take (k + 1))) := hm4 (by first | rfl | trivial)
          have HB4 : Hid (Below w.heap.size w w4) := HB.out.trans hb4
          clear hb4 hm4 g0 g1 g2 g3 d0 d1 d2 d3
          go_wp2_with fail
          go_roundw
          · exact ⟨k + 1, by omega, by go_num, HRN.out (by first | rfl | trivial), HM4.out, HB4.out⟩
          · simp [RowKit.intOf]; omega
        · have e0 : (x != 0) = true := by simpa using h0
          have HCC := Lib.hid (HCV.out h0)
          clear h0
          go_wp2_with fail
          generalize hW : wr.alloc (.cells #[.int .i64 s.1, .int .i64 s.2.1, .int .i64 s.2.2.1, .int .i64 s.2.2.2] 24) = W' at *
          clear hW
          refine hnx.mono ?_; clear hnx; rintro e w4 ⟨rfl, -, hb4⟩
          have HB4 : Hid (Below w.heap.size w w4) := HB.out.trans hb4
          clear hb4 g0 g1 g2 g3 d0 d1 d2 d3
          go_wp2_with fail
          go_ret2
          exact ⟨by rw [HCC.out.1, HCC.out.2] <;> rfl, HB4.out⟩
      · obtain rfl : k = L.length := by omega
        have hk2 : Hid (fst18 L n = L.length) := fst18_is (Nat.le_refl _) HK.out (Or.inl rfl)
        have hd0 : decide ((L.length : Int) < (L.length : Int)) = false := decide_eq_false (by omega)
        have HB := Lib.hid hb0; clear hb0 hm
        go_wp2_with fail
        go_ret2
        exact ⟨by rw [hV.out.1, hV.out.2, hk2.out, if_neg (Nat.lt_irrefl _)] <;> rfl, HB.out⟩
end Go.Proofs.Ytjanbaecgldjkaa
