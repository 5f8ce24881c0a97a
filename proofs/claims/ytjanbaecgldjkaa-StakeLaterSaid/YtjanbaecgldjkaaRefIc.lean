/-
  What the document's own With (gavelkindref11) answers, for whatever row and number. The condition: at most 9 * 10^8 numbers.
-/
import Derived.Test.YtjanbaecgldjkaaBitM
import Derived.Test.YtjanbaecgldjkaaRowG
import Derived.Test.YtjanbaecgldjkaaRefHs
import Derived.Test.YtjanbaecgldjkaaRefHs1
import Derived.Deep.RegionHeld3
import Derived.Deep.DeepCutAuto
namespace Go.Proofs.Ytjanbaecgldjkaa
open Go.RowKit
set_option linter.unusedSimpArgs false
set_option linter.unusedVariables false

set_option maxHeartbeats 4000000 in
set_option maxRecDepth 100000 in
theorem r11with (v : Value) (L : List Int) (n : Int) (w : World) (hv : Sl w v L) (hn : InR n) (hl : L.length ≤ 900000000) :
    Calls Try.prog 29 #[v, .int .i64 n] w fun e w' => ∃ u, e = .returned u ∧ Sl w' u (wth L n) ∧ Below w.heap.size w w' := by
  have HV := Lib.hid hv
  obtain ⟨a, c, rfl, hcap, hc0, hL⟩ := hv
  have HL := Lib.hid hL
  have HC := Lib.hid (And.intro hcap hc0)
  clear hcap hc0 hL
  go_enter Try.func29, Try.ntmps29
  go_wp2_with fail
  go_loopw [5] (fun i wr => ∃ k : Nat, k ≤ L.length ∧ i = .int .i64 (k : Int) ∧ (∀ s ∈ L.take k, s < n) ∧ w = wr) (fun i _ => L.length - (intOf i).toNat)
  case atStart => exact ⟨0, Nat.zero_le _, rfl, by simp, rfl⟩
  case round =>
    obtain ⟨k, hk, rfl, hok, rfl⟩ := hrel
    have HA := Lib.hid (fun q => wth_at n L k hk hok q)
    have HM := Lib.hid (fun q => take_step (L := L) (k := k) q (· < n))
    have HK := Lib.hid hok; clear hok
    by_cases hlt : k < L.length
    · obtain ⟨b, off, rfl, hc⟩ := HL.out.2 k hlt
      have i0 : (0 : Int) ≤ (k : Int) := by omega
      have i1 : (k : Int) < (L.length : Int) := by omega
      obtain ⟨z, hz⟩ : ∃ z, z = L.getD k 0 := ⟨_, rfl⟩
      rw [← hz] at hc
      have HZ := Lib.hid hz; clear hz
      rcases Int.lt_trichotomy z n with hs | hs | hs
      · have HS := Lib.hid hs
        go_wp2_with fail
        go_roundw
        · exact ⟨k + 1, by omega, by go_num, (HM.out hlt).mpr ⟨HK.out, by rw [← HZ.out]; exact HS.out⟩, by first | rfl | trivial⟩
        · simp [intOf]; omega
      · subst hs
        have HR : Hid (wth L z = L) := by
          have e := HA.out (fun _ => by rw [← HZ.out]; omega)
          rw [if_pos ⟨hlt, HZ.out.symm⟩] at e; exact e
        have d1 : decide (z < z) = false := decide_eq_false (by omega)
        go_wp2_with fail
        go_ret
        exact ⟨_, rfl, by rw [HR.out]; exact HV.out, Below.refl _ _⟩
      · have HR : Hid (wth L n = L.take k ++ n :: L.drop k) := by
          have e := HA.out (fun _ => by rw [← HZ.out]; omega)
          rw [if_neg (fun q => by have := HZ.out; omega)] at e; exact e
        have d1 : decide (z < n) = false := decide_eq_false (by omega)
        have d2 : (z == n) = false := by simp; omega
        have hkc : k ≤ c := by have := HC.out.1; omega
        have hkc' : (k : Int) ≤ (c : Int) := by omega
        have hkl : (k : Int) ≤ (L.length : Int) := by omega
        have hck : ¬ c = k := by have := HC.out.1; omega
        have HT : Hid (SlC w (.slice (some ⟨b, off, none⟩) k c) 1 k (ints (L.take k))) := by
          have h := (HV.out.slc).take (k := k) hk
          rw [Nat.mul_one] at h
          unfold ints at h ⊢
          rw [← List.map_take] at h; exact h
        have HD : Hid (SlC w (.slice (some ⟨b, off + k, none⟩) (L.length - k) (c - k)) 1 (L.length - k) (ints (L.drop k))) := by
          have h := (HV.out.slc).drop (k := k) hk
          rw [Nat.mul_one] at h
          unfold ints at h ⊢
          rw [← List.map_drop] at h; exact h
        have HN : Hid (L.length ≤ 900000000) := hl
        clear hs HA HM HK
        go_wp2_with fail
        go_region_held3 (fun _ => True) (trivial)
          (first
            | (refine step_app rfl (.tmp 33) (.tmp 36) 39 rfl w.heap.size 3 1 8 (.int .i64 0) Try.underlying39 int_info rfl (by omega) (.slice (some ⟨w.heap.size, 0, none⟩) 0 0) 0 (ints []) (by simp [Act.eval, Act.put]) (lit_a w) (.slice (some ⟨b, off, none⟩) k c) (k) (ints (L.take k)) (by simp [Act.eval, Act.put]) (HT.out.below (below1d w _)) (ints_one _) (by have := HN.out; omega) (by omega) (by simp) ?_; intro v1 w1 hown1' hb1 hg1; have KB1 := Lib.hid ((below1d w (.cells #[] 3)).trans hb1); have own1 := Lib.hid hown1'; clear hown1' hb1 hg1)
            | (refine step_app rfl (.tmp 33) (.tmp 36) 39 rfl w.heap.size 3 1 8 (.int .i64 0) Try.underlying39 int_info rfl (by omega) (.slice (some ⟨w.heap.size, 0, none⟩) 0 0) 0 (ints []) (by simp [Act.eval, Act.put]) (lit_ab w n) (.slice (some ⟨b, off, none⟩) k c) (k) (ints (L.take k)) (by simp [Act.eval, Act.put]) (HT.out.below (below2d w _ _)) (ints_one _) (by have := HN.out; omega) (by omega) (by simp; omega) ?_; intro v1 w1 hown1' hb1 hg1; have KB1 := Lib.hid ((below2d w (.cells #[] 3) (.cells #[.int .i64 n] 3)).trans hb1); have own1 := Lib.hid hown1'; have N1 := Lib.hid ((one_ab w n).grown hg1 (by intro q hq; simp [Value.ownBlock] at hq ⊢; omega)); clear hown1' hb1 hg1)
            | (refine step_app rfl (.tmp 33) (.tmp 36) 39 rfl w.heap.size 3 1 8 (.int .i64 0) Try.underlying39 int_info rfl (by omega) (.slice (some ⟨w.heap.size + 1, 0, none⟩) 0 0) 0 (ints []) (by simp [Act.eval, Act.put]) (lit_ba w n) (.slice (some ⟨b, off, none⟩) k c) (k) (ints (L.take k)) (by simp [Act.eval, Act.put]) (HT.out.below (below2d w _ _)) (ints_one _) (by have := HN.out; omega) (by omega) (by simp; omega) ?_; intro v1 w1 hown1' hb1 hg1; have KB1 := Lib.hid ((below2d w (.cells #[.int .i64 n] 3) (.cells #[] 3)).trans hb1); have own1 := Lib.hid hown1'; have N1 := Lib.hid ((one_ba w n).grown hg1 (by intro q hq; simp [Value.ownBlock] at hq ⊢; omega)); clear hown1' hb1 hg1)
            | (refine step_app rfl (.tmp 37) (.tmp 39) 39 rfl w.heap.size 3 1 8 (.int .i64 0) Try.underlying39 int_info rfl (by omega) v1 (0 + (k)) (ints [] ++ ints (L.take k)) (by simp [Act.eval, Act.put]) (own1.out.alloc _) (.slice (some ⟨w1.heap.size, 0, none⟩) 1 1) 1 (ints [n]) (by simp [Act.eval, Act.put]) (one_a w1 n) (ints_one _) (by have := HN.out; omega) (by omega) (by have := KB1.out.size; simp; omega) ?_; intro v2 w2 hown2' hb2 hg2; have KB2 := Lib.hid ((KB1.out.alloc KB1.out.size _).trans hb2); have own2 := Lib.hid hown2'; clear hown2' hb2 hg2)
            | (refine step_app rfl (.tmp 37) (.tmp 39) 39 rfl w.heap.size 3 1 8 (.int .i64 0) Try.underlying39 int_info rfl (by omega) v1 (0 + (k)) (ints [] ++ ints (L.take k)) (by simp [Act.eval, Act.put]) own1.out (.slice (some ⟨w.heap.size + 1, 0, none⟩) 1 1) 1 (ints [n]) (by simp [Act.eval, Act.put]) N1.out (ints_one _) (by have := HN.out; omega) (by omega) KB1.out.size ?_; intro v2 w2 hown2' hb2 hg2; have KB2 := Lib.hid (KB1.out.trans hb2); have own2 := Lib.hid hown2'; clear hown2' hb2 hg2)
            | (refine step_app rfl (.tmp 37) (.tmp 39) 39 rfl w.heap.size 3 1 8 (.int .i64 0) Try.underlying39 int_info rfl (by omega) v1 (0 + (k)) (ints [] ++ ints (L.take k)) (by simp [Act.eval, Act.put]) own1.out (.slice (some ⟨w.heap.size, 0, none⟩) 1 1) 1 (ints [n]) (by simp [Act.eval, Act.put]) N1.out (ints_one _) (by have := HN.out; omega) (by omega) KB1.out.size ?_; intro v2 w2 hown2' hb2 hg2; have KB2 := Lib.hid (KB1.out.trans hb2); have own2 := Lib.hid hown2'; clear hown2' hb2 hg2)
            | (refine step_app rfl (.tmp 40) (.tmp 43) 39 rfl w.heap.size 3 1 8 (.int .i64 0) Try.underlying39 int_info rfl (by omega) v2 (0 + (k) + 1) (ints [] ++ ints (L.take k) ++ ints [n]) (by simp [Act.eval, Act.put]) own2.out (.slice (some ⟨b, off + k, none⟩) (L.length - k) (c - k)) (L.length - k) (ints (L.drop k)) (by simp [Act.eval, Act.put]) (HD.out.below KB2.out) (ints_one _) (by have := HN.out; omega) (by omega) KB2.out.size ?_; intro v3 w3 hown3' hb3 hg3; have KB3 := Lib.hid (KB2.out.trans hb3); have own3 := Lib.hid hown3'; clear hown3' hb3 hg3))
        all_goals go_wp2_with fail
        all_goals go_ret
        all_goals refine ⟨v3, rfl, ?_, KB3.out⟩
        all_goals rw [HR.out]
        all_goals exact SlC.sl (by simpa only [ints_app, List.nil_append, List.append_assoc, List.singleton_append] using ownsRow_slc own3.out) (by rw [← HR.out]; exact wth_in n hn L HL.out.1)
    · obtain rfl : k = L.length := by omega
      have hd0 : decide ((L.length : Int) < (L.length : Int)) = false := decide_eq_false (by omega)
      have HR : Hid (wth L n = L ++ [n]) := by
        have e := HA.out (fun q => by omega)
        rw [if_neg (fun q => by omega), List.take_length, List.drop_length] at e; exact e
      have HN : Hid (L.length ≤ 900000000) := hl
      have hcap := HC.out.1
      have hcap' : (L.length : Int) ≤ (c : Int) := by omega
      have j0 : (0 : Int) ≤ (L.length : Int) := by omega
      clear HA HM HK
      rcases a with _ | x
      · have hc0 := HC.out.2 rfl
        subst hc0
        have hL0 : L = [] := List.length_eq_zero_iff.mp (by omega)
        subst hL0
        have HT := Lib.hid (SlC.nil w 1)
        have HD := Lib.hid (SlC.nil w 1)
        simp only [List.length_nil] at *
        go_wp2_with fail
        go_region_held3 (fun _ => True) (trivial)
          (first
            | (refine step_app rfl (.tmp 33) (.tmp 36) 39 rfl w.heap.size 3 1 8 (.int .i64 0) Try.underlying39 int_info rfl (by omega) (.slice (some ⟨w.heap.size, 0, none⟩) 0 0) 0 (ints []) (by simp [Act.eval, Act.put]) (lit_a w) (.slice none 0 0) (0) (ints ([])) (by simp [Act.eval, Act.put]) (HT.out.below (below1d w _)) (ints_one _) (by have := HN.out; omega) (by omega) (by simp) ?_; intro v1 w1 hown1' hb1 hg1; have KB1 := Lib.hid ((below1d w (.cells #[] 3)).trans hb1); have own1 := Lib.hid hown1'; clear hown1' hb1 hg1)
            | (refine step_app rfl (.tmp 33) (.tmp 36) 39 rfl w.heap.size 3 1 8 (.int .i64 0) Try.underlying39 int_info rfl (by omega) (.slice (some ⟨w.heap.size, 0, none⟩) 0 0) 0 (ints []) (by simp [Act.eval, Act.put]) (lit_ab w n) (.slice none 0 0) (0) (ints ([])) (by simp [Act.eval, Act.put]) (HT.out.below (below2d w _ _)) (ints_one _) (by have := HN.out; omega) (by omega) (by simp; omega) ?_; intro v1 w1 hown1' hb1 hg1; have KB1 := Lib.hid ((below2d w (.cells #[] 3) (.cells #[.int .i64 n] 3)).trans hb1); have own1 := Lib.hid hown1'; have N1 := Lib.hid ((one_ab w n).grown hg1 (by intro q hq; simp [Value.ownBlock] at hq ⊢; omega)); clear hown1' hb1 hg1)
            | (refine step_app rfl (.tmp 33) (.tmp 36) 39 rfl w.heap.size 3 1 8 (.int .i64 0) Try.underlying39 int_info rfl (by omega) (.slice (some ⟨w.heap.size + 1, 0, none⟩) 0 0) 0 (ints []) (by simp [Act.eval, Act.put]) (lit_ba w n) (.slice none 0 0) (0) (ints ([])) (by simp [Act.eval, Act.put]) (HT.out.below (below2d w _ _)) (ints_one _) (by have := HN.out; omega) (by omega) (by simp; omega) ?_; intro v1 w1 hown1' hb1 hg1; have KB1 := Lib.hid ((below2d w (.cells #[.int .i64 n] 3) (.cells #[] 3)).trans hb1); have own1 := Lib.hid hown1'; have N1 := Lib.hid ((one_ba w n).grown hg1 (by intro q hq; simp [Value.ownBlock] at hq ⊢; omega)); clear hown1' hb1 hg1)
            | (refine step_app rfl (.tmp 37) (.tmp 39) 39 rfl w.heap.size 3 1 8 (.int .i64 0) Try.underlying39 int_info rfl (by omega) v1 (0 + (0)) (ints [] ++ ints ([])) (by simp [Act.eval, Act.put]) (own1.out.alloc _) (.slice (some ⟨w1.heap.size, 0, none⟩) 1 1) 1 (ints [n]) (by simp [Act.eval, Act.put]) (one_a w1 n) (ints_one _) (by have := HN.out; omega) (by omega) (by have := KB1.out.size; simp; omega) ?_; intro v2 w2 hown2' hb2 hg2; have KB2 := Lib.hid ((KB1.out.alloc KB1.out.size _).trans hb2); have own2 := Lib.hid hown2'; clear hown2' hb2 hg2)
            | (refine step_app rfl (.tmp 37) (.tmp 39) 39 rfl w.heap.size 3 1 8 (.int .i64 0) Try.underlying39 int_info rfl (by omega) v1 (0 + (0)) (ints [] ++ ints ([])) (by simp [Act.eval, Act.put]) own1.out (.slice (some ⟨w.heap.size + 1, 0, none⟩) 1 1) 1 (ints [n]) (by simp [Act.eval, Act.put]) N1.out (ints_one _) (by have := HN.out; omega) (by omega) KB1.out.size ?_; intro v2 w2 hown2' hb2 hg2; have KB2 := Lib.hid (KB1.out.trans hb2); have own2 := Lib.hid hown2'; clear hown2' hb2 hg2)
            | (refine step_app rfl (.tmp 37) (.tmp 39) 39 rfl w.heap.size 3 1 8 (.int .i64 0) Try.underlying39 int_info rfl (by omega) v1 (0 + (0)) (ints [] ++ ints ([])) (by simp [Act.eval, Act.put]) own1.out (.slice (some ⟨w.heap.size, 0, none⟩) 1 1) 1 (ints [n]) (by simp [Act.eval, Act.put]) N1.out (ints_one _) (by have := HN.out; omega) (by omega) KB1.out.size ?_; intro v2 w2 hown2' hb2 hg2; have KB2 := Lib.hid (KB1.out.trans hb2); have own2 := Lib.hid hown2'; clear hown2' hb2 hg2)
            | (refine step_app rfl (.tmp 40) (.tmp 43) 39 rfl w.heap.size 3 1 8 (.int .i64 0) Try.underlying39 int_info rfl (by omega) v2 (0 + (0) + 1) (ints [] ++ ints ([]) ++ ints [n]) (by simp [Act.eval, Act.put]) own2.out (.slice none 0 0) (0) (ints ([])) (by simp [Act.eval, Act.put]) (HD.out.below KB2.out) (ints_one _) (by have := HN.out; omega) (by omega) KB2.out.size ?_; intro v3 w3 hown3' hb3 hg3; have KB3 := Lib.hid (KB2.out.trans hb3); have own3 := Lib.hid hown3'; clear hown3' hb3 hg3))
        all_goals go_wp2_with fail
        all_goals go_ret
        all_goals refine ⟨v3, rfl, ?_, KB3.out⟩
        all_goals rw [HR.out]
        all_goals exact SlC.sl (by simpa only [ints_app, List.nil_append, List.append_assoc, List.append_nil] using ownsRow_slc own3.out) (by rw [← HR.out]; exact wth_in n hn [] HL.out.1)
      · by_cases hL0 : L = []
        · subst hL0
          have HT : Hid (SlC w (.slice (some x) 0 c) 1 0 (ints [])) := ⟨_, _, rfl, Nat.zero_le _, fun q => by (cases q), rfl, fun j hj => by (cases hj)⟩
          simp only [List.length_nil] at *
          by_cases hck : c = 0
          · subst hck
            have HD := HT
            go_wp2_with fail
            go_region_held3 (fun _ => True) (trivial)
              (first
                | (refine step_app rfl (.tmp 33) (.tmp 36) 39 rfl w.heap.size 3 1 8 (.int .i64 0) Try.underlying39 int_info rfl (by omega) (.slice (some ⟨w.heap.size, 0, none⟩) 0 0) 0 (ints []) (by simp [Act.eval, Act.put]) (lit_a w) (.slice (some x) 0 0) (0) (ints ([])) (by simp [Act.eval, Act.put]) (HT.out.below (below1d w _)) (ints_one _) (by have := HN.out; omega) (by omega) (by simp) ?_; intro v1 w1 hown1' hb1 hg1; have KB1 := Lib.hid ((below1d w (.cells #[] 3)).trans hb1); have own1 := Lib.hid hown1'; clear hown1' hb1 hg1)
                | (refine step_app rfl (.tmp 33) (.tmp 36) 39 rfl w.heap.size 3 1 8 (.int .i64 0) Try.underlying39 int_info rfl (by omega) (.slice (some ⟨w.heap.size, 0, none⟩) 0 0) 0 (ints []) (by simp [Act.eval, Act.put]) (lit_ab w n) (.slice (some x) 0 0) (0) (ints ([])) (by simp [Act.eval, Act.put]) (HT.out.below (below2d w _ _)) (ints_one _) (by have := HN.out; omega) (by omega) (by simp; omega) ?_; intro v1 w1 hown1' hb1 hg1; have KB1 := Lib.hid ((below2d w (.cells #[] 3) (.cells #[.int .i64 n] 3)).trans hb1); have own1 := Lib.hid hown1'; have N1 := Lib.hid ((one_ab w n).grown hg1 (by intro q hq; simp [Value.ownBlock] at hq ⊢; omega)); clear hown1' hb1 hg1)
                | (refine step_app rfl (.tmp 33) (.tmp 36) 39 rfl w.heap.size 3 1 8 (.int .i64 0) Try.underlying39 int_info rfl (by omega) (.slice (some ⟨w.heap.size + 1, 0, none⟩) 0 0) 0 (ints []) (by simp [Act.eval, Act.put]) (lit_ba w n) (.slice (some x) 0 0) (0) (ints ([])) (by simp [Act.eval, Act.put]) (HT.out.below (below2d w _ _)) (ints_one _) (by have := HN.out; omega) (by omega) (by simp; omega) ?_; intro v1 w1 hown1' hb1 hg1; have KB1 := Lib.hid ((below2d w (.cells #[.int .i64 n] 3) (.cells #[] 3)).trans hb1); have own1 := Lib.hid hown1'; have N1 := Lib.hid ((one_ba w n).grown hg1 (by intro q hq; simp [Value.ownBlock] at hq ⊢; omega)); clear hown1' hb1 hg1)
                | (refine step_app rfl (.tmp 37) (.tmp 39) 39 rfl w.heap.size 3 1 8 (.int .i64 0) Try.underlying39 int_info rfl (by omega) v1 (0 + (0)) (ints [] ++ ints ([])) (by simp [Act.eval, Act.put]) (own1.out.alloc _) (.slice (some ⟨w1.heap.size, 0, none⟩) 1 1) 1 (ints [n]) (by simp [Act.eval, Act.put]) (one_a w1 n) (ints_one _) (by have := HN.out; omega) (by omega) (by have := KB1.out.size; simp; omega) ?_; intro v2 w2 hown2' hb2 hg2; have KB2 := Lib.hid ((KB1.out.alloc KB1.out.size _).trans hb2); have own2 := Lib.hid hown2'; clear hown2' hb2 hg2)
                | (refine step_app rfl (.tmp 37) (.tmp 39) 39 rfl w.heap.size 3 1 8 (.int .i64 0) Try.underlying39 int_info rfl (by omega) v1 (0 + (0)) (ints [] ++ ints ([])) (by simp [Act.eval, Act.put]) own1.out (.slice (some ⟨w.heap.size + 1, 0, none⟩) 1 1) 1 (ints [n]) (by simp [Act.eval, Act.put]) N1.out (ints_one _) (by have := HN.out; omega) (by omega) KB1.out.size ?_; intro v2 w2 hown2' hb2 hg2; have KB2 := Lib.hid (KB1.out.trans hb2); have own2 := Lib.hid hown2'; clear hown2' hb2 hg2)
                | (refine step_app rfl (.tmp 37) (.tmp 39) 39 rfl w.heap.size 3 1 8 (.int .i64 0) Try.underlying39 int_info rfl (by omega) v1 (0 + (0)) (ints [] ++ ints ([])) (by simp [Act.eval, Act.put]) own1.out (.slice (some ⟨w.heap.size, 0, none⟩) 1 1) 1 (ints [n]) (by simp [Act.eval, Act.put]) N1.out (ints_one _) (by have := HN.out; omega) (by omega) KB1.out.size ?_; intro v2 w2 hown2' hb2 hg2; have KB2 := Lib.hid (KB1.out.trans hb2); have own2 := Lib.hid hown2'; clear hown2' hb2 hg2)
                | (refine step_app rfl (.tmp 40) (.tmp 43) 39 rfl w.heap.size 3 1 8 (.int .i64 0) Try.underlying39 int_info rfl (by omega) v2 (0 + (0) + 1) (ints [] ++ ints ([]) ++ ints [n]) (by simp [Act.eval, Act.put]) own2.out (.slice (some x) 0 0) (0) (ints ([])) (by simp [Act.eval, Act.put]) (HD.out.below KB2.out) (ints_one _) (by have := HN.out; omega) (by omega) KB2.out.size ?_; intro v3 w3 hown3' hb3 hg3; have KB3 := Lib.hid (KB2.out.trans hb3); have own3 := Lib.hid hown3'; clear hown3' hb3 hg3))
            all_goals go_wp2_with fail
            all_goals go_ret
            all_goals refine ⟨v3, rfl, ?_, KB3.out⟩
            all_goals rw [HR.out]
            all_goals exact SlC.sl (by simpa only [ints_app, List.nil_append, List.append_assoc, List.append_nil] using ownsRow_slc own3.out) (by rw [← HR.out]; exact wth_in n hn [] HL.out.1)
          · have HD := HT
            go_wp2_with fail
            go_region_held3 (fun _ => True) (trivial)
              (first
                | (refine step_app rfl (.tmp 33) (.tmp 36) 39 rfl w.heap.size 3 1 8 (.int .i64 0) Try.underlying39 int_info rfl (by omega) (.slice (some ⟨w.heap.size, 0, none⟩) 0 0) 0 (ints []) (by simp [Act.eval, Act.put]) (lit_a w) (.slice (some x) 0 c) (0) (ints ([])) (by simp [Act.eval, Act.put]) (HT.out.below (below1d w _)) (ints_one _) (by have := HN.out; omega) (by omega) (by simp) ?_; intro v1 w1 hown1' hb1 hg1; have KB1 := Lib.hid ((below1d w (.cells #[] 3)).trans hb1); have own1 := Lib.hid hown1'; clear hown1' hb1 hg1)
                | (refine step_app rfl (.tmp 33) (.tmp 36) 39 rfl w.heap.size 3 1 8 (.int .i64 0) Try.underlying39 int_info rfl (by omega) (.slice (some ⟨w.heap.size, 0, none⟩) 0 0) 0 (ints []) (by simp [Act.eval, Act.put]) (lit_ab w n) (.slice (some x) 0 c) (0) (ints ([])) (by simp [Act.eval, Act.put]) (HT.out.below (below2d w _ _)) (ints_one _) (by have := HN.out; omega) (by omega) (by simp; omega) ?_; intro v1 w1 hown1' hb1 hg1; have KB1 := Lib.hid ((below2d w (.cells #[] 3) (.cells #[.int .i64 n] 3)).trans hb1); have own1 := Lib.hid hown1'; have N1 := Lib.hid ((one_ab w n).grown hg1 (by intro q hq; simp [Value.ownBlock] at hq ⊢; omega)); clear hown1' hb1 hg1)
                | (refine step_app rfl (.tmp 33) (.tmp 36) 39 rfl w.heap.size 3 1 8 (.int .i64 0) Try.underlying39 int_info rfl (by omega) (.slice (some ⟨w.heap.size + 1, 0, none⟩) 0 0) 0 (ints []) (by simp [Act.eval, Act.put]) (lit_ba w n) (.slice (some x) 0 c) (0) (ints ([])) (by simp [Act.eval, Act.put]) (HT.out.below (below2d w _ _)) (ints_one _) (by have := HN.out; omega) (by omega) (by simp; omega) ?_; intro v1 w1 hown1' hb1 hg1; have KB1 := Lib.hid ((below2d w (.cells #[.int .i64 n] 3) (.cells #[] 3)).trans hb1); have own1 := Lib.hid hown1'; have N1 := Lib.hid ((one_ba w n).grown hg1 (by intro q hq; simp [Value.ownBlock] at hq ⊢; omega)); clear hown1' hb1 hg1)
                | (refine step_app rfl (.tmp 37) (.tmp 39) 39 rfl w.heap.size 3 1 8 (.int .i64 0) Try.underlying39 int_info rfl (by omega) v1 (0 + (0)) (ints [] ++ ints ([])) (by simp [Act.eval, Act.put]) (own1.out.alloc _) (.slice (some ⟨w1.heap.size, 0, none⟩) 1 1) 1 (ints [n]) (by simp [Act.eval, Act.put]) (one_a w1 n) (ints_one _) (by have := HN.out; omega) (by omega) (by have := KB1.out.size; simp; omega) ?_; intro v2 w2 hown2' hb2 hg2; have KB2 := Lib.hid ((KB1.out.alloc KB1.out.size _).trans hb2); have own2 := Lib.hid hown2'; clear hown2' hb2 hg2)
                | (refine step_app rfl (.tmp 37) (.tmp 39) 39 rfl w.heap.size 3 1 8 (.int .i64 0) Try.underlying39 int_info rfl (by omega) v1 (0 + (0)) (ints [] ++ ints ([])) (by simp [Act.eval, Act.put]) own1.out (.slice (some ⟨w.heap.size + 1, 0, none⟩) 1 1) 1 (ints [n]) (by simp [Act.eval, Act.put]) N1.out (ints_one _) (by have := HN.out; omega) (by omega) KB1.out.size ?_; intro v2 w2 hown2' hb2 hg2; have KB2 := Lib.hid (KB1.out.trans hb2); have own2 := Lib.hid hown2'; clear hown2' hb2 hg2)
                | (refine step_app rfl (.tmp 37) (.tmp 39) 39 rfl w.heap.size 3 1 8 (.int .i64 0) Try.underlying39 int_info rfl (by omega) v1 (0 + (0)) (ints [] ++ ints ([])) (by simp [Act.eval, Act.put]) own1.out (.slice (some ⟨w.heap.size, 0, none⟩) 1 1) 1 (ints [n]) (by simp [Act.eval, Act.put]) N1.out (ints_one _) (by have := HN.out; omega) (by omega) KB1.out.size ?_; intro v2 w2 hown2' hb2 hg2; have KB2 := Lib.hid (KB1.out.trans hb2); have own2 := Lib.hid hown2'; clear hown2' hb2 hg2)
                | (refine step_app rfl (.tmp 40) (.tmp 43) 39 rfl w.heap.size 3 1 8 (.int .i64 0) Try.underlying39 int_info rfl (by omega) v2 (0 + (0) + 1) (ints [] ++ ints ([]) ++ ints [n]) (by simp [Act.eval, Act.put]) own2.out (.slice (some x) 0 c) (0) (ints ([])) (by simp [Act.eval, Act.put]) (HD.out.below KB2.out) (ints_one _) (by have := HN.out; omega) (by omega) KB2.out.size ?_; intro v3 w3 hown3' hb3 hg3; have KB3 := Lib.hid (KB2.out.trans hb3); have own3 := Lib.hid hown3'; clear hown3' hb3 hg3))
            all_goals go_wp2_with fail
            all_goals go_ret
            all_goals refine ⟨v3, rfl, ?_, KB3.out⟩
            all_goals rw [HR.out]
            all_goals exact SlC.sl (by simpa only [ints_app, List.nil_append, List.append_assoc, List.append_nil] using ownsRow_slc own3.out) (by rw [← HR.out]; exact wth_in n hn [] HL.out.1)
        · have hpos : 0 < L.length := List.length_pos_iff.mpr hL0
          obtain ⟨b, off, hx, _⟩ := HL.out.2 0 hpos
          cases hx
          have HT := Lib.hid (HV.out.slc)
          by_cases hck : c = L.length
          · subst hck
            have HD : Hid (SlC w (.slice (some ⟨b, off, none⟩) 0 0) 1 0 (ints [])) := ⟨_, _, rfl, Nat.le_refl _, fun q => by (cases q), rfl, fun j hj => by (cases hj)⟩
            go_wp2_with fail
            go_region_held3 (fun _ => True) (trivial)
              (first
                | (refine step_app rfl (.tmp 33) (.tmp 36) 39 rfl w.heap.size 3 1 8 (.int .i64 0) Try.underlying39 int_info rfl (by omega) (.slice (some ⟨w.heap.size, 0, none⟩) 0 0) 0 (ints []) (by simp [Act.eval, Act.put]) (lit_a w) (.slice (some ⟨b, off, none⟩) L.length L.length) (L.length) (ints (L)) (by simp [Act.eval, Act.put]) (HT.out.below (below1d w _)) (ints_one _) (by have := HN.out; omega) (by omega) (by simp) ?_; intro v1 w1 hown1' hb1 hg1; have KB1 := Lib.hid ((below1d w (.cells #[] 3)).trans hb1); have own1 := Lib.hid hown1'; clear hown1' hb1 hg1)
                | (refine step_app rfl (.tmp 33) (.tmp 36) 39 rfl w.heap.size 3 1 8 (.int .i64 0) Try.underlying39 int_info rfl (by omega) (.slice (some ⟨w.heap.size, 0, none⟩) 0 0) 0 (ints []) (by simp [Act.eval, Act.put]) (lit_ab w n) (.slice (some ⟨b, off, none⟩) L.length L.length) (L.length) (ints (L)) (by simp [Act.eval, Act.put]) (HT.out.below (below2d w _ _)) (ints_one _) (by have := HN.out; omega) (by omega) (by simp; omega) ?_; intro v1 w1 hown1' hb1 hg1; have KB1 := Lib.hid ((below2d w (.cells #[] 3) (.cells #[.int .i64 n] 3)).trans hb1); have own1 := Lib.hid hown1'; have N1 := Lib.hid ((one_ab w n).grown hg1 (by intro q hq; simp [Value.ownBlock] at hq ⊢; omega)); clear hown1' hb1 hg1)
                | (refine step_app rfl (.tmp 33) (.tmp 36) 39 rfl w.heap.size 3 1 8 (.int .i64 0) Try.underlying39 int_info rfl (by omega) (.slice (some ⟨w.heap.size + 1, 0, none⟩) 0 0) 0 (ints []) (by simp [Act.eval, Act.put]) (lit_ba w n) (.slice (some ⟨b, off, none⟩) L.length L.length) (L.length) (ints (L)) (by simp [Act.eval, Act.put]) (HT.out.below (below2d w _ _)) (ints_one _) (by have := HN.out; omega) (by omega) (by simp; omega) ?_; intro v1 w1 hown1' hb1 hg1; have KB1 := Lib.hid ((below2d w (.cells #[.int .i64 n] 3) (.cells #[] 3)).trans hb1); have own1 := Lib.hid hown1'; have N1 := Lib.hid ((one_ba w n).grown hg1 (by intro q hq; simp [Value.ownBlock] at hq ⊢; omega)); clear hown1' hb1 hg1)
                | (refine step_app rfl (.tmp 37) (.tmp 39) 39 rfl w.heap.size 3 1 8 (.int .i64 0) Try.underlying39 int_info rfl (by omega) v1 (0 + (L.length)) (ints [] ++ ints (L)) (by simp [Act.eval, Act.put]) (own1.out.alloc _) (.slice (some ⟨w1.heap.size, 0, none⟩) 1 1) 1 (ints [n]) (by simp [Act.eval, Act.put]) (one_a w1 n) (ints_one _) (by have := HN.out; omega) (by omega) (by have := KB1.out.size; simp; omega) ?_; intro v2 w2 hown2' hb2 hg2; have KB2 := Lib.hid ((KB1.out.alloc KB1.out.size _).trans hb2); have own2 := Lib.hid hown2'; clear hown2' hb2 hg2)
                | (refine step_app rfl (.tmp 37) (.tmp 39) 39 rfl w.heap.size 3 1 8 (.int .i64 0) Try.underlying39 int_info rfl (by omega) v1 (0 + (L.length)) (ints [] ++ ints (L)) (by simp [Act.eval, Act.put]) own1.out (.slice (some ⟨w.heap.size + 1, 0, none⟩) 1 1) 1 (ints [n]) (by simp [Act.eval, Act.put]) N1.out (ints_one _) (by have := HN.out; omega) (by omega) KB1.out.size ?_; intro v2 w2 hown2' hb2 hg2; have KB2 := Lib.hid (KB1.out.trans hb2); have own2 := Lib.hid hown2'; clear hown2' hb2 hg2)
                | (refine step_app rfl (.tmp 37) (.tmp 39) 39 rfl w.heap.size 3 1 8 (.int .i64 0) Try.underlying39 int_info rfl (by omega) v1 (0 + (L.length)) (ints [] ++ ints (L)) (by simp [Act.eval, Act.put]) own1.out (.slice (some ⟨w.heap.size, 0, none⟩) 1 1) 1 (ints [n]) (by simp [Act.eval, Act.put]) N1.out (ints_one _) (by have := HN.out; omega) (by omega) KB1.out.size ?_; intro v2 w2 hown2' hb2 hg2; have KB2 := Lib.hid (KB1.out.trans hb2); have own2 := Lib.hid hown2'; clear hown2' hb2 hg2)
                | (refine step_app rfl (.tmp 40) (.tmp 43) 39 rfl w.heap.size 3 1 8 (.int .i64 0) Try.underlying39 int_info rfl (by omega) v2 (0 + (L.length) + 1) (ints [] ++ ints (L) ++ ints [n]) (by simp [Act.eval, Act.put]) own2.out (.slice (some ⟨b, off, none⟩) 0 0) (0) (ints ([])) (by simp [Act.eval, Act.put]) (HD.out.below KB2.out) (ints_one _) (by have := HN.out; omega) (by omega) KB2.out.size ?_; intro v3 w3 hown3' hb3 hg3; have KB3 := Lib.hid (KB2.out.trans hb3); have own3 := Lib.hid hown3'; clear hown3' hb3 hg3))
            all_goals go_wp2_with fail
            all_goals go_ret
            all_goals refine ⟨v3, rfl, ?_, KB3.out⟩
            all_goals rw [HR.out]
            all_goals exact SlC.sl (by simpa only [ints_app, List.nil_append, List.append_assoc, List.append_nil] using ownsRow_slc own3.out) (by rw [← HR.out]; exact wth_in n hn L HL.out.1)
          · have HD : Hid (SlC w (.slice (some ⟨b, off + L.length, none⟩) 0 (c - L.length)) 1 0 (ints [])) := ⟨_, _, rfl, Nat.zero_le _, fun q => by (cases q), rfl, fun j hj => by (cases hj)⟩
            go_wp2_with fail
            go_region_held3 (fun _ => True) (trivial)
              (first
                | (refine step_app rfl (.tmp 33) (.tmp 36) 39 rfl w.heap.size 3 1 8 (.int .i64 0) Try.underlying39 int_info rfl (by omega) (.slice (some ⟨w.heap.size, 0, none⟩) 0 0) 0 (ints []) (by simp [Act.eval, Act.put]) (lit_a w) (.slice (some ⟨b, off, none⟩) L.length c) (L.length) (ints (L)) (by simp [Act.eval, Act.put]) (HT.out.below (below1d w _)) (ints_one _) (by have := HN.out; omega) (by omega) (by simp) ?_; intro v1 w1 hown1' hb1 hg1; have KB1 := Lib.hid ((below1d w (.cells #[] 3)).trans hb1); have own1 := Lib.hid hown1'; clear hown1' hb1 hg1)
                | (refine step_app rfl (.tmp 33) (.tmp 36) 39 rfl w.heap.size 3 1 8 (.int .i64 0) Try.underlying39 int_info rfl (by omega) (.slice (some ⟨w.heap.size, 0, none⟩) 0 0) 0 (ints []) (by simp [Act.eval, Act.put]) (lit_ab w n) (.slice (some ⟨b, off, none⟩) L.length c) (L.length) (ints (L)) (by simp [Act.eval, Act.put]) (HT.out.below (below2d w _ _)) (ints_one _) (by have := HN.out; omega) (by omega) (by simp; omega) ?_; intro v1 w1 hown1' hb1 hg1; have KB1 := Lib.hid ((below2d w (.cells #[] 3) (.cells #[.int .i64 n] 3)).trans hb1); have own1 := Lib.hid hown1'; have N1 := Lib.hid ((one_ab w n).grown hg1 (by intro q hq; simp [Value.ownBlock] at hq ⊢; omega)); clear hown1' hb1 hg1)
                | (refine step_app rfl (.tmp 33) (.tmp 36) 39 rfl w.heap.size 3 1 8 (.int .i64 0) Try.underlying39 int_info rfl (by omega) (.slice (some ⟨w.heap.size + 1, 0, none⟩) 0 0) 0 (ints []) (by simp [Act.eval, Act.put]) (lit_ba w n) (.slice (some ⟨b, off, none⟩) L.length c) (L.length) (ints (L)) (by simp [Act.eval, Act.put]) (HT.out.below (below2d w _ _)) (ints_one _) (by have := HN.out; omega) (by omega) (by simp; omega) ?_; intro v1 w1 hown1' hb1 hg1; have KB1 := Lib.hid ((below2d w (.cells #[.int .i64 n] 3) (.cells #[] 3)).trans hb1); have own1 := Lib.hid hown1'; have N1 := Lib.hid ((one_ba w n).grown hg1 (by intro q hq; simp [Value.ownBlock] at hq ⊢; omega)); clear hown1' hb1 hg1)
                | (refine step_app rfl (.tmp 37) (.tmp 39) 39 rfl w.heap.size 3 1 8 (.int .i64 0) Try.underlying39 int_info rfl (by omega) v1 (0 + (L.length)) (ints [] ++ ints (L)) (by simp [Act.eval, Act.put]) (own1.out.alloc _) (.slice (some ⟨w1.heap.size, 0, none⟩) 1 1) 1 (ints [n]) (by simp [Act.eval, Act.put]) (one_a w1 n) (ints_one _) (by have := HN.out; omega) (by omega) (by have := KB1.out.size; simp; omega) ?_; intro v2 w2 hown2' hb2 hg2; have KB2 := Lib.hid ((KB1.out.alloc KB1.out.size _).trans hb2); have own2 := Lib.hid hown2'; clear hown2' hb2 hg2)
                | (refine step_app rfl (.tmp 37) (.tmp 39) 39 rfl w.heap.size 3 1 8 (.int .i64 0) Try.underlying39 int_info rfl (by omega) v1 (0 + (L.length)) (ints [] ++ ints (L)) (by simp [Act.eval, Act.put]) own1.out (.slice (some ⟨w.heap.size + 1, 0, none⟩) 1 1) 1 (ints [n]) (by simp [Act.eval, Act.put]) N1.out (ints_one _) (by have := HN.out; omega) (by omega) KB1.out.size ?_; intro v2 w2 hown2' hb2 hg2; have KB2 := Lib.hid (KB1.out.trans hb2); have own2 := Lib.hid hown2'; clear hown2' hb2 hg2)
                | (refine step_app rfl (.tmp 37) (.tmp 39) 39 rfl w.heap.size 3 1 8 (.int .i64 0) Try.underlying39 int_info rfl (by omega) v1 (0 + (L.length)) (ints [] ++ ints (L)) (by simp [Act.eval, Act.put]) own1.out (.slice (some ⟨w.heap.size, 0, none⟩) 1 1) 1 (ints [n]) (by simp [Act.eval, Act.put]) N1.out (ints_one _) (by have := HN.out; omega) (by omega) KB1.out.size ?_; intro v2 w2 hown2' hb2 hg2; have KB2 := Lib.hid (KB1.out.trans hb2); have own2 := Lib.hid hown2'; clear hown2' hb2 hg2)
                | (refine step_app rfl (.tmp 40) (.tmp 43) 39 rfl w.heap.size 3 1 8 (.int .i64 0) Try.underlying39 int_info rfl (by omega) v2 (0 + (L.length) + 1) (ints [] ++ ints (L) ++ ints [n]) (by simp [Act.eval, Act.put]) own2.out (.slice (some ⟨b, off + L.length, none⟩) 0 (c - L.length)) (0) (ints ([])) (by simp [Act.eval, Act.put]) (HD.out.below KB2.out) (ints_one _) (by have := HN.out; omega) (by omega) KB2.out.size ?_; intro v3 w3 hown3' hb3 hg3; have KB3 := Lib.hid (KB2.out.trans hb3); have own3 := Lib.hid hown3'; clear hown3' hb3 hg3))
            all_goals go_wp2_with fail
            all_goals go_ret
            all_goals refine ⟨v3, rfl, ?_, KB3.out⟩
            all_goals rw [HR.out]
            all_goals exact SlC.sl (by simpa only [ints_app, List.nil_append, List.append_assoc, List.append_nil] using ownsRow_slc own3.out) (by rw [← HR.out]; exact wth_in n hn L HL.out.1)
end Go.Proofs.Ytjanbaecgldjkaa
