/-
  What the landed Check and Open of layer 22 answer. The condition: at most 100000 locks.
-/
import Derived.Test.YtadbelkckeokjaaLkB
namespace Go.Proofs.Ytadbelkckeokjaa
open Go.RowKit
set_option linter.unusedSimpArgs false
set_option linter.unusedVariables false

set_option maxHeartbeats 4000000 in
set_option maxRecDepth 100000 in
theorem check_l (a : Option Addr) (c : Nat) (L : List LkT) (n : Int) (w : World) (hL : RdL w a L) (hn : L.length ≤ 100000) (hcap : L.length ≤ c) :
    Calls Try.prog 8 #[.slice a L.length c, .int .i64 n] w fun e w' => e = .returned (.tuple #[.int .i64 (chV L n), .int .i64 (chE L n)]) ∧ Below w.heap.size w w' := by
  by_cases h40 : 400 < L.length
  · have d1 : decide (400 < L.length) = true := decide_eq_true h40
    have d2 : decide ((400 : Int) < (L.length : Int)) = true := decide_eq_true (by omega)
    rw [show chV L n = 0 from if_pos h40, show chE L n = 3 from if_pos h40]
    clear hL
    go_enter Try.func8, Try.ntmps8
    go_wp2_with fail
    go_ret2
    exact ⟨rfl, Below.refl _ _⟩
  · have d1 : decide (400 < L.length) = false := decide_eq_false h40
    have d2 : decide ((400 : Int) < (L.length : Int)) = false := decide_eq_false (by omega)
    have hV : Hid (chV L n = (fst22 L n : Int) ∧ chE L n = if fst22 L n < L.length then wrL (L.take (fst22 L n)) (L.getD (fst22 L n) zL) n else 0) := ⟨if_neg h40, if_neg h40⟩
    have HL := Lib.hid hL; clear hL
    generalize chV L n = cv at *
    generalize chE L n = ce at *
    have hn6 : L.length ≤ 1000000 := by omega
    go_enter Try.func8, Try.ntmps8
    go_wp2_with fail
    clear d1 d2 h40
    go_loopw [14] (fun i wr => ∃ k : Nat, k ≤ L.length ∧ i = .int .i64 (k : Int) ∧ (∀ j, j < k → wrL (L.take j) (L.getD j zL) n = 0) ∧ Below w.heap.size w wr) (fun i _ => L.length - (RowKit.intOf i).toNat)
    case atStart => exact ⟨0, Nat.zero_le _, rfl, fun j hj => by omega, Below.refl _ _⟩
    case round =>
      obtain ⟨k, hk, rfl, hok, hb0⟩ := hrel
      have HK := Lib.hid hok; clear hok
      by_cases hlt : k < L.length
      · obtain ⟨b, off, rfl, e0, e1⟩ := (HL.out.below hb0).2 k hlt
        have i0 : (0 : Int) ≤ (k : Int) := by omega
        have i1 : (k : Int) < (L.length : Int) := by omega
        have j1 : (k : Int) ≤ (c : Int) := by omega
        have g1 := wrapL hlt hn6
        have HM := Lib.hid (And.intro (show k + 1 ≤ L.length from hlt) (measL hlt))
        have HOK : Hid (okL (L.getD k zL)) := HL.out.at hlt
        have HRN : Hid (wrL (L.take k) (L.getD k zL) n = 0 → ∀ j, j < k + 1 → wrL (L.take j) (L.getD j zL) n = 0) := fun q j hj => by
          rcases Nat.lt_or_ge j k with r | r
          · exact HK.out j r
          · rw [show j = k by omega]; exact q
        have HCV : Hid (wrL (L.take k) (L.getD k zL) n ≠ 0 → cv = (k : Int) ∧ ce = wrL (L.take k) (L.getD k zL) n) := fun q => by
          have e := fst22_is hk HK.out (Or.inr q)
          have e1 := hV.out.1
          have e2 := hV.out.2
          rw [e] at e1 e2
          rw [if_pos hlt] at e2
          exact ⟨e1, e2⟩
        have HWR : Hid (∀ wz, Below w.heap.size w wz → Calls Try.prog 11 #[.slice (some ⟨b, off, none⟩) k c, .agg #[.int .i64 (L.getD k zL).1, .int .i64 (L.getD k zL).2], .int .i64 n] wz fun e w'' => e = .returned (.int .i64 (wrL (L.take k) (L.getD k zL) n)) ∧ Below wz.heap.size wz w'') := fun wz q => by
          have := wrong_l (some ⟨b, off, none⟩) c (L.take k) (L.getD k zL).1 (L.getD k zL).2 n wz ((HL.out.below q).take k) (by rw [List.length_take]; omega) HOK.out.1
          rwa [List.length_take, Nat.min_eq_left hk] at this
        generalize wrL (L.take k) (L.getD k zL) n = x at *
        clear HK
        generalize L.getD k zL = s at *
        obtain ⟨u, v⟩ := s
        dsimp only at e0 e1 HWR
        have HO := Lib.hid (Ow2.new wr (.int .i64 u) (.int .i64 v) 24)
        have HB := Lib.hid (hb0.trans ((below1 wr (objK (u, v))).mono hb0.size))
        obtain ⟨Wp, hWp⟩ : ∃ W, wr.alloc (objK (u, v)) = W := ⟨_, rfl⟩
        obtain ⟨B, hB⟩ : ∃ B, wr.heap.size = B := ⟨_, rfl⟩
        have HO : Hid (Ow2 Wp B (.int .i64 u) (.int .i64 v)) := by show Ow2 _ _ _ _; rw [← hWp, ← hB]; exact HO.out
        have HB : Hid (Below w.heap.size w Wp) := by show Below _ _ _; rw [← hWp]; exact HB.out
        have HW := Lib.hid hWp
        have HBB := Lib.hid hB
        have K := Lib.hid (Below.refl Wp.heap.size Wp)
        clear hb0 hk hlt hWp hB hn hn6
        go_upto_region 6 with fail
        rw [HW.out, HBB.out]
        clear HBB
        have HC : Hid (∀ wz, Below Wp.heap.size Wp wz → wz.cell? ⟨B, 0, none⟩ = some (.int .i64 u) ∧ wz.cell? ⟨B, 1, none⟩ = some (.int .i64 v)) := fun wz q => ⟨(HO.out.below q).1.1, (HO.out.below q).1.2.1⟩
        have HWR2 : Hid (∀ wz, Below Wp.heap.size Wp wz → Calls Try.prog 11 #[.slice (some ⟨b, off, none⟩) k c, .agg #[.int .i64 u, .int .i64 v], .int .i64 n] wz fun e w'' => e = .returned (.int .i64 x) ∧ Below wz.heap.size wz w'') := fun wz q => HWR.out wz (HB.out.trans (q.mono HB.out.size))
        obtain ⟨c0, c1⟩ := HC.out _ K.out
        clear e0 e1
        go_region_held3 (fun wz => wz.cell? ⟨B, 0, none⟩ = some (.int .i64 u) ∧ wz.cell? ⟨B, 1, none⟩ = some (.int .i64 v))
          (first | exact HC.out _ K.out | exact HC.out _ K.out.drew)
          (first
            | (go_at_call 11; (with_reducible first | refine (HWR2.out _ K.out).mono ?_ | refine (HWR2.out _ K.out.drew).mono ?_); rintro e wn ⟨rfl, hbn⟩; (first | replace K := Lib.hid (K.out.trans (hbn.mono K.out.size)) | replace K := Lib.hid (K.out.drew.trans (hbn.mono K.out.drew.size))); clear hbn))
        all_goals by_cases hx0 : x = 0
        all_goals first
          | (subst hx0
             have HRN2 := Lib.hid (HRN.out rfl)
             go_wp2_with fail
             go_roundw
             · exact ⟨k + 1, HM.out.1, by go_num, HRN2.out, HB.out.trans (K.out.mono HB.out.size)⟩
             · first | exact HM.out.2 | (rw [g1]; exact HM.out.2))
          | (have e0 : (x != 0) = true := by simpa using hx0
             have HCC := Lib.hid (HCV.out hx0)
             clear hx0
             go_wp2_with fail
             go_ret2
             exact ⟨by rw [HCC.out.1, HCC.out.2] <;> rfl, HB.out.trans (K.out.mono HB.out.size)⟩)
      · obtain rfl : k = L.length := by omega
        have hk2 : Hid (fst22 L n = L.length) := fst22_is (Nat.le_refl _) HK.out (Or.inl rfl)
        have hd0 : decide ((L.length : Int) < (L.length : Int)) = false := decide_eq_false (by omega)
        have HB := Lib.hid hb0; clear hb0
        go_wp2_with fail
        go_ret2
        exact ⟨by rw [hV.out.1, hV.out.2, hk2.out, if_neg (Nat.lt_irrefl _)] <;> rfl, HB.out⟩

theorem min_is {n : Int} {k : Nat} (hk : k ≤ (min n 40).toNat) : decide ((k : Int) + 1 ≤ min n 40) = decide (k < (min n 40).toNat) := decide_eq_decide.2 (by omega)
set_option maxHeartbeats 4000000 in
set_option maxRecDepth 100000 in
theorem open_l (a : Option Addr) (c : Nat) (L : List LkT) (n p : Int) (w : World) (hL : RdL w a L) (hn : L.length ≤ 100000) :
    Calls Try.prog 10 #[.slice a L.length c, .int .i64 n, .int .i64 p] w fun e w' => ∃ v, e = .returned v ∧ Own w' w.heap.size v (opn L p (min n 40).toNat) ∧ Below w.heap.size w w' := by
  have HL := Lib.hid hL
  clear hL
  obtain ⟨m, hm⟩ : ∃ m, (min n 40).toNat = m := ⟨_, rfl⟩
  have hm40 : m ≤ 40 := by omega
  have HMI : Hid (∀ k : Nat, k ≤ m → decide ((k : Int) + 1 ≤ min n 40) = decide (k < m)) := fun k h => by rw [← hm] at h ⊢; exact min_is h
  rw [hm]
  clear hm
  generalize hmn : min n 40 = mn at *
  have HMN := Lib.hid hmn
  clear hmn
  go_enter Try.func10, Try.ntmps10
  go_wp2_with fail
  go_loopw [7, 8] (fun vl vi wr => ∃ k : Nat, k ≤ m ∧ vi = .int .i64 ((k : Int) + 1) ∧ Own wr w.heap.size vl (opn L p k) ∧ Below w.heap.size w wr) (fun _ vi _ => (m + 1 - (RowKit.intOf vi).toNat))
  case atStart => exact ⟨0, Nat.zero_le _, rfl, by simpa [opn] using Own.nil _ _, Below.refl _ _⟩
  case round =>
    obtain ⟨k, hk, rfl, ho, hb⟩ := hrel
    have HO := Lib.hid ho
    have HB := Lib.hid hb
    have dm := HMI.out k hk
    have hmn := HMN.out
    by_cases hlt : k < m
    · rw [decide_eq_true hlt] at dm
      have e1 : wrap64 ((k : Int) + 1 + 1) = (k : Int) + 1 + 1 := wrapL (k := k + 1) (N := 1000) (by omega) (by omega)
      have HR : Hid (∀ vl w', Own w' w.heap.size vl (opn L p (k + 1)) → Below w.heap.size w w' → ∃ k' : Nat, k' ≤ m ∧ Value.int .i64 ((k : Int) + 1 + 1) = .int .i64 ((k' : Int) + 1) ∧ Own w' w.heap.size vl (opn L p k') ∧ Below w.heap.size w w') := fun vl w' h1 h2 => ⟨k + 1, hlt, by simp, h1, h2⟩
      have HM : Hid (m + 1 - (RowKit.intOf (.int .i64 ((k : Int) + 1 + 1))).toNat < m + 1 - (RowKit.intOf (.int .i64 ((k : Int) + 1))).toNat) := by show _ < _; simp [RowKit.intOf]; omega
      have hl : (opn L p k).length ≤ 1000 := by have := opn_len L p k; omega
      have HS : Hid (opn L p (k + 1) = if decide (p ≤ las L ((k : Int) + 1)) then opn L p k else opn L p k ++ [(k : Int) + 1]) := opn_succ L p k
      have hj : InR ((k : Int) + 1) := ⟨by omega, by omega⟩
      have HB1 := Lib.hid (hb.trans ((below1 wr (.cells #[.int .i64 ((k : Int) + 1)] 3)).mono hb.size))
      have HO1 := Lib.hid (ho.below (below1 wr (.cells #[.int .i64 ((k : Int) + 1)] 3)))
      have hlk := locked1_l a c L p (some ⟨wr.heap.size, 0, none⟩) 1 ((k : Int) + 1) (by omega) _ (HL.out.below HB1.out) (lit1 wr ((k : Int) + 1) hj)
      generalize opn L p k = M at *
      generalize opn L p (k + 1) = M' at *
      generalize decide (p ≤ las L ((k : Int) + 1)) = t at *
      generalize (k : Int) + 1 = j at *
      clear ho hb hk hlt
      cases t with
      | true =>
        rw [if_pos rfl] at HS
        go_wp2_with fail
        refine hlk.mono ?_; clear hlk; rintro e w4 ⟨rfl, hb4⟩
        have HO4 := Lib.hid (HO1.out.below hb4)
        rw [← HS.out] at HO4
        have HB4 := Lib.hid (HB1.out.trans (hb4.mono HB1.out.size))
        clear hb4
        go_wp2_with fail
        go_roundw
        · rw [e1]; exact HR.out _ _ HO4.out HB4.out
        · rw [e1]; exact HM.out
      | false =>
        rw [if_neg (by decide)] at HS
        go_wp2_with fail
        refine hlk.mono ?_; clear hlk; rintro e w4 ⟨rfl, hb4⟩
        have HO4 := Lib.hid (HO1.out.below hb4)
        have HB4 := Lib.hid (HB1.out.trans (hb4.mono HB1.out.size))
        have hsz := HB4.out.size
        clear hb4
        go_wp2_with (at_builtin; refine wp_push w4 rfl (.tmp 21) (.tmp 23) rfl w.heap.size _ M j rfl HO4.out rfl (by omega) hsz ?_; intro v5 w5 ho5 hb5)
        have HO5 : Hid (Own w5 w.heap.size v5 M') := by rw [HS.out]; exact ho5
        have HB5 : Hid (Below w.heap.size w w5) := HB4.out.trans hb5
        clear ho5 hb5 hsz
        go_wp2_with fail
        go_roundw
        · rw [e1]; exact HR.out _ _ HO5.out HB5.out
        · rw [e1]; exact HM.out
    · obtain rfl : k = m := by omega
      rw [decide_eq_false hlt] at dm
      clear hb
      go_wp2_with fail
      go_ret
      exact ⟨_, rfl, HO.out, HB.out⟩
end Go.Proofs.Ytadbelkckeokjaa
