/-
  The document's Same, Add and Move of layer 20. The condition: at most 1000 accounts.
-/
import Derived.Test.YteendpdidkekkaaR20b
import Derived.Test.YteendpdidkekkaaAccG
import Derived.Deep.QuietTactic
import Derived.BigQuiet
import Derived.WalkSmall
import Derived.Deep.DeepCutAuto
import Derived.Deep.RegionHeld3
namespace Go.Proofs.Yteendpdidkekkaa
open Go.RowKit
set_option linter.unusedSimpArgs false
set_option linter.unusedVariables false

set_option maxHeartbeats 2000000 in
set_option maxRecDepth 100000 in
theorem r20same (a b : Option Addr) (c d : Nat) (L M : List AcT) (w : World) (hL : RdA w a L) (hM : RdA w b M) (hn : L.length ≤ 1000000) (hm : M.length ≤ 1000000) :
    Calls Try.prog 26 #[.slice a L.length c, .slice b M.length d] w fun e w' => e = .returned (.bool (decide (L = M))) ∧ Below w.heap.size w w' := by
  by_cases hl : L.length = M.length
  · have HL := Lib.hid hL; have HM := Lib.hid hM
    clear hL hM
    have e0 : ((L.length : Int) == (M.length : Int)) = true := by rw [beq_iff_eq]; omega
    have HE : Hid (∀ k, k ≤ L.length → (∀ j, j < k → L.getD j zA = M.getD j zA) → (k = L.length → decide (L = M) = true) ∧ (k < L.length → L.getD k zA ≠ M.getD k zA → decide (L = M) = false)) := fun k hk hs => ⟨fun e => decide_eq_true ((same_at hl hk hs).1 e), fun e q => decide_eq_false ((same_at hl hk hs).2 e q)⟩
    generalize decide (L = M) = t at *
    go_enter Try.func26, Try.ntmps26
    go_wp2_with fail
    go_loopw [5] (fun i wr => ∃ k : Nat, k ≤ L.length ∧ i = .int .i64 (k : Int) ∧ (∀ j, j < k → L.getD j zA = M.getD j zA) ∧ Below w.heap.size w wr) (fun i _ => L.length - (RowKit.intOf i).toNat)
    case atStart => exact ⟨0, Nat.zero_le _, rfl, fun j hj => (by cases hj), Below.refl _ _⟩
    case round =>
      obtain ⟨k, hk, rfl, hs, hb⟩ := hrel
      have HS := Lib.hid hs
      have HB := Lib.hid hb
      by_cases hlt : k < L.length
      · obtain ⟨x, xo, rfl, c0, c1, c2, c3⟩ := (HL.out.below hb).2 k hlt
        obtain ⟨y, yo, rfl, f0, f1, f2, f3⟩ := (HM.out.below hb).2 k (by omega)
        have i0 : (0 : Int) ≤ (k : Int) := by omega
        have i1 : (k : Int) < (L.length : Int) := by omega
        have i2 : (k : Int) < (M.length : Int) := by omega
        have HY : Hid (L.getD k zA ≠ M.getD k zA → t = false) := (HE.out k hk hs).2 hlt
        have HN : Hid (L.getD k zA = M.getD k zA → ∀ j, j < k + 1 → L.getD j zA = M.getD j zA) := fun q j hj => by
          rcases Nat.lt_or_ge j k with r | r
          · exact HS.out j r
          · rw [show j = k by omega]; exact q
        have heq := eq_acc (L.getD k zA) (M.getD k zA)
        generalize L.getD k zA = p at *
        generalize M.getD k zA = q at *
        clear hs hb
        by_cases hpq : p = q
        · rw [decide_eq_true hpq] at heq
          have HN2 := Lib.hid (HN.out hpq)
          clear HY HN hpq
          go_upto_region 6 with fail
          go_quiet (fail)
          go_wp2_with fail
          go_roundw
          · exact ⟨k + 1, by omega, by go_num, HN2.out, below_drewN HB.out _⟩
          · simp [RowKit.intOf]; omega
        · rw [decide_eq_false hpq] at heq
          have HY2 := Lib.hid (HY.out hpq)
          clear HY HN hpq
          go_upto_region 6 with fail
          go_quiet (fail)
          go_wp2_with fail
          go_ret
          exact ⟨by have q := HY2.out; subst q; rfl, below_drewN HB.out _⟩
      · obtain rfl : k = L.length := by omega
        have hd0 : decide ((L.length : Int) < (L.length : Int)) = false := decide_eq_false (by omega)
        have HY2 := Lib.hid ((HE.out _ hk hs).1 rfl)
        clear hs hb
        go_wp2_with fail
        go_ret
        exact ⟨by have q := HY2.out; subst q; rfl, HB.out⟩
  · have e0 : ((L.length : Int) == (M.length : Int)) = false := by rw [beq_eq_false_iff_ne]; omega
    have ht : decide (L = M) = false := decide_eq_false (fun q => hl (by rw [q]))
    rw [ht]
    clear hL hM ht hl
    go_enter Try.func26, Try.ntmps26
    go_wp2_with fail
    go_ret
    exact ⟨rfl, Below.refl _ _⟩
theorem litA (w : World) : (w.alloc (.cells #[] 35)).ownsRow w.heap.size 35 4 (.slice (some ⟨w.heap.size, 0, none⟩) 0 0) 0 [] :=
  World.ownsRow_lit (base := w.heap.size) (e := 35) (size := 4) w #[] 0 (Nat.le_refl _) (by unfold maxLen; omega) rfl
theorem ownsRow_lower {w : World} {base base' : Nat} {e : TypeId} {size n : Nat} {v : Value} {cs : List Value} (h : w.ownsRow base e size v n cs) (hb : base' ≤ base) : w.ownsRow base' e size v n cs := by
  refine ⟨h.1, ?_⟩
  rcases h.2 with q | ⟨g, cap, cur, rfl, h2, h3⟩
  · exact Or.inl q
  · exact Or.inr ⟨g, cap, cur, rfl, Nat.le_trans hb h2, h3⟩
set_option maxHeartbeats 8000000 in
set_option maxRecDepth 100000 in
theorem r20add (a : Option Addr) (c : Nat) (L : List AcT) (s : AcT) (w : World) (hL : RdA w a L) (hn : L.length ≤ 1000) (hc : L.length ≤ c) (ca : a = none → c = 0) (hs : okA s) :
    Calls Try.prog 23 #[.slice a L.length c, .agg #[.int .i64 s.1, .int .i64 s.2.1, .bool s.2.2.1, .bool s.2.2.2]] w fun e w' => ∃ v, e = .returned (.tuple #[v, .int .i64 (adE L s)]) ∧ OwnA w' w.heap.size v (adL L s) ∧ Below w.heap.size w w' := by
  have hbx := below1 w (.cells #[.int .i64 s.1, .int .i64 s.2.1, .bool s.2.2.1, .bool s.2.2.2] 35)
  by_cases h60 : 60 ≤ L.length
  · have d1 : decide (60 ≤ L.length) = true := decide_eq_true h60
    have d2 : decide ((60 : Int) ≤ (L.length : Int)) = true := decide_eq_true (by omega)
    have e1 : adE L s = 3 := if_pos h60
    rw [show adL L s = [] from if_neg (by rw [e1]; omega), e1]
    have HB := Lib.hid hbx
    clear hL hbx e1
    go_enter Try.func23, Try.ntmps23
    go_wp2_with fail
    go_ret2
    exact ⟨_, rfl, OwnA.nil _ _, HB.out⟩
  · have d1 : decide (60 ≤ L.length) = false := decide_eq_false h60
    have d2 : decide ((60 : Int) ≤ (L.length : Int)) = false := decide_eq_false (by omega)
    have HO := Lib.hid (Ow4.new w (.int .i64 s.1) (.int .i64 s.2.1) (.bool s.2.2.1) (.bool s.2.2.2) 35)
    have hw := r20may s (L.length : Int) (w.alloc (.cells #[.int .i64 s.1, .int .i64 s.2.1, .bool s.2.2.1, .bool s.2.2.2] 35))
    have HRL0 : Hid (SlC w (.slice a L.length c) 4 L.length (rowA L)) := hL.slc hc ca
    have HBX := Lib.hid hbx
    obtain ⟨r, hr⟩ : ∃ r, wrA s (L.length : Int) = r := ⟨_, rfl⟩
    have e1 : adE L s = r := (if_neg h60).trans hr
    have HV : Hid (adL L s = if r = 0 then L ++ [s] else []) := by show _ = _; rw [← e1]; rfl
    rw [hr] at hw
    rw [e1]
    clear hL hbx hc ca hs hr e1
    obtain ⟨g0, g1, g2, g3, -⟩ := HO.out
    go_enter Try.func23, Try.ntmps23
    go_wp2_with fail
    refine hw.mono ?_; clear hw; rintro e W ⟨rfl, hb5⟩
    have HBW : Hid (Below w.heap.size w W) := HBX.out.trans (hb5.mono HBX.out.size)
    have HO5 := Lib.hid (HO.out.below hb5)
    clear hb5 g0 g1 g2 g3
    by_cases h0 : r = 0
    · subst h0
      have HAV : Hid (adL L s = L ++ [s]) := HV.out.trans (if_pos rfl)
      obtain ⟨g0, g1, g2, g3, -⟩ := HO5.out
      have hlt : w.heap.size < W.heap.size := World.block_lt_of_cell? _ _ g0
      obtain ⟨bs, hbs⟩ : ∃ bs, w.heap.size = bs := ⟨_, rfl⟩
      have HBSE := Lib.hid hbs
      clear HV HO HBX
      go_upto_region 6 with fail
      (try simp only [hbs] at g0 g1 g2 g3 hlt ⊢)
      have hS : Hid (∀ wz, Below W.heap.size W wz → wz.cell? ⟨bs, 0, none⟩ = some (.int .i64 s.1) ∧ wz.cell? ⟨bs, 1, none⟩ = some (.int .i64 s.2.1) ∧ wz.cell? ⟨bs, 2, none⟩ = some (.bool s.2.2.1) ∧ wz.cell? ⟨bs, 3, none⟩ = some (.bool s.2.2.2)) := fun wz h => ⟨(h.cell (p := ⟨bs, 0, none⟩) hlt).trans g0, (h.cell (p := ⟨bs, 1, none⟩) hlt).trans g1, (h.cell (p := ⟨bs, 2, none⟩) hlt).trans g2, (h.cell (p := ⟨bs, 3, none⟩) hlt).trans g3⟩
      have HRL : Hid (∀ X, Below W.heap.size W X → SlC X (.slice a L.length c) 4 L.length (rowA L)) := fun X h => (HRL0.out.below HBW.out).below h
      clear hbs hlt d1 d2
      refine wp_region_held_drew (S := fun wz => wz.cell? ⟨bs, 0, none⟩ = some (.int .i64 s.1) ∧ wz.cell? ⟨bs, 1, none⟩ = some (.int .i64 s.2.1) ∧ wz.cell? ⟨bs, 2, none⟩ = some (.bool s.2.2.1) ∧ wz.cell? ⟨bs, 3, none⟩ = some (.bool s.2.2.2)) (by kernel_rfl) (hS.out _ (Below.refl _ _).drew) (fun hHeld => ?_)
      refine wpAnyH_take (i := 1) (v := ?_) rfl (by kernel_rfl) (by kernel_rfl) (by kernel_rfl) (fun _ _ _ h => h) (Or.inl ⟨by rfl, ?y1⟩) (by assumption) ?_
      case y1 => intro w hSw; (try dsimp only at hSw); go_simp; (try with_reducible rfl)
      (try simp only [Act.put, List.setIfInBounds_toArray, List.set_cons_zero, List.set_cons_succ, List.getElem_toArray, List.getElem_cons_zero, List.getElem_cons_succ])
      refine wpAnyH_take (i := 3) (v := ?_) rfl (by kernel_rfl) (by kernel_rfl) (by kernel_rfl) (fun _ _ _ h => h) (Or.inl ⟨by rfl, ?y3⟩) (by assumption) ?_
      case y3 => intro w hSw; (try dsimp only at hSw); go_simp; (try with_reducible rfl)
      (try simp only [Act.put, List.setIfInBounds_toArray, List.set_cons_zero, List.set_cons_succ, List.getElem_toArray, List.getElem_cons_zero, List.getElem_cons_succ])
      refine wpAnyH_ready (rs := [0, 4]) (by kernel_rfl) (by simp) ?_
      refine AllReadyH.cons rfl (fun KK hKK => ?_) (AllReadyH.cons rfl (fun KK hKK => ?_) AllReadyH.nil)
      · skip
        go_simp
        have HE0 : Hid (Below W.heap.size W (W.alloc (.cells #[] 35)).drew) := ((below1 W (.cells #[] 35)).drew)
        have HO0 : Hid (World.ownsRow (W.alloc (.cells #[] 35)).drew W.heap.size 35 4 (.slice (some ⟨W.heap.size, 0, none⟩) 0 0) 0 []) := ownsRow_lower ((litA W).drew) (Nat.le_refl _)
        refine hKK.out _ _ (hS.out _ HE0.out) (fun hHeld => ?_)
        clear hKK KK
        (try simp only [Act.put, List.setIfInBounds_toArray, List.set_cons_zero, List.set_cons_succ, List.getElem_toArray, List.getElem_cons_zero, List.getElem_cons_succ])
        generalize (W.alloc (.cells #[] 35)).drew = X at *
        refine wpAnyH_ready (rs := [2, 4]) (by kernel_rfl) (by simp) ?_
        refine AllReadyH.cons rfl (fun KK hKK => ?_) (AllReadyH.cons rfl (fun KK hKK => ?_) AllReadyH.nil)
        · skip
          refine step_app rfl (.tmp 17) (.tmp 18) 22 rfl W.heap.size 35 4 24 (.agg #[.int .i64 0, .int .i64 0, .bool false, .bool false]) Try.underlying22 acc_info rfl (by decide) (.slice (some ⟨W.heap.size, 0, none⟩) 0 0) 0 [] (by simp [Act.eval, Act.put]) HO0.out (.slice a L.length c) L.length (rowA L) (by simp [Act.eval, Act.put]) (HRL.out _ HE0.out) (rowA_one L) (by omega) (by decide) HE0.out.size ?_
          intro v5 w5 ho5 hb5 hg5
          have HB5 : Hid (Below W.heap.size W w5) := HE0.out.trans hb5
          have HO5 := Lib.hid ho5
          clear ho5 hb5 hg5
          refine hKK.out _ _ (hS.out _ HB5.out) (fun hHeld => ?_)
          clear hKK KK
          (try simp only [Act.put, List.setIfInBounds_toArray, List.set_cons_zero, List.set_cons_succ, List.getElem_toArray, List.getElem_cons_zero, List.getElem_cons_succ])
          refine wpAnyH_ready (rs := [4]) (by kernel_rfl) (by simp) ?_
          refine AllReadyH.cons rfl (fun KK hKK => ?_) AllReadyH.nil
          go_simp
          have HE1 : Hid (Below W.heap.size W (w5.alloc (.cells #[.int .i64 s.1, .int .i64 s.2.1, .bool s.2.2.1, .bool s.2.2.2] 35))) := (HB5.out.trans ((below1 w5 (.cells #[.int .i64 s.1, .int .i64 s.2.1, .bool s.2.2.1, .bool s.2.2.2] 35)).mono HB5.out.size))
          have HN : Hid (SlC (w5.alloc (.cells #[.int .i64 s.1, .int .i64 s.2.1, .bool s.2.2.1, .bool s.2.2.2] 35)) (.slice (some ⟨w5.heap.size, 0, none⟩) 1 1) 4 1 (cellsA s) ∧ w5.heap.size < (w5.alloc (.cells #[.int .i64 s.1, .int .i64 s.2.1, .bool s.2.2.1, .bool s.2.2.2] 35)).heap.size) := ⟨oneA w5 s, by simp⟩
          have HOk : Hid (World.ownsRow (w5.alloc (.cells #[.int .i64 s.1, .int .i64 s.2.1, .bool s.2.2.1, .bool s.2.2.2] 35)) W.heap.size 35 4 v5 (0 + L.length) ([] ++ rowA L)) := ownsRow_below HO5.out (below1 w5 (.cells #[.int .i64 s.1, .int .i64 s.2.1, .bool s.2.2.1, .bool s.2.2.2] 35))
          refine hKK.out _ _ (hS.out _ HE1.out) (fun hHeld => ?_)
          clear hKK KK
          (try simp only [Act.put, List.setIfInBounds_toArray, List.set_cons_zero, List.set_cons_succ, List.getElem_toArray, List.getElem_cons_zero, List.getElem_cons_succ])
          generalize (w5.alloc (.cells #[.int .i64 s.1, .int .i64 s.2.1, .bool s.2.2.1, .bool s.2.2.2] 35)) = Y at *
          refine wpAnyH_ready (rs := [5]) (by kernel_rfl) (by simp) ?_
          refine AllReadyH.cons rfl (fun KK hKK => ?_) AllReadyH.nil
          have HB5 := HE1
          refine step_app rfl (.tmp 19) (.tmp 21) 22 rfl W.heap.size 35 4 24 (.agg #[.int .i64 0, .int .i64 0, .bool false, .bool false]) Try.underlying22 acc_info rfl (by decide) v5 (0 + L.length) ([] ++ rowA L) (by simp [Act.eval, Act.put]) HOk.out (.slice (some ⟨w5.heap.size, 0, none⟩) 1 1) 1 (cellsA s) (by simp [Act.eval, Act.put]) HN.out.1 (cellsA_one s) (by omega) (by decide) HE1.out.size ?_
          intro v6 w6 ho6 hb6 hg6
          have HB6 : Hid (Below W.heap.size W w6) := HB5.out.trans hb6
          have HO6 : Hid (OwnA w6 W.heap.size v6 (L ++ [s])) := by
            show World.ownsRow _ _ _ _ _ _ _
            rw [List.length_append, ← rowA_app]
            simpa using ho6
          clear ho6 hb6 hg6
          refine hKK.out _ _ (hS.out _ HB6.out) (fun hHeld => ?_)
          clear hKK KK
          (try simp only [Act.put, List.setIfInBounds_toArray, List.set_cons_zero, List.set_cons_succ, List.getElem_toArray, List.getElem_cons_zero, List.getElem_cons_succ])
          refine wpAnyH_take (i := 6) (v := ?_) rfl (by kernel_rfl) (by kernel_rfl) (by kernel_rfl) (fun _ _ _ h => h) (Or.inl ⟨by rfl, ?y6⟩) (by assumption) ?_
          case y6 => intro w hSw; (try dsimp only at hSw); go_simp; (try with_reducible rfl)
          (try simp only [Act.put, List.setIfInBounds_toArray, List.set_cons_zero, List.set_cons_succ, List.getElem_toArray, List.getElem_cons_zero, List.getElem_cons_succ])
          refine wpAnyH_take (i := 7) (v := ?_) rfl (by kernel_rfl) (by kernel_rfl) (by kernel_rfl) (fun _ _ _ h => h) (Or.inl ⟨by rfl, ?y7⟩) (by assumption) ?_
          case y7 => intro w hSw; (try dsimp only at hSw); go_simp; (try with_reducible rfl)
          (try simp only [Act.put, List.setIfInBounds_toArray, List.set_cons_zero, List.set_cons_succ, List.getElem_toArray, List.getElem_cons_zero, List.getElem_cons_succ])
          refine wpAnyH_done (by kernel_rfl) ?_ _
          obtain ⟨a6, c6, hv6⟩ := (ownsRow_slc HO6.out).form
          subst hv6
          go_wp2_with fail
          go_ret2
          rw [HAV.out]
          exact ⟨_, rfl, HO6.out.lower HBW.out.size, HBW.out.trans (HB6.out.mono HBW.out.size)⟩
        · skip
          go_simp
          have HE1 : Hid (Below W.heap.size W (X.alloc (.cells #[.int .i64 s.1, .int .i64 s.2.1, .bool s.2.2.1, .bool s.2.2.2] 35))) := (HE0.out.trans ((below1 X (.cells #[.int .i64 s.1, .int .i64 s.2.1, .bool s.2.2.1, .bool s.2.2.2] 35)).mono HE0.out.size))
          have HN : Hid (SlC (X.alloc (.cells #[.int .i64 s.1, .int .i64 s.2.1, .bool s.2.2.1, .bool s.2.2.2] 35)) (.slice (some ⟨X.heap.size, 0, none⟩) 1 1) 4 1 (cellsA s) ∧ X.heap.size < (X.alloc (.cells #[.int .i64 s.1, .int .i64 s.2.1, .bool s.2.2.1, .bool s.2.2.2] 35)).heap.size) := ⟨oneA X s, by simp⟩
          have HOk : Hid (World.ownsRow (X.alloc (.cells #[.int .i64 s.1, .int .i64 s.2.1, .bool s.2.2.1, .bool s.2.2.2] 35)) W.heap.size 35 4 (.slice (some ⟨W.heap.size, 0, none⟩) 0 0) 0 []) := ownsRow_below HO0.out (below1 X (.cells #[.int .i64 s.1, .int .i64 s.2.1, .bool s.2.2.1, .bool s.2.2.2] 35))
          refine hKK.out _ _ (hS.out _ HE1.out) (fun hHeld => ?_)
          clear hKK KK
          (try simp only [Act.put, List.setIfInBounds_toArray, List.set_cons_zero, List.set_cons_succ, List.getElem_toArray, List.getElem_cons_zero, List.getElem_cons_succ])
          generalize (X.alloc (.cells #[.int .i64 s.1, .int .i64 s.2.1, .bool s.2.2.1, .bool s.2.2.2] 35)) = Y at *
          have HNX : Hid (W.heap.size < X.heap.size) := (World.ownsRow.lt HO0.out _ rfl).2
          refine wpAnyH_ready (rs := [2]) (by kernel_rfl) (by simp) ?_
          refine AllReadyH.cons rfl (fun KK hKK => ?_) AllReadyH.nil
          refine step_app rfl (.tmp 17) (.tmp 18) 22 rfl W.heap.size 35 4 24 (.agg #[.int .i64 0, .int .i64 0, .bool false, .bool false]) Try.underlying22 acc_info rfl (by decide) (.slice (some ⟨W.heap.size, 0, none⟩) 0 0) 0 [] (by simp [Act.eval, Act.put]) HOk.out (.slice a L.length c) L.length (rowA L) (by simp [Act.eval, Act.put]) (HRL.out _ HE1.out) (rowA_one L) (by omega) (by decide) HE1.out.size ?_
          intro v5 w5 ho5 hb5 hg5
          have HB5 : Hid (Below W.heap.size W w5) := HE1.out.trans hb5
          have HO5 := Lib.hid ho5
          have HN5 : Hid (SlC w5 (.slice (some ⟨X.heap.size, 0, none⟩) 1 1) 4 1 (cellsA s)) := HN.out.1.grown hg5 (by intro q hq; have := HNX.out; simp [Value.ownBlock] at hq ⊢; omega)
          clear ho5 hb5 hg5
          refine hKK.out _ _ (hS.out _ HB5.out) (fun hHeld => ?_)
          clear hKK KK
          (try simp only [Act.put, List.setIfInBounds_toArray, List.set_cons_zero, List.set_cons_succ, List.getElem_toArray, List.getElem_cons_zero, List.getElem_cons_succ])
          refine wpAnyH_ready (rs := [5]) (by kernel_rfl) (by simp) ?_
          refine AllReadyH.cons rfl (fun KK hKK => ?_) AllReadyH.nil
          refine step_app rfl (.tmp 19) (.tmp 21) 22 rfl W.heap.size 35 4 24 (.agg #[.int .i64 0, .int .i64 0, .bool false, .bool false]) Try.underlying22 acc_info rfl (by decide) v5 (0 + L.length) ([] ++ rowA L) (by simp [Act.eval, Act.put]) HO5.out (.slice (some ⟨X.heap.size, 0, none⟩) 1 1) 1 (cellsA s) (by simp [Act.eval, Act.put]) HN5.out (cellsA_one s) (by omega) (by decide) HB5.out.size ?_
          intro v6 w6 ho6 hb6 hg6
          have HB6 : Hid (Below W.heap.size W w6) := HB5.out.trans hb6
          have HO6 : Hid (OwnA w6 W.heap.size v6 (L ++ [s])) := by
            show World.ownsRow _ _ _ _ _ _ _
            rw [List.length_append, ← rowA_app]
            simpa using ho6
          clear ho6 hb6 hg6
          refine hKK.out _ _ (hS.out _ HB6.out) (fun hHeld => ?_)
          clear hKK KK
          (try simp only [Act.put, List.setIfInBounds_toArray, List.set_cons_zero, List.set_cons_succ, List.getElem_toArray, List.getElem_cons_zero, List.getElem_cons_succ])
          refine wpAnyH_take (i := 6) (v := ?_) rfl (by kernel_rfl) (by kernel_rfl) (by kernel_rfl) (fun _ _ _ h => h) (Or.inl ⟨by rfl, ?y6⟩) (by assumption) ?_
          case y6 => intro w hSw; (try dsimp only at hSw); go_simp; (try with_reducible rfl)
          (try simp only [Act.put, List.setIfInBounds_toArray, List.set_cons_zero, List.set_cons_succ, List.getElem_toArray, List.getElem_cons_zero, List.getElem_cons_succ])
          refine wpAnyH_take (i := 7) (v := ?_) rfl (by kernel_rfl) (by kernel_rfl) (by kernel_rfl) (fun _ _ _ h => h) (Or.inl ⟨by rfl, ?y7⟩) (by assumption) ?_
          case y7 => intro w hSw; (try dsimp only at hSw); go_simp; (try with_reducible rfl)
          (try simp only [Act.put, List.setIfInBounds_toArray, List.set_cons_zero, List.set_cons_succ, List.getElem_toArray, List.getElem_cons_zero, List.getElem_cons_succ])
          refine wpAnyH_done (by kernel_rfl) ?_ _
          obtain ⟨a6, c6, hv6⟩ := (ownsRow_slc HO6.out).form
          subst hv6
          go_wp2_with fail
          go_ret2
          rw [HAV.out]
          exact ⟨_, rfl, HO6.out.lower HBW.out.size, HBW.out.trans (HB6.out.mono HBW.out.size)⟩
      · skip
        go_simp
        have HE1 : Hid (Below W.heap.size W (W.alloc (.cells #[.int .i64 s.1, .int .i64 s.2.1, .bool s.2.2.1, .bool s.2.2.2] 35)).drew) := ((below1 W (.cells #[.int .i64 s.1, .int .i64 s.2.1, .bool s.2.2.1, .bool s.2.2.2] 35)).drew)
        have HN : Hid (SlC (W.alloc (.cells #[.int .i64 s.1, .int .i64 s.2.1, .bool s.2.2.1, .bool s.2.2.2] 35)).drew (.slice (some ⟨W.heap.size, 0, none⟩) 1 1) 4 1 (cellsA s) ∧ W.heap.size < (W.alloc (.cells #[.int .i64 s.1, .int .i64 s.2.1, .bool s.2.2.1, .bool s.2.2.2] 35)).drew.heap.size) := ⟨(oneA W s).below (Below.refl _ _).drew, by simp⟩
        refine hKK.out _ _ (hS.out _ HE1.out) (fun hHeld => ?_)
        clear hKK KK
        (try simp only [Act.put, List.setIfInBounds_toArray, List.set_cons_zero, List.set_cons_succ, List.getElem_toArray, List.getElem_cons_zero, List.getElem_cons_succ])
        generalize (W.alloc (.cells #[.int .i64 s.1, .int .i64 s.2.1, .bool s.2.2.1, .bool s.2.2.2] 35)).drew = X at *
        have hn1 : W.heap.size < X.heap.size := HN.out.2
        refine wpAnyH_ready (rs := [0]) (by kernel_rfl) (by simp) ?_
        refine AllReadyH.cons rfl (fun KK hKK => ?_) AllReadyH.nil
        go_simp
        have HE0 : Hid (Below W.heap.size W (X.alloc (.cells #[] 35))) := (HE1.out.trans ((below1 X (.cells #[] 35)).mono HE1.out.size))
        have HO0 : Hid (World.ownsRow (X.alloc (.cells #[] 35)) W.heap.size 35 4 (.slice (some ⟨X.heap.size, 0, none⟩) 0 0) 0 []) := ownsRow_lower ((litA X)) HE1.out.size
        have HN1 : Hid (SlC (X.alloc (.cells #[] 35)) (.slice (some ⟨W.heap.size, 0, none⟩) 1 1) 4 1 (cellsA s) ∧ W.heap.size < (X.alloc (.cells #[] 35)).heap.size) := ⟨HN.out.1.below (below1 X (.cells #[] 35)), Nat.lt_of_lt_of_le HN.out.2 ((below1 X (.cells #[] 35))).size⟩
        have HNE : Hid (W.heap.size < X.heap.size) := HN.out.2
        refine hKK.out _ _ (hS.out _ HE0.out) (fun hHeld => ?_)
        clear hKK KK
        (try simp only [Act.put, List.setIfInBounds_toArray, List.set_cons_zero, List.set_cons_succ, List.getElem_toArray, List.getElem_cons_zero, List.getElem_cons_succ])
        generalize (X.alloc (.cells #[] 35)) = Y at *
        refine wpAnyH_ready (rs := [2]) (by kernel_rfl) (by simp) ?_
        refine AllReadyH.cons rfl (fun KK hKK => ?_) AllReadyH.nil
        refine step_app rfl (.tmp 17) (.tmp 18) 22 rfl W.heap.size 35 4 24 (.agg #[.int .i64 0, .int .i64 0, .bool false, .bool false]) Try.underlying22 acc_info rfl (by decide) (.slice (some ⟨X.heap.size, 0, none⟩) 0 0) 0 [] (by simp [Act.eval, Act.put]) HO0.out (.slice a L.length c) L.length (rowA L) (by simp [Act.eval, Act.put]) (HRL.out _ HE0.out) (rowA_one L) (by omega) (by decide) HE0.out.size ?_
        intro v5 w5 ho5 hb5 hg5
        have HB5 : Hid (Below W.heap.size W w5) := HE0.out.trans hb5
        have HO5 := Lib.hid ho5
        have HN5 : Hid (SlC w5 (.slice (some ⟨W.heap.size, 0, none⟩) 1 1) 4 1 (cellsA s)) := HN1.out.1.grown hg5 (by intro q hq; have := HNE.out; simp [Value.ownBlock] at hq ⊢; omega)
        clear ho5 hb5 hg5
        refine hKK.out _ _ (hS.out _ HB5.out) (fun hHeld => ?_)
        clear hKK KK
        (try simp only [Act.put, List.setIfInBounds_toArray, List.set_cons_zero, List.set_cons_succ, List.getElem_toArray, List.getElem_cons_zero, List.getElem_cons_succ])
        refine wpAnyH_ready (rs := [5]) (by kernel_rfl) (by simp) ?_
        refine AllReadyH.cons rfl (fun KK hKK => ?_) AllReadyH.nil
        refine step_app rfl (.tmp 19) (.tmp 21) 22 rfl W.heap.size 35 4 24 (.agg #[.int .i64 0, .int .i64 0, .bool false, .bool false]) Try.underlying22 acc_info rfl (by decide) v5 (0 + L.length) ([] ++ rowA L) (by simp [Act.eval, Act.put]) HO5.out (.slice (some ⟨W.heap.size, 0, none⟩) 1 1) 1 (cellsA s) (by simp [Act.eval, Act.put]) HN5.out (cellsA_one s) (by omega) (by decide) HB5.out.size ?_
        intro v6 w6 ho6 hb6 hg6
        have HB6 : Hid (Below W.heap.size W w6) := HB5.out.trans hb6
        have HO6 : Hid (OwnA w6 W.heap.size v6 (L ++ [s])) := by
          show World.ownsRow _ _ _ _ _ _ _
          rw [List.length_append, ← rowA_app]
          simpa using ho6
        clear ho6 hb6 hg6
        refine hKK.out _ _ (hS.out _ HB6.out) (fun hHeld => ?_)
        clear hKK KK
        (try simp only [Act.put, List.setIfInBounds_toArray, List.set_cons_zero, List.set_cons_succ, List.getElem_toArray, List.getElem_cons_zero, List.getElem_cons_succ])
        refine wpAnyH_take (i := 6) (v := ?_) rfl (by kernel_rfl) (by kernel_rfl) (by kernel_rfl) (fun _ _ _ h => h) (Or.inl ⟨by rfl, ?y6⟩) (by assumption) ?_
        case y6 => intro w hSw; (try dsimp only at hSw); go_simp; (try with_reducible rfl)
        (try simp only [Act.put, List.setIfInBounds_toArray, List.set_cons_zero, List.set_cons_succ, List.getElem_toArray, List.getElem_cons_zero, List.getElem_cons_succ])
        refine wpAnyH_take (i := 7) (v := ?_) rfl (by kernel_rfl) (by kernel_rfl) (by kernel_rfl) (fun _ _ _ h => h) (Or.inl ⟨by rfl, ?y7⟩) (by assumption) ?_
        case y7 => intro w hSw; (try dsimp only at hSw); go_simp; (try with_reducible rfl)
        (try simp only [Act.put, List.setIfInBounds_toArray, List.set_cons_zero, List.set_cons_succ, List.getElem_toArray, List.getElem_cons_zero, List.getElem_cons_succ])
        refine wpAnyH_done (by kernel_rfl) ?_ _
        obtain ⟨a6, c6, hv6⟩ := (ownsRow_slc HO6.out).form
        subst hv6
        go_wp2_with fail
        go_ret2
        rw [HAV.out]
        exact ⟨_, rfl, HO6.out.lower HBW.out.size, HBW.out.trans (HB6.out.mono HBW.out.size)⟩
    · have HAV : Hid (adL L s = []) := HV.out.trans (if_neg h0)
      have e0 : (r != 0) = true := by simpa using h0
      clear h0
      go_wp2_with fail
      go_ret2
      rw [HAV.out]
      exact ⟨_, rfl, OwnA.nil _ _, HBW.out⟩
set_option maxHeartbeats 8000000 in
set_option maxRecDepth 100000 in
theorem r20move (a : Option Addr) (c : Nat) (L : List AcT) (y p : Int) (w : World) (hL : RdA w a L) (hn : L.length ≤ 1000) (hc : L.length ≤ c) (ca : a = none → c = 0) :
    Calls Try.prog 25 #[.slice a L.length c, .int .i64 y, .int .i64 p] w fun e w' => ∃ v, e = .returned (.tuple #[v, .int .i64 (mvE L y p)]) ∧ OwnA w' w.heap.size v (mvL L y p) ∧ Below w.heap.size w w' := by
  have hi1 := r20is a L.length c y w
  by_cases hy : Ent (L.length : Int) y
  · rw [decide_eq_true hy] at hi1
    by_cases hp0 : p = 0
    · have t0 : (p != 0) = false := by simpa using hp0
      have hm1 : ¬ (¬ Ent (L.length : Int) y ∨ (p ≠ 0 ∧ ¬ Ent (L.length : Int) p)) := fun q => q.elim (fun r => r hy) (fun r => r.1 hp0)
      by_cases h1 : y ≤ 3
      · have d1 : decide (y ≤ 3) = true := decide_eq_true h1
        have HZ : Hid (mvE L y p = 28 ∧ mvL L y p = []) := by
          have e : mvE L y p = 28 := by unfold mvE; rw [if_neg hm1, if_pos (Or.inl ⟨hy.1, h1⟩)]
          exact ⟨e, if_neg (by rw [e]; omega)⟩
        clear hL hm1 h1 hy hp0
        go_enter Try.func25, Try.ntmps25
        go_wp2_with fail
        refine hi1.mono ?_; clear hi1; rintro e wn ⟨rfl, rfl⟩
        go_wp2_with fail
        go_ret2
        rw [HZ.out.1, HZ.out.2]
        exact ⟨_, rfl, OwnA.nil _ _, Below.refl _ _⟩
      · have d1 : decide (y ≤ 3) = false := decide_eq_false h1
        have h2 : ¬ 1 ≤ p := by omega
        have d2 : decide (1 ≤ p) = false := decide_eq_false h2
        have hm2 : ¬ ((1 ≤ y ∧ y ≤ 3) ∨ (1 ≤ p ∧ p ≤ 3)) := fun q => q.elim (fun r => h1 r.2) (fun r => h2 r.1)
        by_cases h3 : p = y
        · have t3 : (p == y) = true := by simpa using h3
          have HZ : Hid (mvE L y p = 26 ∧ mvL L y p = []) := by
            have e : mvE L y p = 26 := by unfold mvE; rw [if_neg hm1, if_neg hm2, if_pos (Or.inl h3)]
            exact ⟨e, if_neg (by rw [e]; omega)⟩
          clear hL hm1 hm2 h1 h2 h3 hy hp0
          go_enter Try.func25, Try.ntmps25
          go_wp2_with fail
          refine hi1.mono ?_; clear hi1; rintro e wn ⟨rfl, rfl⟩
          go_wp2_with fail
          go_ret2
          rw [HZ.out.1, HZ.out.2]
          exact ⟨_, rfl, OwnA.nil _ _, Below.refl _ _⟩
        · have t3 : (p == y) = false := by simpa using h3
          have hu := r20up a c L p w hL hn
          have HUI : Hid ((ups L.length (pa L) p).length ≤ 1000 ∧ ∀ z ∈ ups L.length (pa L) p, InR z) := ⟨Nat.le_trans (ups_few _ _ _) hn, ups_in hn⟩
          have HL := Lib.hid hL
          by_cases h4 : y ∈ ups L.length (pa L) p
          · have HZ : Hid (mvE L y p = 26 ∧ mvL L y p = []) := by
              have e : mvE L y p = 26 := by unfold mvE; rw [if_neg hm1, if_neg hm2, if_pos (Or.inr h4)]
              exact ⟨e, if_neg (by rw [e]; omega)⟩
            have HI4 := Lib.hid h4
            generalize ups L.length (pa L) p = U at *
            clear hL hm1 hm2 h1 h2 h3 h4 hy hp0
            go_enter Try.func25, Try.ntmps25
            go_wp2_with fail
            refine hi1.mono ?_; clear hi1; rintro e wn ⟨rfl, rfl⟩
            go_wp2_with fail
            refine hu.mono ?_; clear hu; rintro e w1 ⟨v, rfl, ho, hb⟩
            have HB := Lib.hid hb
            obtain ⟨ra, rc, rfl, -, hR⟩ := ho.reads HUI.out.2
            have hcn := has_any ra rc U y w1 hR (by have := HUI.out.1; omega)
            rw [decide_eq_true HI4.out] at hcn
            clear ho hb hR
            go_wp2_with fail
            refine hcn.mono ?_; clear hcn; rintro e wn ⟨rfl, rfl⟩
            go_wp2_with fail
            go_ret2
            rw [HZ.out.1, HZ.out.2]
            exact ⟨_, rfl, OwnA.nil _ _, HB.out⟩
          · have hz : mvE L y p = 0 := by unfold mvE; rw [if_neg hm1, if_neg hm2, if_neg (fun q => q.elim h3 h4)]
            have HZ : Hid (mvE L y p = 0 ∧ mvL L y p = setP L (y - 1).toNat p) := ⟨hz, if_pos hz⟩
            have HI4 := Lib.hid h4
            obtain ⟨k, hk⟩ : ∃ k : Nat, y = (k : Int) + 1 := ⟨(y - 1).toNat, by unfold Ent at hy; omega⟩
            have hkl : k < L.length := by unfold Ent at hy; omega
            have hk2 : (y - 1).toNat = k := by omega
            rw [hk2] at HZ
            have e1 : wrap64 (y - 1) = (k : Int) := by unfold wrap64; omega
            have i0 : (0 : Int) ≤ (k : Int) := by omega
            have i1 : (k : Int) < (L.length : Int) := by omega
            have HKL := Lib.hid hkl
            have HN := Lib.hid hn
            have HSC : Hid (SlC w (.slice a L.length c) 4 L.length (rowA L)) := hL.slc hc ca
            generalize ups L.length (pa L) p = U at *
            clear hL hm1 hm2 h1 h2 h3 h4 hz hk hkl hk2 hn hc ca hy hp0
            go_enter Try.func25, Try.ntmps25
            go_wp2_with fail
            refine hi1.mono ?_; clear hi1; rintro e wn ⟨rfl, rfl⟩
            go_wp2_with fail
            refine hu.mono ?_; clear hu; rintro e w1 ⟨v, rfl, ho, hb⟩
            have HB := Lib.hid hb
            obtain ⟨ra, rc, rfl, -, hR⟩ := ho.reads HUI.out.2
            have hcn := has_any ra rc U y w1 hR (by have := HUI.out.1; omega)
            rw [decide_eq_false HI4.out] at hcn
            clear ho hb hR
            go_wp2_with fail
            refine hcn.mono ?_; clear hcn; rintro e wn ⟨rfl, rfl⟩
            have hO : OwnA (w1.alloc (.cells #[] 35)) w1.heap.size (.slice (some ⟨w1.heap.size, 0, none⟩) 0 0) [] := litA w1
            have hb1 := below1 w1 (.cells #[] 35)
            have hSC := (HSC.out.below HB.out).below hb1
            have hsz1 := hb1.size
            have hlen := HN.out
            have HSZ := Lib.hid hb1
            have HOO := Lib.hid hO
            have HSS := Lib.hid hSC
            clear hO hSC hb1
            go_wp2_with
              (at_builtin
               refine wp_catA _ rfl (.tmp 43) (.tmp 44) rfl w1.heap.size _ [] L a c rfl HOO.out rfl HSS.out (by simp; omega) hsz1 ?_
               intro v2 w2 ho2 hb2
               rw [List.nil_append] at ho2
               obtain ⟨g, cg, rfl⟩ : ∃ g cg, v2 = .slice (some ⟨g, 0, none⟩) L.length cg := by
                 rcases ho2.2 with ⟨_, q⟩ | ⟨g, cap, cur, e, _⟩
                 · have := HKL.out; omega
                 · exact ⟨g, cap, e⟩
               obtain ⟨hck, hfk⟩ := ho2.cell HKL.out
               have hpt := ho2.put HKL.out p
               have htn : Turn (fun i => i = g) w2 (w2.setCell ⟨g, k * 4, none⟩ (.int .i64 p)) := turn_set (F := fun i => i = g) (p := ⟨g, k * 4, none⟩) (Turn.refl _ _) (Or.inl (show g = g from rfl)) _
               have hgb : w1.heap.size ≤ g := (World.ownsRow.lt ho2 g rfl).1
               have hb3 := HSZ.out.trans hb2
               have HPT : Hid (OwnA (w2.setCell ⟨g, k * 4, none⟩ (.int .i64 p)) w.heap.size (.slice (some ⟨g, 0, none⟩) L.length cg) (setP L k p) ∧ Below w.heap.size w (w2.setCell ⟨g, k * 4, none⟩ (.int .i64 p))) :=
                 ⟨hpt.lower HB.out.size, HB.out.trans ((hb3.trans (htn.below (fun i e => by omega) hb3.size)).mono HB.out.size)⟩
               clear ho2 hb2 hpt htn hgb hb3)
            go_ret2
            rw [HZ.out.1, HZ.out.2]
            exact ⟨_, rfl, HPT.out.1, HPT.out.2⟩
    · have t0 : (p != 0) = true := by simpa using hp0
      have hi2 := r20is a L.length c p w
      by_cases hp : Ent (L.length : Int) p
      · rw [decide_eq_true hp] at hi2
        have hm1 : ¬ (¬ Ent (L.length : Int) y ∨ (p ≠ 0 ∧ ¬ Ent (L.length : Int) p)) := fun q => q.elim (fun r => r hy) (fun r => r.2 hp)
        by_cases h1 : y ≤ 3
        · have d1 : decide (y ≤ 3) = true := decide_eq_true h1
          have HZ : Hid (mvE L y p = 28 ∧ mvL L y p = []) := by
            have e : mvE L y p = 28 := by unfold mvE; rw [if_neg hm1, if_pos (Or.inl ⟨hy.1, h1⟩)]
            exact ⟨e, if_neg (by rw [e]; omega)⟩
          clear hL hm1 h1 hy hp0 hp
          go_enter Try.func25, Try.ntmps25
          go_wp2_with fail
          refine hi1.mono ?_; clear hi1; rintro e wn ⟨rfl, rfl⟩
          go_wp2_with fail
          refine hi2.mono ?_; clear hi2; rintro e wn ⟨rfl, rfl⟩
          go_wp2_with fail
          go_ret2
          rw [HZ.out.1, HZ.out.2]
          exact ⟨_, rfl, OwnA.nil _ _, Below.refl _ _⟩
        · have d1 : decide (y ≤ 3) = false := decide_eq_false h1
          by_cases h2 : 1 ≤ p
          · have d2 : decide (1 ≤ p) = true := decide_eq_true h2
            by_cases h5 : p ≤ 3
            · have d5 : decide (p ≤ 3) = true := decide_eq_true h5
              have HZ : Hid (mvE L y p = 28 ∧ mvL L y p = []) := by
                have e : mvE L y p = 28 := by unfold mvE; rw [if_neg hm1, if_pos (Or.inr ⟨h2, h5⟩)]
                exact ⟨e, if_neg (by rw [e]; omega)⟩
              clear hL hm1 h1 h2 h5 hy hp0 hp
              go_enter Try.func25, Try.ntmps25
              go_wp2_with fail
              refine hi1.mono ?_; clear hi1; rintro e wn ⟨rfl, rfl⟩
              go_wp2_with fail
              refine hi2.mono ?_; clear hi2; rintro e wn ⟨rfl, rfl⟩
              go_wp2_with fail
              go_ret2
              rw [HZ.out.1, HZ.out.2]
              exact ⟨_, rfl, OwnA.nil _ _, Below.refl _ _⟩
            · have d5 : decide (p ≤ 3) = false := decide_eq_false h5
              have hm2 : ¬ ((1 ≤ y ∧ y ≤ 3) ∨ (1 ≤ p ∧ p ≤ 3)) := fun q => q.elim (fun r => h1 r.2) (fun r => h5 r.2)
              by_cases h3 : p = y
              · have t3 : (p == y) = true := by simpa using h3
                have HZ : Hid (mvE L y p = 26 ∧ mvL L y p = []) := by
                  have e : mvE L y p = 26 := by unfold mvE; rw [if_neg hm1, if_neg hm2, if_pos (Or.inl h3)]
                  exact ⟨e, if_neg (by rw [e]; omega)⟩
                clear hL hm1 hm2 h1 h2 h5 h3 hy hp0 hp
                go_enter Try.func25, Try.ntmps25
                go_wp2_with fail
                refine hi1.mono ?_; clear hi1; rintro e wn ⟨rfl, rfl⟩
                go_wp2_with fail
                refine hi2.mono ?_; clear hi2; rintro e wn ⟨rfl, rfl⟩
                go_wp2_with fail
                go_ret2
                rw [HZ.out.1, HZ.out.2]
                exact ⟨_, rfl, OwnA.nil _ _, Below.refl _ _⟩
              · have t3 : (p == y) = false := by simpa using h3
                have hu := r20up a c L p w hL hn
                have HUI : Hid ((ups L.length (pa L) p).length ≤ 1000 ∧ ∀ z ∈ ups L.length (pa L) p, InR z) := ⟨Nat.le_trans (ups_few _ _ _) hn, ups_in hn⟩
                have HL := Lib.hid hL
                by_cases h4 : y ∈ ups L.length (pa L) p
                · have HZ : Hid (mvE L y p = 26 ∧ mvL L y p = []) := by
                    have e : mvE L y p = 26 := by unfold mvE; rw [if_neg hm1, if_neg hm2, if_pos (Or.inr h4)]
                    exact ⟨e, if_neg (by rw [e]; omega)⟩
                  have HI4 := Lib.hid h4
                  generalize ups L.length (pa L) p = U at *
                  clear hL hm1 hm2 h1 h2 h5 h3 h4 hy hp0 hp
                  go_enter Try.func25, Try.ntmps25
                  go_wp2_with fail
                  refine hi1.mono ?_; clear hi1; rintro e wn ⟨rfl, rfl⟩
                  go_wp2_with fail
                  refine hi2.mono ?_; clear hi2; rintro e wn ⟨rfl, rfl⟩
                  go_wp2_with fail
                  refine hu.mono ?_; clear hu; rintro e w1 ⟨v, rfl, ho, hb⟩
                  have HB := Lib.hid hb
                  obtain ⟨ra, rc, rfl, -, hR⟩ := ho.reads HUI.out.2
                  have hcn := has_any ra rc U y w1 hR (by have := HUI.out.1; omega)
                  rw [decide_eq_true HI4.out] at hcn
                  clear ho hb hR
                  go_wp2_with fail
                  refine hcn.mono ?_; clear hcn; rintro e wn ⟨rfl, rfl⟩
                  go_wp2_with fail
                  go_ret2
                  rw [HZ.out.1, HZ.out.2]
                  exact ⟨_, rfl, OwnA.nil _ _, HB.out⟩
                · have hz : mvE L y p = 0 := by unfold mvE; rw [if_neg hm1, if_neg hm2, if_neg (fun q => q.elim h3 h4)]
                  have HZ : Hid (mvE L y p = 0 ∧ mvL L y p = setP L (y - 1).toNat p) := ⟨hz, if_pos hz⟩
                  have HI4 := Lib.hid h4
                  obtain ⟨k, hk⟩ : ∃ k : Nat, y = (k : Int) + 1 := ⟨(y - 1).toNat, by unfold Ent at hy; omega⟩
                  have hkl : k < L.length := by unfold Ent at hy; omega
                  have hk2 : (y - 1).toNat = k := by omega
                  rw [hk2] at HZ
                  have e1 : wrap64 (y - 1) = (k : Int) := by unfold wrap64; omega
                  have i0 : (0 : Int) ≤ (k : Int) := by omega
                  have i1 : (k : Int) < (L.length : Int) := by omega
                  have HKL := Lib.hid hkl
                  have HN := Lib.hid hn
                  have HSC : Hid (SlC w (.slice a L.length c) 4 L.length (rowA L)) := hL.slc hc ca
                  generalize ups L.length (pa L) p = U at *
                  clear hL hm1 hm2 h1 h2 h5 h3 h4 hz hk hkl hk2 hn hc ca hy hp0 hp
                  go_enter Try.func25, Try.ntmps25
                  go_wp2_with fail
                  refine hi1.mono ?_; clear hi1; rintro e wn ⟨rfl, rfl⟩
                  go_wp2_with fail
                  refine hi2.mono ?_; clear hi2; rintro e wn ⟨rfl, rfl⟩
                  go_wp2_with fail
                  refine hu.mono ?_; clear hu; rintro e w1 ⟨v, rfl, ho, hb⟩
                  have HB := Lib.hid hb
                  obtain ⟨ra, rc, rfl, -, hR⟩ := ho.reads HUI.out.2
                  have hcn := has_any ra rc U y w1 hR (by have := HUI.out.1; omega)
                  rw [decide_eq_false HI4.out] at hcn
                  clear ho hb hR
                  go_wp2_with fail
                  refine hcn.mono ?_; clear hcn; rintro e wn ⟨rfl, rfl⟩
                  have hO : OwnA (w1.alloc (.cells #[] 35)) w1.heap.size (.slice (some ⟨w1.heap.size, 0, none⟩) 0 0) [] := litA w1
                  have hb1 := below1 w1 (.cells #[] 35)
                  have hSC := (HSC.out.below HB.out).below hb1
                  have hsz1 := hb1.size
                  have hlen := HN.out
                  have HSZ := Lib.hid hb1
                  have HOO := Lib.hid hO
                  have HSS := Lib.hid hSC
                  clear hO hSC hb1
                  go_wp2_with
                    (at_builtin
                     refine wp_catA _ rfl (.tmp 43) (.tmp 44) rfl w1.heap.size _ [] L a c rfl HOO.out rfl HSS.out (by simp; omega) hsz1 ?_
                     intro v2 w2 ho2 hb2
                     rw [List.nil_append] at ho2
                     obtain ⟨g, cg, rfl⟩ : ∃ g cg, v2 = .slice (some ⟨g, 0, none⟩) L.length cg := by
                       rcases ho2.2 with ⟨_, q⟩ | ⟨g, cap, cur, e, _⟩
                       · have := HKL.out; omega
                       · exact ⟨g, cap, e⟩
                     obtain ⟨hck, hfk⟩ := ho2.cell HKL.out
                     have hpt := ho2.put HKL.out p
                     have htn : Turn (fun i => i = g) w2 (w2.setCell ⟨g, k * 4, none⟩ (.int .i64 p)) := turn_set (F := fun i => i = g) (p := ⟨g, k * 4, none⟩) (Turn.refl _ _) (Or.inl (show g = g from rfl)) _
                     have hgb : w1.heap.size ≤ g := (World.ownsRow.lt ho2 g rfl).1
                     have hb3 := HSZ.out.trans hb2
                     have HPT : Hid (OwnA (w2.setCell ⟨g, k * 4, none⟩ (.int .i64 p)) w.heap.size (.slice (some ⟨g, 0, none⟩) L.length cg) (setP L k p) ∧ Below w.heap.size w (w2.setCell ⟨g, k * 4, none⟩ (.int .i64 p))) :=
                       ⟨hpt.lower HB.out.size, HB.out.trans ((hb3.trans (htn.below (fun i e => by omega) hb3.size)).mono HB.out.size)⟩
                     clear ho2 hb2 hpt htn hgb hb3)
                  go_ret2
                  rw [HZ.out.1, HZ.out.2]
                  exact ⟨_, rfl, HPT.out.1, HPT.out.2⟩
          · exact absurd hp.1 h2
      · rw [decide_eq_false hp] at hi2
        have HZ : Hid (mvE L y p = 21 ∧ mvL L y p = []) := by
          have e : mvE L y p = 21 := by unfold mvE; rw [if_pos (Or.inr ⟨hp0, hp⟩)]
          exact ⟨e, if_neg (by rw [e]; omega)⟩
        clear hL hy hp0 hp
        go_enter Try.func25, Try.ntmps25
        go_wp2_with fail
        refine hi1.mono ?_; clear hi1; rintro e wn ⟨rfl, rfl⟩
        go_wp2_with fail
        refine hi2.mono ?_; clear hi2; rintro e wn ⟨rfl, rfl⟩
        go_wp2_with fail
        go_ret2
        rw [HZ.out.1, HZ.out.2]
        exact ⟨_, rfl, OwnA.nil _ _, Below.refl _ _⟩
  · rw [decide_eq_false hy] at hi1
    have HZ : Hid (mvE L y p = 21 ∧ mvL L y p = []) := by
      have e : mvE L y p = 21 := by unfold mvE; rw [if_pos (Or.inl hy)]
      exact ⟨e, if_neg (by rw [e]; omega)⟩
    clear hL hy
    go_enter Try.func25, Try.ntmps25
    go_wp2_with fail
    refine hi1.mono ?_; clear hi1; rintro e wn ⟨rfl, rfl⟩
    go_wp2_with fail
    go_ret2
    rw [HZ.out.1, HZ.out.2]
    exact ⟨_, rfl, OwnA.nil _ _, Below.refl _ _⟩
end Go.Proofs.Yteendpdidkekkaa
