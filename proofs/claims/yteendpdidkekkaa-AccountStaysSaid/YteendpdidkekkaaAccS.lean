/-
  AccountStays of layer 20 returns true, whatever accounts and numbers it is given. No conditions.
-/
import Derived.Test.YteendpdidkekkaaAccN
import Derived.Deep.QuietTactic
import Derived.BigQuiet
import Derived.WalkSmall
import Derived.Deep.DeepCutAuto
import Derived.Deep.RegionHeld3
import Derived.IntWalk
namespace Go.Proofs.Yteendpdidkekkaa
open Go.RowKit
set_option linter.unusedSimpArgs false
set_option linter.unusedVariables false

theorem drew_add (w : World) (a b : Nat) : (w.drewN a).drewN b = w.drewN (a + b) := by simp [World.drewN, Nat.add_assoc, Nat.add_comm, Nat.add_left_comm]
set_option maxHeartbeats 2000000 in
set_option maxRecDepth 100000 in
theorem r20sameq (a b : Option Addr) (c d : Nat) (L M : List AcT) (w : World) (hL : RdA w a L) (hM : RdA w b M) (hn : L.length ≤ 1000000) (hm : M.length ≤ 1000000) :
    Calls Try.prog 26 #[.slice a L.length c, .slice b M.length d] w fun e w' => e = .returned (.bool (decide (L = M))) ∧ ∃ m, w' = w.drewN m := by
  by_cases hl : L.length = M.length
  · have HL := Lib.hid hL; have HM := Lib.hid hM
    clear hL hM
    have e0 : ((L.length : Int) == (M.length : Int)) = true := by rw [beq_iff_eq]; omega
    have HE : Hid (∀ k, k ≤ L.length → (∀ j, j < k → L.getD j zA = M.getD j zA) → (k = L.length → decide (L = M) = true) ∧ (k < L.length → L.getD k zA ≠ M.getD k zA → decide (L = M) = false)) := fun k hk hs => ⟨fun e => decide_eq_true ((same_at hl hk hs).1 e), fun e q => decide_eq_false ((same_at hl hk hs).2 e q)⟩
    generalize decide (L = M) = t at *
    go_enter Try.func26, Try.ntmps26
    go_wp2_with fail
    go_loopw [5] (fun i wr => ∃ k : Nat, k ≤ L.length ∧ i = .int .i64 (k : Int) ∧ (∀ j, j < k → L.getD j zA = M.getD j zA) ∧ ∃ m, wr = w.drewN m) (fun i _ => L.length - (RowKit.intOf i).toNat)
    case atStart => exact ⟨0, Nat.zero_le _, rfl, fun j hj => (by cases hj), 0, rfl⟩
    case round =>
      obtain ⟨k, hk, rfl, hs, md, hmd⟩ := hrel
      have hb : Below w.heap.size w wr := by rw [hmd]; exact below_drewN (Below.refl _ _) _
      have HMD := Lib.hid hmd
      clear hmd
      have HS := Lib.hid hs
      by_cases hlt : k < L.length
      · obtain ⟨x, xo, rfl, c0, c1, c2, c3⟩ := (HL.out.below hb).2 k hlt
        obtain ⟨y, yo, rfl, f0, f1, f2, f3⟩ := (HM.out.below hb).2 k (by omega)
        have i0 : (0 : Int) ≤ (k : Int) := by omega
        have i1 : (k : Int) < (L.length : Int) := by omega
        have i2 : (k : Int) < (M.length : Int) := by omega
        have HY : Hid (L.getD k zA ≠ M.getD k zA → t = false) := (HE.out k hk hs).2 hlt
        have HN : Hid (L.getD k zA = M.getD k zA → ∀ j, j < k + 1 → L.getD j zA = M.getD j zA) := fun q j hj => by
          rcases Nat.lt_or_ge j k with r | r
          · exact HS.out j r
          · rw [show j = k by omega]; exact q
        have heq := eq_acc (L.getD k zA) (M.getD k zA)
        generalize L.getD k zA = p at *
        generalize M.getD k zA = q at *
        clear hs hb
        by_cases hpq : p = q
        · rw [decide_eq_true hpq] at heq
          have HN2 := Lib.hid (HN.out hpq)
          clear HY HN hpq
          go_upto_region 6 with fail
          go_quiet (fail)
          go_wp2_with fail
          go_roundw
          · exact ⟨k + 1, by omega, by go_num, HN2.out, md + nq, by rw [HMD.out]; exact drew_add _ _ _⟩
          · simp [RowKit.intOf]; omega
        · rw [decide_eq_false hpq] at heq
          have HY2 := Lib.hid (HY.out hpq)
          clear HY HN hpq
          go_upto_region 6 with fail
          go_quiet (fail)
          go_wp2_with fail
          go_ret
          exact ⟨by have q := HY2.out; subst q; rfl, md + nq, by rw [HMD.out]; exact drew_add _ _ _⟩
      · obtain rfl : k = L.length := by omega
        have hd0 : decide ((L.length : Int) < (L.length : Int)) = false := decide_eq_false (by omega)
        have HY2 := Lib.hid ((HE.out _ hk hs).1 rfl)
        clear hs hb
        go_wp2_with fail
        go_ret
        exact ⟨by have q := HY2.out; subst q; rfl, md, HMD.out⟩
  · have e0 : ((L.length : Int) == (M.length : Int)) = false := by rw [beq_eq_false_iff_ne]; omega
    have ht : decide (L = M) = false := decide_eq_false (fun q => hl (by rw [q]))
    rw [ht]
    clear hL hM ht hl
    go_enter Try.func26, Try.ntmps26
    go_wp2_with fail
    go_ret
    exact ⟨rfl, 0, rfl⟩
theorem RdA.ofO {w : World} {base n c : Nat} {a : Option Addr} {L : List AcT} (h : OwnA w base (.slice a n c) L) (hL : ∀ s ∈ L, okA s) : RdA w a L ∧ L.length = n ∧ n ≤ c ∧ (a = none → c = 0) := by
  obtain ⟨a', c', e, h1, h2, q⟩ := h.reads hL
  injection e with e1 e2 e3
  subst e1; subst e3
  exact ⟨q, e2.symm, by omega, h2⟩
theorem snoc_ok {L : List AcT} {s : AcT} (h : ∀ t ∈ L, okA t) (hs : okA s) : ∀ t ∈ L ++ [s], okA t := fun t ht => by
  rcases List.mem_append.1 ht with q | q
  · exact h t q
  · rw [List.mem_singleton.1 q]; exact hs
theorem check_is (a : Option Addr) (c m : Nat) (L : List AcT) (w : World) (hL : RdA w a L) (hm : L.length = m) (hc : m ≤ c) (ho : OkL L) :
    Calls Try.prog 9 #[.slice a m c] w fun e w' => e = .returned (.tuple #[.int .i64 (m : Int), .int .i64 0]) ∧ Below w.heap.size w w' := by
  obtain ⟨h1, h2⟩ := ck_of ho
  have := ho.few
  exact check20 a c m L _ _ w hL hm (by omega) hc (by rw [h2, hm]) h1
theorem mv_ent {L : List AcT} {y p : Int} (h : mvE L y p = 0) : Ent (L.length : Int) y := by
  unfold mvE at h
  split at h
  · omega
  · rename_i q; exact Decidable.not_not.1 fun r => q (Or.inl r)
set_option maxHeartbeats 16000000 in
set_option maxRecDepth 100000 in
theorem stays20 (a : Option Addr) (c : Nat) (L : List AcT) (s : AcT) (y p : Int) (w : World) (hr : Go.RowsIn.QuadB w a c L) (hs : okA s) (hp : InR p) :
    Calls Try.prog 6 #[.slice a L.length c, .agg #[.int .i64 s.1, .int .i64 s.2.1, .bool s.2.2.1, .bool s.2.2.2], .agg #[.int .i64 y, .int .i64 p]] w fun e w' => e = .returned (.bool true) ∧ Below w.heap.size w w' := by
  have HL := Lib.hid (rdA_in hr)
  have HSO := Lib.hid hs
  have HPI := Lib.hid hp
  have hsz1 : (w.alloc (.cells #[.int .i64 s.1, .int .i64 s.2.1, .bool s.2.2.1, .bool s.2.2.2] 35)).heap.size = w.heap.size + 1 := by simp
  have hsz2 : ((w.alloc (.cells #[.int .i64 s.1, .int .i64 s.2.1, .bool s.2.2.1, .bool s.2.2.2] 35)).alloc (.cells #[.int .i64 y, .int .i64 p] 36)).heap.size = w.heap.size + 2 := by simp
  have hx0 := (Ow4.new w (.int .i64 s.1) (.int .i64 s.2.1) (.bool s.2.2.1) (.bool s.2.2.2) 35).below (below1 (w.alloc (.cells #[.int .i64 s.1, .int .i64 s.2.1, .bool s.2.2.1, .bool s.2.2.2] 35)) (.cells #[.int .i64 y, .int .i64 p] 36))
  have hp0 := Ow2.new (w.alloc (.cells #[.int .i64 s.1, .int .i64 s.2.1, .bool s.2.2.1, .bool s.2.2.2] 35)) (.int .i64 y) (.int .i64 p) 36
  rw [hsz1] at hp0
  obtain ⟨W0, hW0⟩ : ∃ W0, W0 = (w.alloc (.cells #[.int .i64 s.1, .int .i64 s.2.1, .bool s.2.2.1, .bool s.2.2.2] 35)).alloc (.cells #[.int .i64 y, .int .i64 p] 36) := ⟨_, rfl⟩
  have HK0 : Hid (Below w.heap.size w W0) := by show Below _ _ _; rw [hW0]; exact below2 w (.cells #[.int .i64 s.1, .int .i64 s.2.1, .bool s.2.2.1, .bool s.2.2.2] 35) (.cells #[.int .i64 y, .int .i64 p] 36)
  rw [← hW0] at hx0 hp0 hsz2
  have HX := Lib.hid hx0
  have HP := Lib.hid hp0
  have HSZ := Lib.hid hsz2
  have HW0 : Hid ((w.alloc (.cells #[.int .i64 s.1, .int .i64 s.2.1, .bool s.2.2.1, .bool s.2.2.2] 35)).alloc (.cells #[.int .i64 y, .int .i64 p] 36) = W0) := hW0.symm
  clear hr hs hp hsz1 hsz2 hx0 hp0 hW0
  by_cases g1 : 70 < L.length
  · have d1 : decide ((70 : Int) < (L.length : Int)) = true := decide_eq_true (by omega)
    have d2 : decide (70 < L.length) = true := decide_eq_true g1
    clear g1
    go_enter Try.func6, Try.ntmps6
    go_wp2_with fail
    rw [HW0.out]
    refine (awake20 _).mono ?_; rintro e w99 ⟨rfl, hb99⟩
    go_wp2_with fail
    go_ret
    exact ⟨rfl, HK0.out.trans (hb99.mono HK0.out.size)⟩
  · have d1 : decide ((70 : Int) < (L.length : Int)) = false := decide_eq_false (by omega)
    have d2 : decide (70 < L.length) = false := decide_eq_false g1
    have HN : Hid (L.length ≤ 1000) := by show _ ≤ _; omega
    have HN70 : Hid (L.length ≤ 70) := by show _ ≤ _; omega
    have hck := check_a a c L W0 (HL.out.1.below HK0.out) HL.out.2.1 HN.out
    clear g1
    by_cases he : ckE L = 0
    · have HOK := Lib.hid (ck_ok he).1
      rw [he] at hck
      generalize ckV L = v at *
      clear he
      go_enter Try.func6, Try.ntmps6
      go_wp2_with fail
      rw [HW0.out]
      refine hck.mono ?_; clear hck; rintro e w1 ⟨rfl, hb1⟩
      have HB1 : Hid (Below w.heap.size w w1) := HK0.out.trans (hb1.mono HK0.out.size)
      have HKX1 := Lib.hid hb1
      clear hb1
      obtain ⟨g0, g1, g2, g3, -⟩ := HX.out.below HKX1.out
      have had := add_a a c L s _ (HL.out.1.below HB1.out) HN.out HL.out.2.1 HL.out.2.2 HSO.out
      by_cases ha0 : adE L s = 0
      · have hal : adL L s = L ++ [s] := if_pos ha0
        rw [ha0, hal] at had
        have HOS := Lib.hid (stay_add HOK.out ha0)
        have HMO := Lib.hid (snoc_ok HL.out.1.1 HSO.out)
        obtain ⟨q, hq⟩ : ∃ q, q = L.length + 1 := ⟨_, rfl⟩
        have hlq : (L ++ [s]).length = q := by rw [hq]; simp
        have HQQ := Lib.hid (And.intro hq hlq)
        clear ha0 hal hq hlq
        go_wp2_with fail
        refine had.mono ?_; clear had; rintro e w2 ⟨va, rfl, hoa, hb2⟩
        obtain ⟨aa, ca, hva⟩ := (ownsRow_slc hoa).form
        rw [HQQ.out.2] at hva
        subst hva
        have HRA := Lib.hid (RdA.ofO hoa HMO.out)
        have HB2 : Hid (Below w.heap.size w w2) := HB1.out.trans (hb2.mono HB1.out.size)
        have HKX2 : Hid (Below W0.heap.size W0 w2) := HKX1.out.trans (hb2.mono HKX1.out.size)
        have hck := check_is aa ca q _ w2 HRA.out.1 HQQ.out.2 HRA.out.2.2.1 HOS.out
        clear hoa hb2 g0 g1 g2 g3
        go_wp2_with fail
        refine hck.mono ?_; clear hck; rintro e w3 ⟨rfl, hb3⟩
        have HB3 : Hid (Below w.heap.size w w3) := HB2.out.trans (hb3.mono HB2.out.size)
        have HKX3 : Hid (Below W0.heap.size W0 w3) := HKX2.out.trans (hb3.mono HKX2.out.size)
        have HR3 := Lib.hid (HRA.out.1.below hb3)
        have HSAME : Hid (∀ m, Calls Try.prog 26 #[.slice aa L.length ca, .slice a L.length c] (w3.drewN m) fun e w' => e = .returned (.bool true) ∧ ∃ j, w' = (w3.drewN m).drewN j) := fun m => by
          have hb : Below w3.heap.size w3 (w3.drewN m) := below_drewN (Below.refl _ _) m
          have h := r20sameq aa a ca c ((L ++ [s]).take L.length) L (w3.drewN m) ((HR3.out.take L.length).below hb) (HL.out.1.below (HB3.out.trans (hb.mono HB3.out.size))) (by rw [List.length_take]; have := HN.out; omega) (by have := HN.out; omega)
          have e1 : (L ++ [s]).take L.length = L := by simp
          rw [e1] at h
          rwa [decide_eq_true rfl] at h
        obtain ⟨b2, o2, ea2, m0, m1, m2, m3⟩ := HR3.out.2 L.length (by rw [HQQ.out.2, HQQ.out.1]; omega)
        have hsl : (L ++ [s]).getD L.length zA = s := by simp [List.getD]
        rw [hsl] at m0 m1 m2 m3
        subst ea2
        obtain ⟨g0, g1, g2, g3, -⟩ := HX.out.below HKX3.out
        have heq : ∀ w, (Op.equalIn 10000 35 (.agg #[.int .i64 s.1, .int .i64 s.2.1, .bool s.2.2.1, .bool s.2.2.2]) (.agg #[.int .i64 s.1, .int .i64 s.2.1, .bool s.2.2.1, .bool s.2.2.2])).run Try.prog w = .ok true w := fun w => (eq_acc s s w).trans (by rw [decide_eq_true rfl])
        have hqc : q ≤ ca := HRA.out.2.2.1
        have hlc : L.length ≤ ca := by have := HQQ.out.1; omega
        have hlc2 : (L.length : Int) ≤ (ca : Int) := by omega
        have l0 : (0 : Int) ≤ (L.length : Int) := by omega
        have l1 : (L.length : Int) < (q : Int) := by have := HQQ.out.1; omega
        have hqq : IntKind.i64.wrap ((L.length : Int) + 1) = (q : Int) := by have := HN.out; have := HQQ.out.1; rw [IntWalk.i64_in _ (by omega)]; omega
        clear hb3 hsl hqc
        go_upto_region 9 with fail
        go_quiet ((go_at_call 26; exact Calls.quiet_of (HSAME.out _)))
        have HB4 : Hid (Below w.heap.size w (w3.drewN nq)) := below_drewN HB3.out _
        have HKX4 : Hid (Below W0.heap.size W0 (w3.drewN nq)) := below_drewN HKX3.out _
        clear g0 g1 g2 g3 m0 m1 m2 m3 heq hlc hlc2 l0 l1 hqq
        generalize w3.drewN nq = w4 at *
        obtain ⟨⟨p0, p1, -⟩, -⟩ := HP.out.below HKX4.out
        have hmv := move_a a c L y p _ (HL.out.1.below HB4.out) HN.out HL.out.2.1
        by_cases hm0 : mvE L y p = 0
        · have hml : mvL L y p = setP L (y - 1).toNat p := if_pos hm0
          rw [hm0, hml] at hmv
          have HEN := Lib.hid (mv_ent hm0)
          have HOS := Lib.hid (stay_move HOK.out hm0)
          have HMO : Hid (∀ t ∈ setP L (y - 1).toNat p, okA t) := by show ∀ t ∈ _, _; rw [← hml]; exact mvL_ok HL.out.1.1 HPI.out
          clear hm0 hml
          go_wp2_with fail
          refine hmv.mono ?_; clear hmv; rintro e wa ⟨vm, rfl, hom, hba⟩
          obtain ⟨am, cm, hvm⟩ := (ownsRow_slc hom).form
          rw [setP_len] at hvm
          subst hvm
          have HRM := Lib.hid (RdA.ofO hom HMO.out)
          have HBa : Hid (Below w.heap.size w wa) := HB4.out.trans (hba.mono HB4.out.size)
          have hck := check_is am cm L.length _ wa HRM.out.1 (setP_len _ _ _) HRM.out.2.2.1 HOS.out
          have HKa : Hid (Below W0.heap.size W0 wa) := HKX4.out.trans (hba.mono HKX4.out.size)
          clear hom hba p0 p1
          go_wp2_with fail
          refine hck.mono ?_; clear hck; rintro e wb ⟨rfl, hbb⟩
          have HBb : Hid (Below w.heap.size w wb) := HBa.out.trans (hbb.mono HBa.out.size)
          have HKb : Hid (Below W0.heap.size W0 wb) := HKa.out.trans (hbb.mono HKa.out.size)
          have HRb := Lib.hid (HRM.out.1.below hbb)
          clear hbb
          go_wp2_with fail
          go_loopw [17] (fun i wr => ∃ k : Nat, k ≤ L.length ∧ i = .int .i64 (k : Int) ∧ Below wb.heap.size wb wr) (fun i _ => L.length - (RowKit.intOf i).toNat)
          case atStart => exact ⟨0, Nat.zero_le _, rfl, Below.refl _ _⟩
          case round =>
            obtain ⟨k, hk, rfl, hbr⟩ := hrel
            have HBr : Hid (Below w.heap.size w wr) := HBb.out.trans (hbr.mono HBb.out.size)
            have HKr : Hid (Below W0.heap.size W0 wr) := HKb.out.trans (hbr.mono HKb.out.size)
            by_cases hlt : k < L.length
            · obtain ⟨b1, o1, ea, c0, c1, c2, c3⟩ := (HL.out.1.below HBr.out).2 k hlt
              subst ea
              have i0 : (0 : Int) ≤ (k : Int) := by omega
              have i1 : (k : Int) < (L.length : Int) := by omega
              have hk70 : k < 70 := by have := HN70.out; omega
              have e1 : wrap64 ((k : Int) + 1) = (k : Int) + 1 := by unfold wrap64; omega
              have HQ : Hid (k + 1 ≤ L.length ∧ L.length - (RowKit.intOf (.int .i64 ((k : Int) + 1))).toNat < L.length - (RowKit.intOf (.int .i64 (k : Int))).toNat) := ⟨hlt, by simp [RowKit.intOf]; omega⟩
              have HRr := Lib.hid (HRb.out.below hbr)
              have HMI : Hid ((setP L (y - 1).toNat p).getD k zA = if (k : Int) + 1 = y then (p, (L.getD k zA).2) else L.getD k zA) := by
                show _ = _
                have hy := HEN.out
                rw [setP_at (by unfold Ent at hy; omega)]
                by_cases e : (k : Int) + 1 = y
                · rw [if_pos e, if_pos (by omega), show (y - 1).toNat = k by omega]
                · rw [if_neg e, if_neg (by unfold Ent at hy; omega)]
              have HBN : Hid (∀ X, Below wr.heap.size wr X → Below wb.heap.size wb X) := fun X q => hbr.trans (q.mono hbr.size)
              have HMC : Hid (∀ X, Below wr.heap.size wr X → ∃ b2 o2, am = some ⟨b2, o2, none⟩ ∧ X.cell? ⟨b2, o2 + k * 4, none⟩ = some (.int .i64 ((setP L (y - 1).toNat p).getD k zA).1) ∧ X.cell? ⟨b2, o2 + k * 4 + 1, none⟩ = some (.int .i64 ((setP L (y - 1).toNat p).getD k zA).2.1) ∧ X.cell? ⟨b2, o2 + k * 4 + 2, none⟩ = some (.bool ((setP L (y - 1).toNat p).getD k zA).2.2.1) ∧ X.cell? ⟨b2, o2 + k * 4 + 3, none⟩ = some (.bool ((setP L (y - 1).toNat p).getD k zA).2.2.2)) := fun X q =>
                (HRr.out.below q).2 k (by rw [setP_len]; exact hlt)
              generalize L.getD k zA = z at *
              clear hk hlt hbr
              by_cases hy : (k : Int) + 1 = y
              · have t1 : ((k : Int) + 1 == y) = true := by simpa using hy
                rw [HMI.out, if_pos hy] at HMC
                have hnb := below1 wr (.cells #[.int .i64 z.1, .int .i64 z.2.1, .bool z.2.2.1, .bool z.2.2.2] 35)
                obtain ⟨⟨q0, q1, -⟩, -⟩ := HP.out.below (HKr.out.trans (hnb.mono HKr.out.size))
                have hne : w.heap.size + 1 < wr.heap.size := by have := HSZ.out; have := HKr.out.size; omega
                have hnb2 := below1 wr (.cells #[.int .i64 p, .int .i64 z.2.1, .bool z.2.2.1, .bool z.2.2.2] 35)
                obtain ⟨b2, o2, em, m0, m1, m2, m3⟩ := HMC.out _ hnb2
                subst em
                have heq : ∀ w, (Op.equalIn 10000 35 (.agg #[.int .i64 p, .int .i64 z.2.1, .bool z.2.2.1, .bool z.2.2.2]) (.agg #[.int .i64 p, .int .i64 z.2.1, .bool z.2.2.1, .bool z.2.2.2])).run Try.prog w = .ok true w := fun w => (eq_acc (p, z.2) (p, z.2) w).trans (by rw [decide_eq_true rfl])
                have HF := Lib.hid (HBN.out _ hnb2)
                clear hy hnb hnb2 HMI HMC
                go_upto_region 22 with fail
                go_quiet (fail)
                go_wp2_with fail
                go_roundw
                · exact ⟨k + 1, HQ.out.1, by go_num, below_drewN HF.out _⟩
                · first | exact HQ.out.2 | (rw [e1]; exact HQ.out.2)
              · have t1 : ((k : Int) + 1 == y) = false := by simpa using hy
                rw [HMI.out, if_neg hy] at HMC
                have hnb := below1 wr (.cells #[.int .i64 z.1, .int .i64 z.2.1, .bool z.2.2.1, .bool z.2.2.2] 35)
                obtain ⟨⟨q0, q1, -⟩, -⟩ := HP.out.below (HKr.out.trans (hnb.mono HKr.out.size))
                obtain ⟨b2, o2, em, m0, m1, m2, m3⟩ := HMC.out _ hnb
                subst em
                have heq : ∀ w, (Op.equalIn 10000 35 (.agg #[.int .i64 z.1, .int .i64 z.2.1, .bool z.2.2.1, .bool z.2.2.2]) (.agg #[.int .i64 z.1, .int .i64 z.2.1, .bool z.2.2.1, .bool z.2.2.2])).run Try.prog w = .ok true w := fun w => (eq_acc z z w).trans (by rw [decide_eq_true rfl])
                have HF := Lib.hid (HBN.out _ hnb)
                clear hy hnb HMI HMC
                go_upto_region 22 with fail
                go_quiet (fail)
                go_wp2_with fail
                go_roundw
                · exact ⟨k + 1, HQ.out.1, by go_num, below_drewN HF.out _⟩
                · first | exact HQ.out.2 | (rw [e1]; exact HQ.out.2)
            · obtain rfl : k = L.length := by omega
              have hd0 : decide ((L.length : Int) < (L.length : Int)) = false := decide_eq_false (by omega)
              clear hk hlt hbr
              go_wp2_with fail
              refine (awake20 _).mono ?_; rintro e w99 ⟨rfl, hb99⟩
              go_wp2_with fail
              go_ret
              exact ⟨rfl, HBr.out.trans (hb99.mono HBr.out.size)⟩
        · have HIN := mvE_in L y p
          generalize mvE L y p = x at *
          have t0 : (x == 0) = false := by simpa using hm0
          clear hm0
          go_wp2_with fail
          refine hmv.mono ?_; clear hmv; rintro e wa ⟨vm, rfl, hom, hba⟩
          obtain ⟨am, cm, hvm⟩ := (ownsRow_slc hom).form
          subst hvm
          have HBa : Hid (Below w.heap.size w wa) := HB4.out.trans (hba.mono HB4.out.size)
          clear hom hba p0 p1
          go_wp2_with fail
          refine (awake20 _).mono ?_; rintro e w99 ⟨rfl, hb99⟩
          go_wp2_with fail
          go_ret
          exact ⟨rfl, HBa.out.trans (hb99.mono HBa.out.size)⟩
      · generalize adE L s = x at *
        have t0 : (x == 0) = false := by simpa using ha0
        clear ha0
        go_wp2_with fail
        refine had.mono ?_; clear had; rintro e w4 ⟨va, rfl, hoa, hb4⟩
        obtain ⟨aa, ca, hva⟩ := (ownsRow_slc hoa).form
        subst hva
        have HB4 : Hid (Below w.heap.size w w4) := HB1.out.trans (hb4.mono HB1.out.size)
        have HKX4 : Hid (Below W0.heap.size W0 w4) := HKX1.out.trans (hb4.mono HKX1.out.size)
        clear hoa hb4 g0 g1 g2 g3
        obtain ⟨⟨p0, p1, -⟩, -⟩ := HP.out.below HKX4.out
        have hmv := move_a a c L y p _ (HL.out.1.below HB4.out) HN.out HL.out.2.1
        by_cases hm0 : mvE L y p = 0
        · have hml : mvL L y p = setP L (y - 1).toNat p := if_pos hm0
          rw [hm0, hml] at hmv
          have HEN := Lib.hid (mv_ent hm0)
          have HOS := Lib.hid (stay_move HOK.out hm0)
          have HMO : Hid (∀ t ∈ setP L (y - 1).toNat p, okA t) := by show ∀ t ∈ _, _; rw [← hml]; exact mvL_ok HL.out.1.1 HPI.out
          clear hm0 hml
          go_wp2_with fail
          refine hmv.mono ?_; clear hmv; rintro e wa ⟨vm, rfl, hom, hba⟩
          obtain ⟨am, cm, hvm⟩ := (ownsRow_slc hom).form
          rw [setP_len] at hvm
          subst hvm
          have HRM := Lib.hid (RdA.ofO hom HMO.out)
          have HBa : Hid (Below w.heap.size w wa) := HB4.out.trans (hba.mono HB4.out.size)
          have hck := check_is am cm L.length _ wa HRM.out.1 (setP_len _ _ _) HRM.out.2.2.1 HOS.out
          have HKa : Hid (Below W0.heap.size W0 wa) := HKX4.out.trans (hba.mono HKX4.out.size)
          clear hom hba p0 p1
          go_wp2_with fail
          refine hck.mono ?_; clear hck; rintro e wb ⟨rfl, hbb⟩
          have HBb : Hid (Below w.heap.size w wb) := HBa.out.trans (hbb.mono HBa.out.size)
          have HKb : Hid (Below W0.heap.size W0 wb) := HKa.out.trans (hbb.mono HKa.out.size)
          have HRb := Lib.hid (HRM.out.1.below hbb)
          clear hbb
          go_wp2_with fail
          go_loopw [17] (fun i wr => ∃ k : Nat, k ≤ L.length ∧ i = .int .i64 (k : Int) ∧ Below wb.heap.size wb wr) (fun i _ => L.length - (RowKit.intOf i).toNat)
          case atStart => exact ⟨0, Nat.zero_le _, rfl, Below.refl _ _⟩
          case round =>
            obtain ⟨k, hk, rfl, hbr⟩ := hrel
            have HBr : Hid (Below w.heap.size w wr) := HBb.out.trans (hbr.mono HBb.out.size)
            have HKr : Hid (Below W0.heap.size W0 wr) := HKb.out.trans (hbr.mono HKb.out.size)
            by_cases hlt : k < L.length
            · obtain ⟨b1, o1, ea, c0, c1, c2, c3⟩ := (HL.out.1.below HBr.out).2 k hlt
              subst ea
              have i0 : (0 : Int) ≤ (k : Int) := by omega
              have i1 : (k : Int) < (L.length : Int) := by omega
              have hk70 : k < 70 := by have := HN70.out; omega
              have e1 : wrap64 ((k : Int) + 1) = (k : Int) + 1 := by unfold wrap64; omega
              have HQ : Hid (k + 1 ≤ L.length ∧ L.length - (RowKit.intOf (.int .i64 ((k : Int) + 1))).toNat < L.length - (RowKit.intOf (.int .i64 (k : Int))).toNat) := ⟨hlt, by simp [RowKit.intOf]; omega⟩
              have HRr := Lib.hid (HRb.out.below hbr)
              have HMI : Hid ((setP L (y - 1).toNat p).getD k zA = if (k : Int) + 1 = y then (p, (L.getD k zA).2) else L.getD k zA) := by
                show _ = _
                have hy := HEN.out
                rw [setP_at (by unfold Ent at hy; omega)]
                by_cases e : (k : Int) + 1 = y
                · rw [if_pos e, if_pos (by omega), show (y - 1).toNat = k by omega]
                · rw [if_neg e, if_neg (by unfold Ent at hy; omega)]
              have HBN : Hid (∀ X, Below wr.heap.size wr X → Below wb.heap.size wb X) := fun X q => hbr.trans (q.mono hbr.size)
              have HMC : Hid (∀ X, Below wr.heap.size wr X → ∃ b2 o2, am = some ⟨b2, o2, none⟩ ∧ X.cell? ⟨b2, o2 + k * 4, none⟩ = some (.int .i64 ((setP L (y - 1).toNat p).getD k zA).1) ∧ X.cell? ⟨b2, o2 + k * 4 + 1, none⟩ = some (.int .i64 ((setP L (y - 1).toNat p).getD k zA).2.1) ∧ X.cell? ⟨b2, o2 + k * 4 + 2, none⟩ = some (.bool ((setP L (y - 1).toNat p).getD k zA).2.2.1) ∧ X.cell? ⟨b2, o2 + k * 4 + 3, none⟩ = some (.bool ((setP L (y - 1).toNat p).getD k zA).2.2.2)) := fun X q =>
                (HRr.out.below q).2 k (by rw [setP_len]; exact hlt)
              generalize L.getD k zA = z at *
              clear hk hlt hbr
              by_cases hy : (k : Int) + 1 = y
              · have t1 : ((k : Int) + 1 == y) = true := by simpa using hy
                rw [HMI.out, if_pos hy] at HMC
                have hnb := below1 wr (.cells #[.int .i64 z.1, .int .i64 z.2.1, .bool z.2.2.1, .bool z.2.2.2] 35)
                obtain ⟨⟨q0, q1, -⟩, -⟩ := HP.out.below (HKr.out.trans (hnb.mono HKr.out.size))
                have hne : w.heap.size + 1 < wr.heap.size := by have := HSZ.out; have := HKr.out.size; omega
                have hnb2 := below1 wr (.cells #[.int .i64 p, .int .i64 z.2.1, .bool z.2.2.1, .bool z.2.2.2] 35)
                obtain ⟨b2, o2, em, m0, m1, m2, m3⟩ := HMC.out _ hnb2
                subst em
                have heq : ∀ w, (Op.equalIn 10000 35 (.agg #[.int .i64 p, .int .i64 z.2.1, .bool z.2.2.1, .bool z.2.2.2]) (.agg #[.int .i64 p, .int .i64 z.2.1, .bool z.2.2.1, .bool z.2.2.2])).run Try.prog w = .ok true w := fun w => (eq_acc (p, z.2) (p, z.2) w).trans (by rw [decide_eq_true rfl])
                have HF := Lib.hid (HBN.out _ hnb2)
                clear hy hnb hnb2 HMI HMC
                go_upto_region 22 with fail
                go_quiet (fail)
                go_wp2_with fail
                go_roundw
                · exact ⟨k + 1, HQ.out.1, by go_num, below_drewN HF.out _⟩
                · first | exact HQ.out.2 | (rw [e1]; exact HQ.out.2)
              · have t1 : ((k : Int) + 1 == y) = false := by simpa using hy
                rw [HMI.out, if_neg hy] at HMC
                have hnb := below1 wr (.cells #[.int .i64 z.1, .int .i64 z.2.1, .bool z.2.2.1, .bool z.2.2.2] 35)
                obtain ⟨⟨q0, q1, -⟩, -⟩ := HP.out.below (HKr.out.trans (hnb.mono HKr.out.size))
                obtain ⟨b2, o2, em, m0, m1, m2, m3⟩ := HMC.out _ hnb
                subst em
                have heq : ∀ w, (Op.equalIn 10000 35 (.agg #[.int .i64 z.1, .int .i64 z.2.1, .bool z.2.2.1, .bool z.2.2.2]) (.agg #[.int .i64 z.1, .int .i64 z.2.1, .bool z.2.2.1, .bool z.2.2.2])).run Try.prog w = .ok true w := fun w => (eq_acc z z w).trans (by rw [decide_eq_true rfl])
                have HF := Lib.hid (HBN.out _ hnb)
                clear hy hnb HMI HMC
                go_upto_region 22 with fail
                go_quiet (fail)
                go_wp2_with fail
                go_roundw
                · exact ⟨k + 1, HQ.out.1, by go_num, below_drewN HF.out _⟩
                · first | exact HQ.out.2 | (rw [e1]; exact HQ.out.2)
            · obtain rfl : k = L.length := by omega
              have hd0 : decide ((L.length : Int) < (L.length : Int)) = false := decide_eq_false (by omega)
              clear hk hlt hbr
              go_wp2_with fail
              refine (awake20 _).mono ?_; rintro e w99 ⟨rfl, hb99⟩
              go_wp2_with fail
              go_ret
              exact ⟨rfl, HBr.out.trans (hb99.mono HBr.out.size)⟩
        · have HIN := mvE_in L y p
          generalize mvE L y p = x at *
          have t0 : (x == 0) = false := by simpa using hm0
          clear hm0
          go_wp2_with fail
          refine hmv.mono ?_; clear hmv; rintro e wa ⟨vm, rfl, hom, hba⟩
          obtain ⟨am, cm, hvm⟩ := (ownsRow_slc hom).form
          subst hvm
          have HBa : Hid (Below w.heap.size w wa) := HB4.out.trans (hba.mono HB4.out.size)
          clear hom hba p0 p1
          go_wp2_with fail
          refine (awake20 _).mono ?_; rintro e w99 ⟨rfl, hb99⟩
          go_wp2_with fail
          go_ret
          exact ⟨rfl, HBa.out.trans (hb99.mono HBa.out.size)⟩
    · generalize ckE L = x at *
      generalize ckV L = v at *
      have t0 : (x != 0) = true := by simpa using he
      clear he
      go_enter Try.func6, Try.ntmps6
      go_wp2_with fail
      rw [HW0.out]
      refine hck.mono ?_; clear hck; rintro e w1 ⟨rfl, hb1⟩
      have HB1 : Hid (Below w.heap.size w w1) := HK0.out.trans (hb1.mono HK0.out.size)
      clear hb1
      go_wp2_with fail
      refine (awake20 _).mono ?_; rintro e w99 ⟨rfl, hb99⟩
      go_wp2_with fail
      go_ret
      exact ⟨rfl, HB1.out.trans (hb99.mono HB1.out.size)⟩
end Go.Proofs.Yteendpdidkekkaa
