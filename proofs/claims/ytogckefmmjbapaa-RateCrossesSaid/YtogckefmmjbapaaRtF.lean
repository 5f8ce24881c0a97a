/-
  The landed alike, over whatever part of a key, and Known's and Cross's use of it. The condition: at most 100000 rates.
-/
import Derived.Test.YtogckefmmjbapaaRtE
namespace Go.Proofs.Ytogckefmmjbapaa
open Go.RowKit
set_option linter.unusedSimpArgs false
set_option linter.unusedVariables false

theorem filter_yes {L : List RtT} {j : Nat} (h : j < L.length) {q : RtT → Bool} (hq : q (L.getD j zR) = true) : (L.take (j + 1)).filter q = (L.take j).filter q ++ [L.getD j zR] := by
  rw [takeR h, List.filter_append, List.filter_cons, hq]; simp
theorem filter_no {L : List RtT} {j : Nat} (h : j < L.length) {q : RtT → Bool} (hq : q (L.getD j zR) = false) : (L.take (j + 1)).filter q = (L.take j).filter q := by
  rw [takeR h, List.filter_append, List.filter_cons, hq]; simp
set_option maxHeartbeats 4000000 in
set_option maxRecDepth 100000 in
theorem alike_r (F : FuncId) (he : ∀ args w, (callFunc F args).run Try.prog w = .ok (.enter F args) w) (p : RtT → RtT) (hp : ∀ r w, Calls Try.prog F #[encR r] w fun e w' => e = .returned (encR (p r)) ∧ Below w.heap.size w w')
    (a : Option Addr) (c : Nat) (L : List RtT) (k : RtT) (w : World) (hL : RdR w a L) (hn : L.length ≤ 100000) :
    Calls Try.prog 25 #[.slice a L.length c, encR k, .func (.func F) #[] #[]] w fun e w' => ∃ v, e = .returned v ∧ OwnR w' w.heap.size v (L.filter fun r => decide (p r = p k)) ∧ Below w.heap.size w w' := by
  have HP := Lib.hid hp
  obtain ⟨w0, hw0⟩ : ∃ w0, w0 = w.alloc (objR k) := ⟨_, rfl⟩
  have HO0 : Hid (Ow6 w0 w.heap.size k) := by rw [hw0]; exact Ow6.new w k
  have HB0 : Hid (Below w.heap.size w w0) := by rw [hw0]; exact below1 _ _
  have HL := Lib.hid (hL.below HB0.out)
  have HN := Lib.hid hn
  clear hL hp
  have HW := Lib.hid hw0.symm
  clear hw0
  go_enter Try.func25, Try.ntmps25
  go_upto_region 1 with fail
  rw [HW.out]
  clear HW
  obtain ⟨bk, hbk⟩ : ∃ bk, w.heap.size = bk := ⟨_, rfl⟩
  have HBK := Lib.hid hbk
  rw [hbk] at HO0 ⊢
  clear hbk
  go_wp2_with fail
  go_loopw [7, 12] (fun u i wr => ∃ j : Nat, j ≤ L.length ∧ i = .int .i64 (j : Int) ∧ OwnR wr w0.heap.size u ((L.take j).filter fun r => decide (p r = p k)) ∧ Below w0.heap.size w0 wr) (fun _ i _ => L.length - (RowKit.intOf i).toNat)
  case atStart => exact ⟨0, Nat.zero_le _, rfl, OwnR.nil _ _, Below.refl _ _⟩
  case round =>
    obtain ⟨j, hj, rfl, ho, hb⟩ := hrel
    by_cases hlt : j < L.length
    · obtain ⟨b, off, rfl, e0, e1, e2, e3, e4, e5⟩ := (HL.out.below hb).2 j hlt
      have i0 : (0 : Int) ≤ (j : Int) := by omega
      have i1 : (j : Int) < (L.length : Int) := by omega
      have g1 := wrapR hlt (show L.length ≤ 1000000 by omega)
      have HM := Lib.hid (And.intro (show j + 1 ≤ L.length from hlt) (measR hlt))
      have HY := Lib.hid (fun (q : decide (p (L.getD j zR) = p k) = true) => filter_yes hlt (q := fun r => decide (p r = p k)) q)
      have HNO := Lib.hid (fun (q : decide (p (L.getD j zR) = p k) = false) => filter_no hlt (q := fun r => decide (p r = p k)) q)
      have HLEN : Hid (((L.take j).filter fun r => decide (p r = p k)).length ≤ 100000) := Nat.le_trans (List.length_filter_le _ _) (by rw [List.length_take]; omega)
      have HC1 := Lib.hid (fun wz => HP.out (L.getD j zR) wz)
      have HC2 := Lib.hid (fun wz => HP.out k wz)
      have hq := eq_rate (p (L.getD j zR)) (p k)
      generalize (L.take j).filter (fun r => decide (p r = p k)) = M at *
      obtain ⟨M', hM'⟩ : ∃ M', (L.take (j + 1)).filter (fun r => decide (p r = p k)) = M' := ⟨_, rfl⟩
      have HFM := Lib.hid hM'
      rw [hM'] at HY HNO
      clear hM'
      have HFM : Hid ((L.take (j + 1)).filter (fun r => decide (p r = p k)) = M') := HFM
      obtain ⟨ps, hps⟩ : ∃ ps, p (L.getD j zR) = ps := ⟨_, rfl⟩
      obtain ⟨pk, hpk⟩ : ∃ pk, p k = pk := ⟨_, rfl⟩
      simp only [hps, hpk] at HY HNO HC1 HC2 hq
      clear hps hpk
      generalize L.getD j zR = s at *
      obtain ⟨t, ht⟩ : ∃ t, decide (ps = pk) = t := ⟨_, rfl⟩
      rw [ht] at HY HNO hq
      obtain ⟨W, hW⟩ : ∃ W, W = wr.alloc (objR s) := ⟨_, rfl⟩
      have HWO : Hid (Ow6 W wr.heap.size s) := by rw [hW]; exact Ow6.new wr s
      have hbW : Below wr.heap.size wr W := by rw [hW]; exact below1 _ _
      have HBW := Lib.hid (hb.trans (hbW.mono hb.size))
      have HKO := Lib.hid (HO0.out.below HBW.out)
      have HOW := Lib.hid (ho.below hbW)
      have HW2 : Hid (wr.alloc (objR s) = W) := hW.symm
      clear hW ht ho hb hj hlt hbW HP
      go_upto_region 5 with fail
      rw [HW2.out]
      clear HW2
      obtain ⟨bs, hbs⟩ : ∃ bs, wr.heap.size = bs := ⟨_, rfl⟩
      rw [hbs] at HWO ⊢
      clear hbs
      clear e0 e1 e2 e3 e4 e5
      obtain ⟨c0, c1, c2, c3, c4, c5⟩ := HKO.out.cells
      obtain ⟨x0, x1, x2, x3, x4, x5⟩ := HWO.out.cells
      have K := Lib.hid (Below.refl W.heap.size W)
      obtain ⟨ua, uc, hu⟩ := (ownsRow_slc HOW.out).form
      subst hu
      cases t with
      | true =>
        have HY2 : Hid (M' = M ++ [s]) := HY.out rfl
        clear HY HNO
        go_region_held3 (fun wz => (wz.cell? ⟨bk, 0, none⟩ = some (.int .i64 k.1) ∧ wz.cell? ⟨bk, 1, none⟩ = some (.int .i64 k.2.1) ∧ wz.cell? ⟨bk, 2, none⟩ = some (.int .i64 k.2.2.1) ∧ wz.cell? ⟨bk, 3, none⟩ = some (.int .i64 k.2.2.2.1) ∧ wz.cell? ⟨bk, 4, none⟩ = some (.int .i64 k.2.2.2.2.1) ∧ wz.cell? ⟨bk, 5, none⟩ = some (.int .i64 k.2.2.2.2.2)) ∧
            (wz.cell? ⟨bs, 0, none⟩ = some (.int .i64 s.1) ∧ wz.cell? ⟨bs, 1, none⟩ = some (.int .i64 s.2.1) ∧ wz.cell? ⟨bs, 2, none⟩ = some (.int .i64 s.2.2.1) ∧ wz.cell? ⟨bs, 3, none⟩ = some (.int .i64 s.2.2.2.1) ∧ wz.cell? ⟨bs, 4, none⟩ = some (.int .i64 s.2.2.2.2.1) ∧ wz.cell? ⟨bs, 5, none⟩ = some (.int .i64 s.2.2.2.2.2)))
          (first | exact ⟨(HKO.out.below K.out).cells, (HWO.out.below K.out).cells⟩ | exact ⟨(HKO.out.below K.out.drew).cells, (HWO.out.below K.out.drew).cells⟩)
          (first
            | ((with_reducible first | refine (HC1.out _).mono ?_ | refine (HC2.out _).mono ?_); rintro e wn ⟨rfl, hbn⟩; (first | replace K := Lib.hid (K.out.trans (hbn.mono K.out.size)) | replace K := Lib.hid (K.out.drew.trans (hbn.mono K.out.drew.size))); clear hbn))
        all_goals clear c0 c1 c2 c3 c4 c5 x0 x1 x2 x3 x4 x5
        all_goals rename_i hHeld
        all_goals clear hHeld
        all_goals obtain ⟨x0, x1, x2, x3, x4, x5⟩ := (HWO.out.below K.out).cells
        all_goals have HU := Lib.hid (HOW.out.below K.out)
        all_goals have HQ : Hid (SlC (wn.alloc (objR s)) (.slice (some ⟨wn.heap.size, 0, none⟩) [s].length 1) 6 [s].length (rowR [s])) := by (show SlC _ _ _ _ _; simpa [rowR] using oneR wn s)
        all_goals have hbs : w0.heap.size ≤ (wn.alloc (objR s)).heap.size := by (have := HBW.out.size; have := K.out.size; simp; omega)
        all_goals have hbl : M.length + [s].length ≤ 1000000000 := by (have := HLEN.out; simp; omega)
        all_goals go_wp2_with (at_builtin; refine wp_catR _ rfl (.tmp 23) (.tmp 25) rfl w0.heap.size _ M [s] (some ⟨wn.heap.size, 0, none⟩) 1 rfl (HU.out.below (below1 _ _)) rfl HQ.out hbl hbs ?_; intro v3 w3 ho3 hb3)
        all_goals go_roundw
        · exact ⟨j + 1, HM.out.1, by go_num, by (have e := HFM.out; rw [e, HY2.out]; exact ho3), (HBW.out.trans (K.out.mono HBW.out.size)).trans (((below1 wn (objR s)).mono (by have := HBW.out.size; have := K.out.size; omega)).trans hb3)⟩
        · first | exact HM.out.2 | (rw [g1]; exact HM.out.2)
      | false =>
        have HY2 : Hid (M' = M) := HNO.out rfl
        clear HY HNO
        go_region_held3 (fun wz => (wz.cell? ⟨bk, 0, none⟩ = some (.int .i64 k.1) ∧ wz.cell? ⟨bk, 1, none⟩ = some (.int .i64 k.2.1) ∧ wz.cell? ⟨bk, 2, none⟩ = some (.int .i64 k.2.2.1) ∧ wz.cell? ⟨bk, 3, none⟩ = some (.int .i64 k.2.2.2.1) ∧ wz.cell? ⟨bk, 4, none⟩ = some (.int .i64 k.2.2.2.2.1) ∧ wz.cell? ⟨bk, 5, none⟩ = some (.int .i64 k.2.2.2.2.2)) ∧
            (wz.cell? ⟨bs, 0, none⟩ = some (.int .i64 s.1) ∧ wz.cell? ⟨bs, 1, none⟩ = some (.int .i64 s.2.1) ∧ wz.cell? ⟨bs, 2, none⟩ = some (.int .i64 s.2.2.1) ∧ wz.cell? ⟨bs, 3, none⟩ = some (.int .i64 s.2.2.2.1) ∧ wz.cell? ⟨bs, 4, none⟩ = some (.int .i64 s.2.2.2.2.1) ∧ wz.cell? ⟨bs, 5, none⟩ = some (.int .i64 s.2.2.2.2.2)))
          (first | exact ⟨(HKO.out.below K.out).cells, (HWO.out.below K.out).cells⟩ | exact ⟨(HKO.out.below K.out.drew).cells, (HWO.out.below K.out.drew).cells⟩)
          (first
            | ((with_reducible first | refine (HC1.out _).mono ?_ | refine (HC2.out _).mono ?_); rintro e wn ⟨rfl, hbn⟩; (first | replace K := Lib.hid (K.out.trans (hbn.mono K.out.size)) | replace K := Lib.hid (K.out.drew.trans (hbn.mono K.out.drew.size))); clear hbn))
        all_goals clear c0 c1 c2 c3 c4 c5 x0 x1 x2 x3 x4 x5
        all_goals go_wp2_with fail
        all_goals go_roundw
        · exact ⟨j + 1, HM.out.1, by go_num, by (have e := HFM.out; rw [e, HY2.out]; exact HOW.out.below K.out), HBW.out.trans (K.out.mono HBW.out.size)⟩
        · first | exact HM.out.2 | (rw [g1]; exact HM.out.2)
    · obtain rfl : j = L.length := by omega
      have HF : Hid (OwnR wr w0.heap.size u7 (L.filter fun r => decide (p r = p k))) := by
        have := ho
        rw [List.take_of_length_le (Nat.le_refl _)] at this
        exact this
      have HB := Lib.hid hb
      clear ho hb hlt
      obtain ⟨ua, uc, hu⟩ := (ownsRow_slc HF.out).form
      subst hu
      go_wp2_with fail
      go_ret
      exact ⟨_, rfl, HF.out.lower HB0.out.size, HB0.out.trans (HB.out.mono HB0.out.size)⟩
end Go.Proofs.Ytogckefmmjbapaa
