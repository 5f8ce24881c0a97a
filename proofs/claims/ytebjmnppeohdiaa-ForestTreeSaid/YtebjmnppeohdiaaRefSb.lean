/-
  What the document's own Chain (gavelkindref05) answers, for whatever shares. No conditions besides.
-/
import Derived.Test.YtebjmnppeohdiaaRefSa0
import Derived.Test.YtebjmnppeohdiaaRefV
import Derived.Test.YtebjmnppeohdiaaBtR
import Derived.Deep.LoopGhost
import Derived.Deep.DeepCutAuto
namespace Go.Proofs.Ytebjmnppeohdiaa
open Go.RowKit
set_option linter.unusedSimpArgs false
set_option linter.unusedVariables false

theorem Reads.drewR {w : World} {a : Option Addr} {L : List Int} (h : Reads w a L) : Reads w.drew a L := h.below (Below.refl _ _).drew
theorem chainv_bad {L : List Int} {k : Nat} (h : k < L.length) (hz : ¬ OkS (L.getD k 0)) : chainv L = (0, 0, 12) := by
  unfold chainv
  rw [if_neg]
  intro q
  rw [getD_lt _ _ h] at hz
  exact hz (q _ (List.getElem_mem h))
theorem chainv_nil {L : List Int} (h : ∀ s ∈ L, OkS s) (hz : (0 : Int) ∈ L) : chainv L = (0, 1, 0) := by unfold chainv; rw [if_pos h, if_pos hz]
theorem chainv_on {L : List Int} (h : ∀ s ∈ L, OkS s) (hz : ¬ (0 : Int) ∈ L) : chainv L = chn 1 1 L := by unfold chainv; rw [if_pos h, if_neg hz]
theorem take_succ_mem {L : List Int} {k : Nat} (h : k < L.length) (p : Int → Prop) : (∀ s ∈ L.take (k + 1), p s) ↔ (∀ s ∈ L.take k, p s) ∧ p (L.getD k 0) := by
  rw [List.take_succ_eq_append_getElem h, getD_lt _ _ h]
  constructor
  · intro q
    exact ⟨fun s hs => q s (List.mem_append_left _ hs), q _ (List.mem_append_right _ (by simp))⟩
  · rintro ⟨q1, q2⟩ s hs
    rcases List.mem_append.mp hs with hs | hs
    · exact q1 s hs
    · simp at hs; rw [hs]; exact q2
theorem take_succ_zero {L : List Int} {k : Nat} (h : k < L.length) : decide ((0 : Int) ∈ L.take (k + 1)) = (decide ((0 : Int) ∈ L.take k) || decide (L.getD k 0 = 0)) := by
  rw [List.take_succ_eq_append_getElem h, getD_lt _ _ h]
  by_cases h1 : (0 : Int) ∈ L.take k
  · rw [decide_eq_true h1, decide_eq_true (List.mem_append_left _ h1)]; rfl
  · rw [decide_eq_false h1]
    by_cases h2 : L[k] = 0
    · rw [decide_eq_true h2, decide_eq_true (List.mem_append_right _ (by simp [h2]))]; rfl
    · rw [decide_eq_false h2, decide_eq_false (fun q => by
        rcases List.mem_append.mp q with q | q
        · exact h1 q
        · simp at q; exact h2 q.symm)]; rfl

/-- A fact that 'apply Exists.intro' does not open. -/
structure Wrap (p : Prop) : Prop where out : p
/-- What holds at the head of the first loop. -/
def ChA (L : List Int) (w : World) (v i : Value) (wr : World) : Prop := Wrap <|
  ∃ k : Nat, k ≤ L.length ∧ i = .int .i64 (k : Int) ∧ v = .bool (decide ((0 : Int) ∈ L.take k)) ∧ (∀ s ∈ L.take k, OkS s) ∧ Below w.heap.size w wr ∧ Ow2 wr w.heap.size (.int .i64 0) (.int .i64 0)

/-- What holds at the head of the second loop. -/
def ChB (L : List Int) (w : World) (B : Nat) (q1 q2 q3 : Int) (g : Nat) (i : Value) (wr : World) : Prop := Wrap <|
  ∃ (k : Nat) (n d : Int), g = L.length - k ∧ k ≤ L.length ∧ i = .int .i64 (k : Int) ∧ OkR n d ∧ chn n d (L.drop k) = (q1, q2, q3) ∧ Below w.heap.size w wr ∧ Ow2 wr w.heap.size (.int .i64 0) (.int .i64 0) ∧ Ow2 wr B (.int .i64 n) (.int .i64 d)

set_option maxHeartbeats 4000000 in
set_option maxRecDepth 100000 in
theorem r5chain_any (a : Option Addr) (c : Nat) (L : List Int) (w : World) (hL : Reads w a L) (hn : (L.length : Int) ≤ 9223372036854775807) :
    Calls Try.prog 45 #[.slice a L.length c] w fun e w' => e = .returned (.tuple #[.agg #[.int .i64 (chainv L).1, .int .i64 (chainv L).2.1], .int .i64 (chainv L).2.2]) ∧ Below w.heap.size w w' := by
  have H0 : Hid (ChA L w (.bool false) (.int .i64 0) (w.alloc (.cells #[.int .i64 0, .int .i64 0] 43))) :=
    ⟨⟨0, Nat.zero_le _, rfl, by simp, by simp, below1 _ _, Ow2.new w _ _ _⟩⟩
  have HL := Lib.hid hL; clear hL
  have HV : Hid (chainv L = ((chainv L).1, (chainv L).2.1, (chainv L).2.2)) := rfl
  generalize (chainv L).1 = q1 at *; generalize (chainv L).2.1 = q2 at *; generalize (chainv L).2.2 = q3 at *
  go_enter Try.func45, Try.ntmps45
  go_wp2_with fail
  go_loopw [4, 5] (fun v i wr => ChA L w v i wr) (fun _ i _ => L.length - (intOf i).toNat)
  case atStart => exact H0.out
  case round =>
    clear H0
    obtain ⟨k, hk, rfl, rfl, hok, hb, ho⟩ := hrel.out
    by_cases hlt : k < L.length
    · have HO := Lib.hid ho; clear ho
      obtain ⟨b, off, rfl, hc0⟩ := (HL.out.below hb).2 k hlt
      have hc := hc0; clear hc0
      have i0 : (0 : Int) ≤ (k : Int) := by omega
      have i1 : (k : Int) < (L.length : Int) := by omega
      have HK := Lib.hid hok; clear hok
      have hch := r5check_any (L.getD k 0)
      have HT := Lib.hid (take_succ_zero hlt)
      have HM := Lib.hid (take_succ_mem hlt OkS)
      obtain ⟨z, hz⟩ : ∃ z, z = L.getD k 0 := ⟨_, rfl⟩
      rw [← hz] at hc hch HT HM
      have HZ := Lib.hid hz; clear hz
      generalize decide ((0 : Int) ∈ L.take k) = nb at *
      by_cases hs : OkS z
      · rw [shc_ok hs] at hch
        have HS := Lib.hid hs; clear hs
        go_wp2_with fail
        refine (hch _).mono ?_; rintro e w1 ⟨rfl, rfl⟩
        have hz : z = 0 ∨ (z == 0) = false := by
          by_cases h : z = 0
          · exact Or.inl h
          · exact Or.inr (by simpa using h)
        rcases hz with rfl | hz <;> cases nb
        all_goals go_wp2_with fail
        all_goals go_roundw
        all_goals first
          | (simp [intOf]; omega)
          | (refine ⟨⟨k + 1, by omega, by go_num, ?_, HM.out.mpr ⟨HK.out, HS.out⟩, hb, HO.out⟩⟩
             rw [HT.out]; simp_all)
      · have HS : Hid (q1 = 0 ∧ q2 = 0 ∧ q3 = 12) := by
          have h1 := chainv_bad hlt (by rw [← HZ.out]; exact hs)
          have h2 := HV.out.symm.trans h1
          simp at h2
          exact ⟨h2.1, h2.2.1, h2.2.2⟩
        rw [shc_no hs] at hch
        clear hs
        go_wp2_with fail
        refine (hch _).mono ?_; rintro e w1 ⟨rfl, rfl⟩
        obtain ⟨⟨o0, o1, o2⟩, f1, f2⟩ := HO.out
        go_wp2_with fail
        refine bodyPost_ret (v := .tuple #[.agg #[.int .i64 0, .int .i64 0], .int .i64 12]) (by simp [results, Try.results45, go_sem, o0, o1]) rfl ⟨?_, ?_⟩
        · obtain ⟨rfl, rfl, rfl⟩ := HS.out; rfl
        · exact below_set2 hb (Nat.le_refl _)
    · obtain rfl : k = L.length := by omega
      rw [List.take_length] at hok ⊢
      have HK := Lib.hid hok; clear hok
      have HO := Lib.hid ho; clear ho
      have hd0 : decide ((L.length : Int) < (L.length : Int)) = false := decide_eq_false (by omega)
      by_cases hz : (0 : Int) ∈ L
      · rw [decide_eq_true hz]
        have HS : Hid (q1 = 0 ∧ q2 = 1 ∧ q3 = 0) := by
          have h2 := HV.out.symm.trans (chainv_nil HK.out hz)
          simp at h2
          exact ⟨h2.1, h2.2.1, h2.2.2⟩
        clear hz
        obtain ⟨⟨o0, o1, o2⟩, f1, f2⟩ := HO.out
        go_wp2_with fail
        refine bodyPost_ret (v := .tuple #[.agg #[.int .i64 0, .int .i64 1], .int .i64 0]) (by simp [results, Try.results45, go_sem, o0, o1]) rfl ⟨?_, ?_⟩
        · obtain ⟨rfl, rfl, rfl⟩ := HS.out; rfl
        · exact below_set2 hb (Nat.le_refl _)
      · rw [decide_eq_false hz]
        have HS : Hid (chn 1 1 L = (q1, q2, q3)) := (chainv_on HK.out hz).symm.trans HV.out
        have HZ := Lib.hid hz
        clear hz
        have H1 : Hid (ChB L w wr.heap.size q1 q2 q3 L.length (.int .i64 0) (wr.alloc (.cells #[.int .i64 1, .int .i64 1] 43))) :=
          ⟨⟨0, 1, 1, rfl, Nat.zero_le _, rfl, by decide, by rw [List.drop_zero]; exact HS.out, hb.alloc hb.size _, HO.out.alloc _, Ow2.new wr _ _ _⟩⟩
        have HB : Hid (w.heap.size < wr.heap.size) := HO.out.at.2.2
        go_wp2_with fail
        generalize wr.heap.size = B at *
        clear HO hb hd0 HS
        go_loopg [7] L.length (fun g i wx => ChB L w B q1 q2 q3 g i wx)
        case atStart => exact H1.out
        case round =>
          clear H1
          obtain ⟨k, n, d, rfl, hk, rfl, hr, hv, hb, ho, hq⟩ := hrel.out
          have HO := Lib.hid ho; have HW := Lib.hid hq; have HR := Lib.hid hr; have HV' := Lib.hid hv
          clear ho hq hv hrel
          by_cases hlt : k < L.length
          · obtain ⟨b, off, rfl, hc⟩ := HL.out.2 k hlt
            have hlb := World.block_lt_of_cell? w _ hc
            have HZ' : Hid (OkS (L.getD k 0) ∧ L.getD k 0 ≠ 0) := by
              rw [getD_lt _ _ hlt]
              exact ⟨HK.out _ (List.getElem_mem hlt), fun q => HZ.out (q ▸ List.getElem_mem hlt)⟩
            have HD : Hid (L.drop k = L.getD k 0 :: L.drop (k + 1)) := by
              show _ = _
              rw [getD_lt _ _ hlt]; exact List.drop_eq_getElem_cons hlt
            generalize L.getD k 0 = z at *
            have CL : Hid (∀ wx, Below w.heap.size w wx → wx.cell? ⟨b, off + k, none⟩ = some (.int .i64 z)) := fun wx h => (h.cell (p := ⟨b, off + k, none⟩) hlb).trans hc
            clear hc hlb
            have i0 : (0 : Int) ≤ (k : Int) := by omega
            have i1 : (k : Int) < (L.length : Int) := by omega
            have hi := ok_inR hr
            have hzi := oks_inR HZ'.out.1
            have hwi : InR 10000 := by decide
            have hOn := of_any n hi.1; have hOd := of_any d hi.2; have hOz := of_any z hzi; have hOw := of_any 10000 hwi
            have ln := digs_19 hi.1; have ld := digs_19 hi.2; have lz := digs_19 hzi; have lw := digs_19 hwi
            have l1 := digs_len_times ln lz; have l2 := digs_len_times ld lw
            have hT1 := fun (w : World) (v v' : Value) (h : Big w v n) (h' : Big w v' z) => btimes v v' n z w h h' (by omega) (by omega)
            have hT2 := fun (w : World) (v v' : Value) (h : Big w v d) (h' : Big w v' 10000) => btimes v v' d 10000 w h h' (by omega) (by omega)
            have p1 : 0 < n * z := Int.mul_pos (by unfold OkR at hr; omega) (by have := HZ'.out; unfold OkS at this; omega)
            have p2 : 0 < d * 10000 := Int.mul_pos (by unfold OkR at hr; omega) (by omega)
            have hLw := fun (w : World) (v v' : Value) (hv : Big w v (n * z)) (hv' : Big w v' (d * 10000)) => rlowest_i (n * z) (d * 10000) v v' w hv hv' p1 p2 (by omega) (by omega)
            have HQ : Hid ((decide (LowOk (n * z).toNat (d * 10000).toNat) = true ∧ OkR (lown (n * z).toNat (d * 10000).toNat) (lowd (n * z).toNat (d * 10000).toNat) ∧ chn (lown (n * z).toNat (d * 10000).toNat) (lowd (n * z).toNat (d * 10000).toNat) (L.drop (k + 1)) = (q1, q2, q3)) ∨ (decide (LowOk (n * z).toNat (d * 10000).toNat) = false ∧ q1 = 0 ∧ q2 = 0 ∧ q3 = 10)) := by
              show _ ∨ _
              have e := HV'.out
              rw [HD.out] at e
              by_cases h : LowOk (n * z).toNat (d * 10000).toNat
              · left; rw [chn_ok h] at e; exact ⟨decide_eq_true h, chn_okr hr HZ'.out.1 HZ'.out.2 h, e⟩
              · right; rw [chn_no h] at e; simp at e; exact ⟨decide_eq_false h, e.1.symm, e.2.1.symm, e.2.2.symm⟩
            have hL := hLw
            generalize lown (n * z).toNat (d * 10000).toNat = rn at *; generalize lowd (n * z).toNat (d * 10000).toNat = rd at *; generalize decide (LowOk (n * z).toNat (d * 10000).toNat) = ok at *
            clear hLw hi hzi hwi ln ld lz lw l1 l2 p1 p2 hr HV' HD HZ'
            have KH : Hid (Keeps w wr [(B, .int .i64 n, .int .i64 d)]) := ⟨hb, by intro x hx; simp at hx; rw [hx]; exact HW.out.at⟩
            have NN := Lib.hid (Ow2.new wr (.int .i64 0) (.int .i64 0) 43)
            have nb : Hid (B ≠ w.heap.size) := by have := HB.out; show _ ≠ _; omega
            clear hb
            go_upto_region 14 with fail
            go_cut [8, 9] (fun s8 s9 wx => ∃ B8, s8 = .pointer (some ⟨B8, 0, none⟩) ∧ s9 = .bool ok ∧ Keeps w wx [(B, .int .i64 n, .int .i64 d)] ∧ Ow2 wx w.heap.size (.int .i64 0) (.int .i64 0) ∧ Ow2 wx B (.int .i64 n) (.int .i64 d) ∧ At2 wx B8 (.int .i64 rn) (.int .i64 rd))
            case first =>
              go_region_held3 (fun w' => w'.cell? ⟨B, 0, none⟩ = some (.int .i64 n) ∧ w'.cell? ⟨B, 1, none⟩ = some (.int .i64 d) ∧ w'.cell? ⟨b, off + k, none⟩ = some (.int .i64 z))
                ((refine (fun (h : Keeps w _ [(B, .int .i64 n, .int .i64 d)]) => (And.intro h.at0.1 (And.intro h.at0.2.1 (CL.out _ h.1)) : _ ∧ _)) ?_; repeat first | with_reducible exact K7.out | with_reducible exact K6.out | with_reducible exact K5.out | with_reducible exact K4.out | with_reducible exact K3.out | with_reducible exact K2.out | with_reducible exact K1.out | with_reducible exact KH.out | with_reducible refine Keeps.drew ?_ | with_reducible refine Keeps.alloc ?_ _ | with_reducible refine Keeps.set ?_ KH.out.size KH.out.lt | with_reducible refine Keeps.set ?_ K1.out.size K1.out.lt | with_reducible refine Keeps.set ?_ K2.out.size K2.out.lt | with_reducible refine Keeps.set ?_ K3.out.size K3.out.lt | with_reducible refine Keeps.set ?_ K4.out.size K4.out.lt | with_reducible refine Keeps.set ?_ K5.out.size K5.out.lt | with_reducible refine Keeps.set ?_ K6.out.size K6.out.lt))
                (first
                  | (go_at_call 59; (with_reducible first | refine (hOn _).mono ?_); rintro e w1 ⟨u1, rfl, hu1, hbn⟩
                     have K1' : Keeps w w1 [(B, .int .i64 n, .int .i64 d)] := by with_reducible first | exact KH.out.drew.below hbn | exact (KH.out.alloc _).drew.below hbn | exact (KH.out.drew.alloc _).below hbn
                     have K1 := Lib.hid K1'; clear K1'
                     obtain ⟨y0, y1, y2⟩ := (K1.out).at0; have y3 := CL.out _ (K1.out).1
                     have o1' : Ow2 w1 w.heap.size (.int .i64 0) (.int .i64 0) := by with_reducible first | exact HO.out.drew.below hbn | exact (HO.out.alloc _).drew.below hbn | exact (HO.out.drew.alloc _).below hbn
                     have o1 := Lib.hid o1'; clear o1'
                     have e1' : Ow2 w1 B (.int .i64 n) (.int .i64 d) := by with_reducible first | exact HW.out.drew.below hbn | exact (HW.out.alloc _).drew.below hbn | exact (HW.out.drew.alloc _).below hbn
                     have e1 := Lib.hid e1'; clear e1'
                     have g1 := Lib.hid hu1; clear hu1
                     have s1 : Hid (w.heap.size < w1.heap.size) := o1.out.at.2.2
                     try (with_reducible first | have n1' := NN.out.drew.below hbn
                          have n1 := Lib.hid n1'
                          obtain ⟨⟨p0, p1, p2⟩, p3, p4⟩ := n1')
                     clear hbn)
                  | (go_at_call 59; (with_reducible first | refine (hOz _).mono ?_); rintro e w2 ⟨u2, rfl, hu2, hbn⟩
                     have K2' : Keeps w w2 [(B, .int .i64 n, .int .i64 d)] := by with_reducible first | exact K1.out.below hbn | exact (K1.out.alloc _).below hbn
                     have K2 := Lib.hid K2'; clear K2'
                     obtain ⟨y0, y1, y2⟩ := (K2.out).at0; have y3 := CL.out _ (K2.out).1
                     have o2' : Ow2 w2 w.heap.size (.int .i64 0) (.int .i64 0) := by with_reducible first | exact o1.out.below hbn | exact (o1.out.alloc _).below hbn
                     have o2 := Lib.hid o2'; clear o2'
                     have e2' : Ow2 w2 B (.int .i64 n) (.int .i64 d) := by with_reducible first | exact e1.out.below hbn | exact (e1.out.alloc _).below hbn
                     have e2 := Lib.hid e2'; clear e2'
                     have g1' : Big w2 u1 n := by with_reducible first | exact g1.out.below hbn | exact (g1.out.alloc _).below hbn
                     replace g1 := Lib.hid g1'; clear g1'
                     have g2 := Lib.hid hu2; clear hu2
                     have s2 : Hid (w.heap.size < w2.heap.size) := o2.out.at.2.2
                     try (with_reducible first | have n2' := n1.out.below hbn | have n2' := (Ow2.new w1 (.int .i64 0) (.int .i64 0) 43).below hbn
                          have n2 := Lib.hid n2'
                          obtain ⟨⟨p0, p1, p2⟩, p3, p4⟩ := n2')
                     clear hbn)
                  | (go_at_call 58; (with_reducible first | refine (hT1 _ _ _ g1.out g2.out).mono ?_ | refine (hT1 _ _ _ (g1.out.alloc _) (g2.out.alloc _)).mono ?_); rintro e w3 ⟨u3, rfl, hu3, hbn⟩
                     have K3' : Keeps w w3 [(B, .int .i64 n, .int .i64 d)] := by with_reducible first | exact K2.out.below hbn | exact (K2.out.alloc _).below hbn
                     have K3 := Lib.hid K3'; clear K3'
                     obtain ⟨y0, y1, y2⟩ := (K3.out).at0; have y3 := CL.out _ (K3.out).1
                     have o3' : Ow2 w3 w.heap.size (.int .i64 0) (.int .i64 0) := by with_reducible first | exact o2.out.below hbn | exact (o2.out.alloc _).below hbn
                     have o3 := Lib.hid o3'; clear o3'
                     have e3' : Ow2 w3 B (.int .i64 n) (.int .i64 d) := by with_reducible first | exact e2.out.below hbn | exact (e2.out.alloc _).below hbn
                     have e3 := Lib.hid e3'; clear e3'
                     have g1' : Big w3 u1 n := by with_reducible first | exact g1.out.below hbn | exact (g1.out.alloc _).below hbn
                     replace g1 := Lib.hid g1'; clear g1'
                     have g2' : Big w3 u2 z := by with_reducible first | exact g2.out.below hbn | exact (g2.out.alloc _).below hbn
                     replace g2 := Lib.hid g2'; clear g2'
                     have g3 := Lib.hid hu3; clear hu3
                     have s3 : Hid (w.heap.size < w3.heap.size) := o3.out.at.2.2
                     try (with_reducible first | have n3' := n2.out.below hbn | have n3' := (Ow2.new w2 (.int .i64 0) (.int .i64 0) 43).below hbn
                          have n3 := Lib.hid n3'
                          obtain ⟨⟨p0, p1, p2⟩, p3, p4⟩ := n3')
                     clear hbn)
                  | (go_at_call 59; (with_reducible first | refine (hOd _).mono ?_); rintro e w4 ⟨u4, rfl, hu4, hbn⟩
                     have K4' : Keeps w w4 [(B, .int .i64 n, .int .i64 d)] := by with_reducible first | exact K3.out.below hbn | exact (K3.out.alloc _).below hbn
                     have K4 := Lib.hid K4'; clear K4'
                     obtain ⟨y0, y1, y2⟩ := (K4.out).at0; have y3 := CL.out _ (K4.out).1
                     have o4' : Ow2 w4 w.heap.size (.int .i64 0) (.int .i64 0) := by with_reducible first | exact o3.out.below hbn | exact (o3.out.alloc _).below hbn
                     have o4 := Lib.hid o4'; clear o4'
                     have e4' : Ow2 w4 B (.int .i64 n) (.int .i64 d) := by with_reducible first | exact e3.out.below hbn | exact (e3.out.alloc _).below hbn
                     have e4 := Lib.hid e4'; clear e4'
                     have g1' : Big w4 u1 n := by with_reducible first | exact g1.out.below hbn | exact (g1.out.alloc _).below hbn
                     replace g1 := Lib.hid g1'; clear g1'
                     have g2' : Big w4 u2 z := by with_reducible first | exact g2.out.below hbn | exact (g2.out.alloc _).below hbn
                     replace g2 := Lib.hid g2'; clear g2'
                     have g3' : Big w4 u3 (n * z) := by with_reducible first | exact g3.out.below hbn | exact (g3.out.alloc _).below hbn
                     replace g3 := Lib.hid g3'; clear g3'
                     have g4 := Lib.hid hu4; clear hu4
                     have s4 : Hid (w.heap.size < w4.heap.size) := o4.out.at.2.2
                     try (with_reducible first | have n4' := n3.out.below hbn | have n4' := (Ow2.new w3 (.int .i64 0) (.int .i64 0) 43).below hbn
                          have n4 := Lib.hid n4'
                          obtain ⟨⟨p0, p1, p2⟩, p3, p4⟩ := n4')
                     clear hbn)
                  | (go_at_call 59; (with_reducible first | refine (hOw _).mono ?_); rintro e w5 ⟨u5, rfl, hu5, hbn⟩
                     have K5' : Keeps w w5 [(B, .int .i64 n, .int .i64 d)] := by with_reducible first | exact K4.out.below hbn | exact (K4.out.alloc _).below hbn
                     have K5 := Lib.hid K5'; clear K5'
                     obtain ⟨y0, y1, y2⟩ := (K5.out).at0; have y3 := CL.out _ (K5.out).1
                     have o5' : Ow2 w5 w.heap.size (.int .i64 0) (.int .i64 0) := by with_reducible first | exact o4.out.below hbn | exact (o4.out.alloc _).below hbn
                     have o5 := Lib.hid o5'; clear o5'
                     have e5' : Ow2 w5 B (.int .i64 n) (.int .i64 d) := by with_reducible first | exact e4.out.below hbn | exact (e4.out.alloc _).below hbn
                     have e5 := Lib.hid e5'; clear e5'
                     have g1' : Big w5 u1 n := by with_reducible first | exact g1.out.below hbn | exact (g1.out.alloc _).below hbn
                     replace g1 := Lib.hid g1'; clear g1'
                     have g2' : Big w5 u2 z := by with_reducible first | exact g2.out.below hbn | exact (g2.out.alloc _).below hbn
                     replace g2 := Lib.hid g2'; clear g2'
                     have g3' : Big w5 u3 (n * z) := by with_reducible first | exact g3.out.below hbn | exact (g3.out.alloc _).below hbn
                     replace g3 := Lib.hid g3'; clear g3'
                     have g4' : Big w5 u4 d := by with_reducible first | exact g4.out.below hbn | exact (g4.out.alloc _).below hbn
                     replace g4 := Lib.hid g4'; clear g4'
                     have g5 := Lib.hid hu5; clear hu5
                     have s5 : Hid (w.heap.size < w5.heap.size) := o5.out.at.2.2
                     try (with_reducible first | have n5' := n4.out.below hbn | have n5' := (Ow2.new w4 (.int .i64 0) (.int .i64 0) 43).below hbn
                          have n5 := Lib.hid n5'
                          obtain ⟨⟨p0, p1, p2⟩, p3, p4⟩ := n5')
                     clear hbn)
                  | (go_at_call 58; (with_reducible first | refine (hT2 _ _ _ g4.out g5.out).mono ?_ | refine (hT2 _ _ _ (g4.out.alloc _) (g5.out.alloc _)).mono ?_); rintro e w6 ⟨u6, rfl, hu6, hbn⟩
                     have K6' : Keeps w w6 [(B, .int .i64 n, .int .i64 d)] := by with_reducible first | exact K5.out.below hbn | exact (K5.out.alloc _).below hbn
                     have K6 := Lib.hid K6'; clear K6'
                     obtain ⟨y0, y1, y2⟩ := (K6.out).at0; have y3 := CL.out _ (K6.out).1
                     have o6' : Ow2 w6 w.heap.size (.int .i64 0) (.int .i64 0) := by with_reducible first | exact o5.out.below hbn | exact (o5.out.alloc _).below hbn
                     have o6 := Lib.hid o6'; clear o6'
                     have e6' : Ow2 w6 B (.int .i64 n) (.int .i64 d) := by with_reducible first | exact e5.out.below hbn | exact (e5.out.alloc _).below hbn
                     have e6 := Lib.hid e6'; clear e6'
                     have g1' : Big w6 u1 n := by with_reducible first | exact g1.out.below hbn | exact (g1.out.alloc _).below hbn
                     replace g1 := Lib.hid g1'; clear g1'
                     have g2' : Big w6 u2 z := by with_reducible first | exact g2.out.below hbn | exact (g2.out.alloc _).below hbn
                     replace g2 := Lib.hid g2'; clear g2'
                     have g3' : Big w6 u3 (n * z) := by with_reducible first | exact g3.out.below hbn | exact (g3.out.alloc _).below hbn
                     replace g3 := Lib.hid g3'; clear g3'
                     have g4' : Big w6 u4 d := by with_reducible first | exact g4.out.below hbn | exact (g4.out.alloc _).below hbn
                     replace g4 := Lib.hid g4'; clear g4'
                     have g5' : Big w6 u5 10000 := by with_reducible first | exact g5.out.below hbn | exact (g5.out.alloc _).below hbn
                     replace g5 := Lib.hid g5'; clear g5'
                     have g6 := Lib.hid hu6; clear hu6
                     have s6 : Hid (w.heap.size < w6.heap.size) := o6.out.at.2.2
                     try (with_reducible first | have n6' := n5.out.below hbn | have n6' := (Ow2.new w5 (.int .i64 0) (.int .i64 0) 43).below hbn
                          have n6 := Lib.hid n6'
                          obtain ⟨⟨p0, p1, p2⟩, p3, p4⟩ := n6')
                     clear hbn)
                  | (go_at_call 57; (with_reducible first | refine (hL _ _ _ g3.out g6.out).mono ?_ | refine (hL _ _ _ (g3.out.alloc _) (g6.out.alloc _)).mono ?_); rintro e w7 ⟨rfl, hbn⟩
                     have K7' : Keeps w w7 [(B, .int .i64 n, .int .i64 d)] := by with_reducible first | exact K6.out.below hbn | exact (K6.out.alloc _).below hbn
                     have K7 := Lib.hid K7'; clear K7'
                     obtain ⟨y0, y1, y2⟩ := (K7.out).at0; have y3 := CL.out _ (K7.out).1
                     have o7' : Ow2 w7 w.heap.size (.int .i64 0) (.int .i64 0) := by with_reducible first | exact o6.out.below hbn | exact (o6.out.alloc _).below hbn
                     have o7 := Lib.hid o7'; clear o7'
                     have e7' : Ow2 w7 B (.int .i64 n) (.int .i64 d) := by with_reducible first | exact e6.out.below hbn | exact (e6.out.alloc _).below hbn
                     have e7 := Lib.hid e7'; clear e7'
                     have g1' : Big w7 u1 n := by with_reducible first | exact g1.out.below hbn | exact (g1.out.alloc _).below hbn
                     replace g1 := Lib.hid g1'; clear g1'
                     have g2' : Big w7 u2 z := by with_reducible first | exact g2.out.below hbn | exact (g2.out.alloc _).below hbn
                     replace g2 := Lib.hid g2'; clear g2'
                     have g3' : Big w7 u3 (n * z) := by with_reducible first | exact g3.out.below hbn | exact (g3.out.alloc _).below hbn
                     replace g3 := Lib.hid g3'; clear g3'
                     have g4' : Big w7 u4 d := by with_reducible first | exact g4.out.below hbn | exact (g4.out.alloc _).below hbn
                     replace g4 := Lib.hid g4'; clear g4'
                     have g5' : Big w7 u5 10000 := by with_reducible first | exact g5.out.below hbn | exact (g5.out.alloc _).below hbn
                     replace g5 := Lib.hid g5'; clear g5'
                     have g6' : Big w7 u6 (d * 10000) := by with_reducible first | exact g6.out.below hbn | exact (g6.out.alloc _).below hbn
                     replace g6 := Lib.hid g6'; clear g6'
                     have s7 : Hid (w.heap.size < w7.heap.size) := o7.out.at.2.2
                     try (with_reducible first | have n7' := n6.out.below hbn | have n7' := (Ow2.new w6 (.int .i64 0) (.int .i64 0) 43).below hbn
                          have n7 := Lib.hid n7'
                          obtain ⟨⟨p0, p1, p2⟩, p3, p4⟩ := n7')
                     clear hbn))
              all_goals (go_wp2_with fail)
              all_goals go_meet
              all_goals refine ⟨_, rfl, rfl, ?_, ?_, ?_, ?_⟩
              all_goals (have zz := (KH.out).at0.2.2)
              all_goals (have z1 := s1.out; have z2 := s2.out; have z3 := s3.out; have z4 := s4.out; have z5 := s5.out; have z6 := s6.out; have z0 := HO.out.at.2.2)
              all_goals repeat with_reducible first
                | exact K7.out | exact o7.out | exact n7.out.at | exact e7.out
                | refine Keeps.set ?_ KH.out.size KH.out.lt | refine Keeps.set ?_ K1.out.size K1.out.lt | refine Keeps.set ?_ K2.out.size K2.out.lt | refine Keeps.set ?_ K3.out.size K3.out.lt | refine Keeps.set ?_ K4.out.size K4.out.lt | refine Keeps.set ?_ K5.out.size K5.out.lt | refine Keeps.set ?_ K6.out.size K6.out.lt
                | refine Keeps.alloc ?_ _
                | refine Ow2.setne ?_ (by omega)
                | refine Ow2.alloc ?_ _
                | refine At2.put (p := .int .i64 0) (q := .int .i64 0) ?_
                | refine At2.new' (by simp [World.setCell])
                | refine At2.alloc ?_ _
            case rest =>
              obtain ⟨B8, rfl, rfl, K, o, e, a8⟩ := hcut
              have KI := Lib.hid K; have oI := Lib.hid o; have eI := Lib.hid e
              clear KH HO HW NN K
              obtain ⟨⟨o0, o1, o2⟩, f1, f2⟩ := o
              obtain ⟨⟨e0, e1, e2⟩, h1, h2⟩ := e
              obtain ⟨x0, x1, x2⟩ := a8
              rcases HQ.out with ⟨rfl, hro, hrv⟩ | ⟨rfl, rfl, rfl, rfl⟩
              · have HN := Lib.hid (And.intro hro hrv)
                clear hro hrv
                go_wp2_with fail
                go_roundg (L.length - (k + 1))
                case measure => omega
                case rel => exact ⟨⟨k + 1, rn, rd, rfl, by omega, by go_num, HN.out.1, HN.out.2, below_set2 KI.out.1 (by have := HB.out; omega), oI.out.setne nb.out.symm, eI.out.put⟩⟩
              · go_wp2_with fail
                refine bodyPost_ret (v := .tuple #[.agg #[.int .i64 0, .int .i64 0], .int .i64 10]) (by simp [results, Try.results45, go_sem, o0, o1]) rfl ⟨rfl, ?_⟩
                exact below_set2 KI.out.1 (Nat.le_refl _)
          · obtain rfl : k = L.length := by omega
            have HQ : Hid (q1 = n ∧ q2 = d ∧ q3 = 0) := by
              have e := HV'.out
              rw [List.drop_length, chn_end] at e
              simp at e
              exact ⟨e.1.symm, e.2.1.symm, e.2.2.symm⟩
            have hd0 : decide ((L.length : Int) < (L.length : Int)) = false := decide_eq_false (by omega)
            clear HV' HR hr
            obtain ⟨⟨o0, o1, o2⟩, f1, f2⟩ := HO.out
            obtain ⟨⟨e0, e1, e2⟩, h1, h2⟩ := HW.out
            go_wp2_with fail
            refine bodyPost_ret (v := .tuple #[.agg #[.int .i64 n, .int .i64 d], .int .i64 0]) (by simp [results, Try.results45, go_sem, o0, o1]) rfl ⟨?_, ?_⟩
            · obtain ⟨rfl, rfl, rfl⟩ := HQ.out; rfl
            · exact below_set2 hb (Nat.le_refl _)
end Go.Proofs.Ytebjmnppeohdiaa
