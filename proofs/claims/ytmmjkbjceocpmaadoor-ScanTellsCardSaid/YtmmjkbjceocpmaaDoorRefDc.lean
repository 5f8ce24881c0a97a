/-
  What the document's own Parse (gavelkindref06) answers. The condition: a text of at most 500 bytes.
-/
import Derived.Test.YtmmjkbjceocpmaaDoorRefD0
import Derived.Test.YtmmjkbjceocpmaaDoorRefDa
import Derived.Test.YtmmjkbjceocpmaaDoorRefQ
import Derived.Test.YtmmjkbjceocpmaaDoorRefL
namespace Go.Proofs.YtmmjkbjceocpmaaDoor
open Go.RowKit
set_option linter.unusedSimpArgs false
set_option linter.unusedVariables false

/-- The empty one is nought. -/
theorem big_nil (w : World) : Big w (.agg #[.bool (decide ((0 : Int) < 0)), .slice none 0 0]) 0 := by
  refine ⟨.slice none 0 0, by simp, none, 0, ?_, ?_, fun _ => rfl, ?_⟩
  · rw [Int.natAbs_zero, digs_zero]; rfl
  · rw [Int.natAbs_zero, digs_zero]; simp
  · rw [Int.natAbs_zero, digs_zero]; exact ⟨fun z hz => (by cases hz), fun i hi => (by cases hi)⟩
theorem sval_cases (l : List UInt8) : (l.length = 0 ∧ sval l = pval l) ∨ (0 < l.length ∧ (l.getD 0 0).toNat = 45 ∧ sval l = - pval l) ∨ (0 < l.length ∧ (l.getD 0 0).toNat ≠ 45 ∧ sval l = pval l) := by
  cases l with
  | nil => exact Or.inl ⟨rfl, by simp [sval]⟩
  | cons b r =>
    by_cases h : b = 45
    · subst h; exact Or.inr (Or.inl ⟨by simp, by simp, by simp [sval]⟩)
    · refine Or.inr (Or.inr ⟨by simp, ?_, by simp [sval, h]⟩)
      simp only [List.getD_cons_zero]
      exact fun q => h (UInt8.toNat_inj.mp (by rw [q]; rfl))
theorem bs_toList (a : List UInt8) : (bs a).toList = a := by rw [ByteArray.toList_eq]; simp [bs]
theorem bs_inj {a b : List UInt8} (h : bs a = bs b) : a = b := by
  have := congrArg ByteArray.data h
  simpa [bs] using this
/-- What holds at the loop's head: the number of the first digits. -/
def PaRel (l : List UInt8) (w : World) (g : Nat) (i : Value) (wr : World) : Prop := Wrap6 <|
  ∃ (k : Nat) (ua : Option Addr) (uc : Nat), g = l.length - k ∧ k ≤ l.length ∧ i = .int .i64 (k : Int) ∧ Below w.heap.size w wr ∧ Ow2 wr w.heap.size (.bool (decide (pval (l.take k) < 0))) (.slice ua (digs (pval (l.take k)).natAbs).length uc) ∧ Big wr (.agg #[.bool (decide (pval (l.take k) < 0)), .slice ua (digs (pval (l.take k)).natAbs).length uc]) (pval (l.take k))

set_option maxHeartbeats 4000000 in
set_option maxRecDepth 100000 in
theorem r6parse_any (l : List UInt8) (d : Int) (hl : l.length ≤ 500) (w : World) :
    Calls Tryd.prog 20 #[.string (bs l), .int .i64 d] w fun e w' => e = .returned (.tuple #[.int .i64 (parsev l d), .int .i64 (parsee l d)]) ∧ Below w.heap.size w w' := by
  have hm := r6may_any d
  obtain ⟨pv, hpv⟩ : ∃ pv, parsev l d = pv := ⟨_, rfl⟩
  obtain ⟨pe, hpe⟩ : ∃ pe, parsee l d = pe := ⟨_, rfl⟩
  rw [hpv, hpe]
  have HPV := Lib.hid hpv; have HPE := Lib.hid hpe
  clear hpv hpe
  by_cases h0 : OkD d
  · rw [decide_eq_true h0] at hm
    go_enter Tryd.func20, Tryd.ntmps20
    go_wp2_with fail
    refine (hm _).mono ?_; rintro e w0 ⟨rfl, rfl⟩
    go_wp2_with fail
    have pz : Ow2 (w.alloc (.cells #[.bool false, .slice none 0 0] 56)) w.heap.size (.bool (decide (pval (l.take 0) < 0))) (.slice none (digs (pval (l.take 0)).natAbs).length 0) ∧
        Big (w.alloc (.cells #[.bool false, .slice none 0 0] 56)) (.agg #[.bool (decide (pval (l.take 0) < 0)), .slice none (digs (pval (l.take 0)).natAbs).length 0]) (pval (l.take 0)) := by
      have e : pval (l.take 0) = 0 := by rw [List.take_zero]; rfl
      rw [e]
      have e2 : (digs (0 : Int).natAbs).length = 0 := by rw [Int.natAbs_zero, digs_zero]; rfl
      rw [e2]
      exact ⟨Ow2.new w _ _ _, big_nil _⟩
    go_loopg [7] l.length (fun g i wr => PaRel l w g i wr)
    case atStart => exact ⟨⟨0, none, 0, rfl, Nat.zero_le _, rfl, below1 _ _, pz.1, pz.2⟩⟩
    case round =>
      obtain ⟨k, ua, uc, rfl, hk, rfl, hb, ho, hv⟩ := hrel.out
      clear hrel
      have hsz := bs_size l
      by_cases hlt : k < l.length
      · have i1 : (0 : Int) ≤ (k : Int) := by omega
        have i2 : (k : Int) < ((bs l).size : Int) := by omega
        have hby : ∀ q, ((bs l)[k]'q).toNat = (l.getD k 0).toNat := fun q => by simp [bs, List.getD, hlt, ByteArray.getElem_eq_getElem_data]
        have HP := Lib.hid (pval_take hlt)
        have hbd := pval_bd l k hk
        have hle := pval_len l k hk
        have hle' := pval_len l (k + 1) (by omega)
        rw [HP.out] at hle'
        have e0 : decide (pval (l.take k) < 0) = false := decide_eq_false (by omega)
        have HE := Lib.hid e0
        rw [e0] at ho hv
        generalize hX : pval (l.take k) = X at *
        generalize l.getD k 0 = ch at *
        have HX := Lib.hid hX
        clear hX
        have hleX := hle
        have hT0 := fun (w : World) (v v' : Value) (h : Big w v X) (h' : Big w v' 10) => btimes v v' X 10 w h h' (by omega) (Nat.le_trans (digs_19 (by unfold InR; omega)) (by omega))
        have lX0 := digs_len_times (y := 10) (b := 19) hle (digs_19 (by unfold InR; omega))
        clear hleX
        generalize hLu : (digs X.natAbs).length = lu at *
        have HLu := Lib.hid hLu
        clear hLu
        have HO := Lib.hid ho; have HV := Lib.hid hv
        clear hv e0
        have hc8 := ch.toNat_lt
        by_cases hd : 48 ≤ ch.toNat ∧ ch.toNat ≤ 57
        · have HD : Hid (pdig X ch = X * 10 + ((ch.toNat : Int) - 48)) := if_pos hd
          generalize ch.toNat = m at *
          have l10 : (digs (10 : Int).natAbs).length ≤ 19 := digs_19 (by unfold InR; omega)
          have hmR : InR ((m : Int) - 48) := by unfold InR; omega
          have lm := digs_19 hmR
          have lX10 := lX0
          have hO10 := of_any 10 (by unfold InR; omega)
          have hOm := of_any ((m : Int) - 48) hmR
          have hT := hT0
          have hP := fun (w : World) (v v' : Value) (h : Big w v (X * 10)) (h' : Big w v' ((m : Int) - 48)) => bplus_w w v v' h h' (by omega) (by omega)
          have hz : wrap64 ((m : Int) - 48) = (m : Int) - 48 := by unfold wrap64; omega
          have hz' : IntKind.i64.wrap ((m : Int) - 48) = (m : Int) - 48 := by rw [IntKind.wrap_i64]; omega
          have hw' : IntKind.i64.wrap (m : Int) = (m : Int) := by rw [IntKind.wrap_i64]; omega
          have h1 : 48 ≤ m := hd.1
          have h2 : m ≤ 57 := hd.2
          clear hd l10 lm lX10 lX0 hT0 hmR hle hle' hbd hc8
          obtain ⟨⟨o0, o1, o2⟩, f1, f2⟩ := ho
          generalize hLN : (digs (X * 10 + ((m : Int) - 48)).natAbs).length = ln at *
          have HLN := Lib.hid hLN
          generalize hSN : decide (X * 10 + ((m : Int) - 48) < 0) = sn at *
          have HSN := Lib.hid hSN
          clear hLN hSN
          go_wp2_with fail
          go_region_with
            (first
              | (go_at_call 25; with_reducible refine (hO10 _).mono ?_; rintro e w1 ⟨u1, rfl, hu1, hb1⟩
                 have j1 : Below w.heap.size w w1 := hb.drew.trans (hb1.mono hb.drew.size)
                 replace HO := Lib.hid (HO.out.drew.below hb1); replace HV := Lib.hid ((HV.out.drawn).below hb1)
                 have H1 := Lib.hid hu1
                 obtain ⟨⟨o0, o1, o2⟩, f1, f2⟩ := HO.out
                 clear hu1 hb1)
              | (go_at_call 33; with_reducible refine (hT _ _ _ HV.out H1.out).mono ?_; rintro e w2 ⟨u2, rfl, hu2, hb2⟩
                 have j2 := j1.trans (hb2.mono j1.size)
                 replace HO := Lib.hid (HO.out.below hb2)
                 have H2 := Lib.hid hu2
                 obtain ⟨⟨o0, o1, o2⟩, f1, f2⟩ := HO.out
                 clear hu2 hb2)
              | (go_at_call 25; with_reducible refine (hOm _).mono ?_; rintro e w3 ⟨u3, rfl, hu3, hb3⟩
                 have j3 := j2.trans (hb3.mono j2.size)
                 replace HO := Lib.hid (HO.out.below hb3); replace H2 := Lib.hid (H2.out.below hb3)
                 have H3 := Lib.hid hu3
                 obtain ⟨⟨o0, o1, o2⟩, f1, f2⟩ := HO.out
                 clear hu3 hb3)
              | (go_at_call 32; with_reducible refine (hP _ _ _ H2.out H3.out).mono ?_; rintro e w4 ⟨ua4, uc4, rfl, hu4, hb4⟩
                 have j4 := j3.trans (hb4.mono j3.size)
                 replace HO := Lib.hid (HO.out.below hb4)
                 have H4 := Lib.hid hu4
                 obtain ⟨⟨o0, o1, o2⟩, f1, f2⟩ := HO.out
                 clear hu4 hb4))
          all_goals go_wp2_with fail
          all_goals go_roundg (l.length - (k + 1))
          all_goals first
            | omega
            | (refine ⟨⟨k + 1, ua4, uc4, rfl, by omega, by go_num, below_set2 j4 (Nat.le_refl _), ?_, ?_⟩⟩
               · rw [HP.out, HD.out, show decide (X * 10 + ((m : Int) - 48) < 0) = sn from HSN.out, show (digs (X * 10 + ((m : Int) - 48)).natAbs).length = ln from HLN.out]; exact HO.out.put
               · rw [HP.out, HD.out, show decide (X * 10 + ((m : Int) - 48) < 0) = sn from HSN.out, show (digs (X * 10 + ((m : Int) - 48)).natAbs).length = ln from HLN.out]; exact H4.out.put HO.out.at)
        · have HD : Hid (pdig X ch = X) := if_neg hd
          generalize ch.toNat = m at *
          rcases Nat.lt_or_ge m 48 with h1 | h1
          · have h2 : ¬ 48 ≤ m := by omega
            have h3 : ¬ (48 : Int) ≤ (m : Int) := by omega
            obtain ⟨⟨o0, o1, o2⟩, f1, f2⟩ := ho
            clear hd
            go_wp2_with fail
            go_roundg (l.length - (k + 1))
            case measure => omega
            case rel =>
              refine ⟨⟨k + 1, ua, uc, rfl, by omega, by go_num, hb, ?_, ?_⟩⟩
              · rw [HP.out, HD.out, show decide (X < 0) = false from HE.out, show (digs X.natAbs).length = lu from HLu.out]; exact HO.out
              · rw [HP.out, HD.out, show decide (X < 0) = false from HE.out, show (digs X.natAbs).length = lu from HLu.out]; exact HV.out
          · have h2 : ¬ m ≤ 57 := by omega
            have h3 : ¬ (m : Int) ≤ 57 := by omega
            clear hd
            go_wp2_with fail
            go_roundg (l.length - (k + 1))
            case measure => omega
            case rel =>
              refine ⟨⟨k + 1, ua, uc, rfl, by omega, by go_num, hb, ?_, ?_⟩⟩
              · rw [HP.out, HD.out, show decide (X < 0) = false from HE.out, show (digs X.natAbs).length = lu from HLu.out]; exact HO.out
              · rw [HP.out, HD.out, show decide (X < 0) = false from HE.out, show (digs X.natAbs).length = lu from HLu.out]; exact HV.out
      · obtain rfl : k = l.length := by omega
        rw [List.take_length] at ho hv
        have hlp := pval_len l l.length (Nat.le_refl _)
        have hb0 := pval_bd l l.length (Nat.le_refl _)
        rw [List.take_length] at hlp hb0
        have e0 : decide (pval l < 0) = false := decide_eq_false (by omega)
        rw [e0] at ho hv
        have hd0 : decide ((l.length : Int) < (l.length : Int)) = false := decide_eq_false (by omega)
        have hcase := sval_cases l
        have hlS : (digs (sval l).natAbs).length ≤ 500 := by
          have : (sval l).natAbs = (pval l).natAbs := by unfold sval; split <;> omega
          rw [this]; omega
        have hF := fun (w : World) (v : Value) (h : Big w v (pval l)) => flip_any v (pval l) w h (by omega)
        have hTx := fun (w : World) (v : Value) (h : Big w v (sval l)) => r6text_any v (sval l) d.toNat w h (by unfold OkD at h0; omega) (by omega)
        rw [Int.toNat_of_nonneg (show 0 ≤ d by unfold OkD at h0; omega)] at hTx
        have hTo := fun (w : World) (v : Value) (h : Big w v (sval l)) => told_any v (sval l) w h (by omega)
        have HQ : Hid ((dtext (sval l) d.toNat = l ∧ pv = tv (sval l) ∧ pe = te (sval l)) ∨ (¬ dtext (sval l) d.toNat = l ∧ pv = 0 ∧ pe = 5)) := by
          show _ ∨ _
          rw [← HPV.out, ← HPE.out]
          unfold parsev parsee
          rw [if_pos h0, if_pos h0]
          by_cases q : dtext (sval l) d.toNat = l
          · left; exact ⟨q, if_pos q, if_pos q⟩
          · right; exact ⟨q, if_neg q, if_neg q⟩
        clear HPV HPE
        generalize dtext (sval l) d.toNat = T at *
        generalize tv (sval l) = tvv at *; generalize te (sval l) = tee at *
        generalize hY : sval l = Y at *
        generalize hX : pval l = X at *
        generalize hlu : (digs X.natAbs).length = lu at *
        have HV := Lib.hid hv; have HO := Lib.hid ho
        have HL := Lib.hid (And.intro hlu (And.intro e0 hX))
        clear hv hlp hb0 e0 hY hX hlu hlS hk
        obtain ⟨⟨o0, o1, o2⟩, f1, f2⟩ := ho
        have hby : ∀ q, ((bs l)[0]'q).toNat = (l.getD 0 0).toNat := fun q => by
          have h1 : 0 < l.length := by rw [← bs_size]; exact q
          simp [bs, List.getD, h1, ByteArray.getElem_eq_getElem_data]
        have hsz := bs_size l
        generalize (l.getD 0 0).toNat = m0 at *
        clear hd0
        rcases hcase with ⟨h1, rfl⟩ | ⟨h1, rfl, rfl⟩ | ⟨h1, h2, rfl⟩
        · have hp0 : ¬ 0 < l.length := by omega
          have HL1 := Lib.hid h1
          clear h1 hby
          go_wp2_with fail
          have HVy := Lib.hid HV.out; have HOy := Lib.hid HO.out
          have jb := hb
          refine (hTx _ _ HVy.out).mono ?_; rintro e wt ⟨rfl, hbt⟩
          have jt := jb.trans (hbt.mono jb.size)
          have HVt := Lib.hid (HVy.out.below hbt)
          obtain ⟨⟨y0, y1, y2⟩, y3, y4⟩ := HOy.out.below hbt
          clear hbt
          rcases HQ.out with ⟨rfl, rfl, rfl⟩ | ⟨hne, rfl, rfl⟩
          · go_wp2_with fail
            refine (hTo _ _ HVt.out).mono ?_; rintro e wz ⟨rfl, hbz⟩
            go_wp2_with fail
            go_ret2
            exact ⟨rfl, jt.trans (hbz.mono jt.size)⟩
          · have hn1 : ((bs T).toList == (bs l).toList) = false := by rw [bs_toList, bs_toList]; simpa using hne
            go_wp2_with fail
            go_ret2
            exact ⟨rfl, jt⟩
        · have h1' : (0 : Int) < (l.length : Int) := by omega
          have h1'' : 0 < (bs l).size := by omega
          go_wp2_with fail
          refine (hF _ _ HV.out).mono ?_; rintro e wf ⟨uf, rfl, huf, hbf⟩
          have jf := hb.trans (hbf.mono hb.size)
          have HOf := Lib.hid (HO.out.below hbf)
          obtain ⟨af, cf, rfl⟩ := huf.form
          have HVf := Lib.hid huf
          generalize decide (-X < 0) = sf at *
          generalize (digs (-X).natAbs).length = lf at *
          obtain ⟨⟨p0, p1, p2⟩, p3, p4⟩ := HOf.out
          clear huf hbf
          go_wp2_with fail
          have HVy := Lib.hid (HVf.out.put (p := .bool sf) (q := .slice af lf cf) HOf.out.at); have HOy := Lib.hid (HOf.out.put (a := .bool sf) (b := .slice af lf cf))
          have jb := below_set2 (p := .bool sf) (q := .slice af lf cf) jf (Nat.le_refl _)
          refine (hTx _ _ HVy.out).mono ?_; rintro e wt ⟨rfl, hbt⟩
          have jt := jb.trans (hbt.mono jb.size)
          have HVt := Lib.hid (HVy.out.below hbt)
          obtain ⟨⟨y0, y1, y2⟩, y3, y4⟩ := HOy.out.below hbt
          clear hbt
          rcases HQ.out with ⟨rfl, rfl, rfl⟩ | ⟨hne, rfl, rfl⟩
          · go_wp2_with fail
            refine (hTo _ _ HVt.out).mono ?_; rintro e wz ⟨rfl, hbz⟩
            go_wp2_with fail
            go_ret2
            exact ⟨rfl, jt.trans (hbz.mono jt.size)⟩
          · have hn1 : ((bs T).toList == (bs l).toList) = false := by rw [bs_toList, bs_toList]; simpa using hne
            go_wp2_with fail
            go_ret2
            exact ⟨rfl, jt⟩
        · have h1' : (0 : Int) < (l.length : Int) := by omega
          have h1'' : 0 < (bs l).size := by omega
          have h2' : ((m0 : Int) == 45) = false := by simp; omega
          have h2'' : ¬ (m0 : Int) = 45 := by omega
          go_wp2_with fail
          have HVy := Lib.hid HV.out; have HOy := Lib.hid HO.out
          have jb := hb
          refine (hTx _ _ HVy.out).mono ?_; rintro e wt ⟨rfl, hbt⟩
          have jt := jb.trans (hbt.mono jb.size)
          have HVt := Lib.hid (HVy.out.below hbt)
          obtain ⟨⟨y0, y1, y2⟩, y3, y4⟩ := HOy.out.below hbt
          clear hbt
          rcases HQ.out with ⟨rfl, rfl, rfl⟩ | ⟨hne, rfl, rfl⟩
          · go_wp2_with fail
            refine (hTo _ _ HVt.out).mono ?_; rintro e wz ⟨rfl, hbz⟩
            go_wp2_with fail
            go_ret2
            exact ⟨rfl, jt.trans (hbz.mono jt.size)⟩
          · have hn1 : ((bs T).toList == (bs l).toList) = false := by rw [bs_toList, bs_toList]; simpa using hne
            go_wp2_with fail
            go_ret2
            exact ⟨rfl, jt⟩
  · have hq : pv = 0 ∧ pe = 2 := ⟨by rw [← HPV.out]; exact if_neg h0, by rw [← HPE.out]; exact if_neg h0⟩
    rw [hq.1, hq.2]
    clear hq HPV HPE
    rw [decide_eq_false h0] at hm
    clear h0
    go_enter Tryd.func20, Tryd.ntmps20
    go_wp2_with fail
    refine (hm _).mono ?_; rintro e w0 ⟨rfl, rfl⟩
    go_wp2_with fail
    go_ret2
    exact ⟨rfl, Below.refl _ _⟩
end Go.Proofs.YtmmjkbjceocpmaaDoor
