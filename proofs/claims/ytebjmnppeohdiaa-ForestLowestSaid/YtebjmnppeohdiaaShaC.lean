/-
  What share's own product and Chain answer, for whatever shares (the product: of shares above 0). No conditions besides.
-/
import Derived.Test.YtebjmnppeohdiaaSh1
import Derived.Test.YtebjmnppeohdiaaRt3
import Derived.Deep.LoopGhost
namespace Go.Proofs.Ytebjmnppeohdiaa
open Go.RowKit
set_option linter.unusedSimpArgs false
set_option linter.unusedVariables false

/-- What holds at the product's loop. -/
structure ProdRel (L : List Int) (w : World) (q1 q2 q3 : Int) (i : Value) (wr : World) : Prop where
  out : ∃ (k : Nat) (n d : Int), k ≤ L.length ∧ i = .int .i64 (k : Int) ∧ OkR n d ∧ chn n d (L.drop k) = (q1, q2, q3) ∧ Below w.heap.size w wr ∧ Ow2 wr w.heap.size (.int .i64 0) (.int .i64 0) ∧ Ow2 wr (w.heap.size + 1) (.int .i64 n) (.int .i64 d)

theorem mul_low {n d m f : Int} (ha : OkR n d) (hb : OkR m f) : mulN n d m f = lown (n * m).toNat (d * f).toNat ∧ mulD n d m f = lowd (n * m).toNat (d * f).toNat ∧ mulE n d m f = if LowOk (n * m).toNat (d * f).toNat then 0 else 10 := by
  unfold mulN mulD mulE
  rw [if_pos ⟨ha, hb⟩, if_pos ⟨ha, hb⟩, if_pos ⟨ha, hb⟩]
  exact ⟨rfl, rfl, rfl⟩
theorem share_okr {s : Int} (h : OkS s) (h0 : s ≠ 0) : OkR s 10000 := by unfold OkS at h; unfold OkR; omega

set_option maxHeartbeats 2000000 in
theorem h_product (a : Option Addr) (c : Nat) (L : List Int) (w : World) (hL : Reads w a L) (hn : (L.length : Int) ≤ 9223372036854775807) (hok : ∀ s ∈ L, OkS s) (hz : ¬ (0 : Int) ∈ L) :
    Calls Try.prog 55 #[.slice a L.length c] w fun e w' => e = .returned (.tuple #[.agg #[.int .i64 (chn 1 1 L).1, .int .i64 (chn 1 1 L).2.1], .int .i64 (chn 1 1 L).2.2]) ∧ Below w.heap.size w w' := by
  have HV : Hid (chn 1 1 L = ((chn 1 1 L).1, (chn 1 1 L).2.1, (chn 1 1 L).2.2)) := rfl
  generalize (chn 1 1 L).1 = q1 at *; generalize (chn 1 1 L).2.1 = q2 at *; generalize (chn 1 1 L).2.2 = q3 at *
  have H0 : Hid (ProdRel L w q1 q2 q3 (.int .i64 0) ((w.alloc (.cells #[.int .i64 0, .int .i64 0] 43)).alloc (.cells #[.int .i64 1, .int .i64 1] 43))) :=
    ⟨⟨0, 1, 1, Nat.zero_le _, rfl, by decide, HV.out, below2 _ _ _, (Ow2.new w _ _ _).alloc _, Ow2.new2 w _ _ _ _⟩⟩
  have HL := Lib.hid hL; clear hL HV
  have HK := Lib.hid hok; clear hok
  have HZ := Lib.hid hz; clear hz
  go_enter Try.func55, Try.ntmps55
  go_wp2_with fail
  go_loopw [11] (fun i wr => ProdRel L w q1 q2 q3 i wr) (fun i _ => L.length - (intOf i).toNat)
  case atStart => exact H0.out
  case round =>
    clear H0
    obtain ⟨k, n, d, hk, rfl, hr, hv, hb, ho, hq⟩ := hrel.out
    clear hrel
    have HR := Lib.hid hr; have HV := Lib.hid hv
    clear hr hv
    by_cases hlt : k < L.length
    · obtain ⟨b, off, rfl, hc⟩ := (HL.out.below hb).2 k hlt
      have i0 : (0 : Int) ≤ (k : Int) := by omega
      have i1 : (k : Int) < (L.length : Int) := by omega
      have HZ' : Hid (OkS (L.getD k 0) ∧ L.getD k 0 ≠ 0) := by
        rw [getD_lt _ _ hlt]
        exact ⟨HK.out _ (List.getElem_mem hlt), fun q => HZ.out (q ▸ List.getElem_mem hlt)⟩
      have HD : Hid (L.drop k = L.getD k 0 :: L.drop (k + 1)) := by
        show _ = _
        rw [getD_lt _ _ hlt]; exact List.drop_eq_getElem_cons hlt
      generalize L.getD k 0 = z at *
      have ht := c_times n d z 10000
      have hm := mul_low HR.out (share_okr HZ'.out.1 HZ'.out.2)
      rw [hm.1, hm.2.1, hm.2.2] at ht
      clear hm
      have HQ : Hid ((LowOk (n * z).toNat (d * 10000).toNat ∧ OkR (lown (n * z).toNat (d * 10000).toNat) (lowd (n * z).toNat (d * 10000).toNat) ∧ chn (lown (n * z).toNat (d * 10000).toNat) (lowd (n * z).toNat (d * 10000).toNat) (L.drop (k + 1)) = (q1, q2, q3)) ∨ (¬ LowOk (n * z).toNat (d * 10000).toNat ∧ q1 = 0 ∧ q2 = 0 ∧ q3 = 10)) := by
        have e := HV.out
        rw [HD.out] at e
        by_cases h : LowOk (n * z).toNat (d * 10000).toNat
        · exact Or.inl ⟨h, chn_okr HR.out HZ'.out.1 HZ'.out.2 h, by rw [chn_ok h] at e; exact e⟩
        · rw [chn_no h] at e
          simp at e
          exact Or.inr ⟨h, e.1.symm, e.2.1.symm, e.2.2.symm⟩
      have hc' := Lib.hid hc
      obtain ⟨⟨x0, x1, x2⟩, x3, x4⟩ := hq
      have HO := Lib.hid ho; clear ho
      rcases HQ.out with ⟨hl, hro, hrv⟩ | ⟨hl, rfl, rfl, rfl⟩
      · rw [if_pos hl] at ht
        have HN := Lib.hid (And.intro hro hrv)
        clear hl hro hrv HQ
        generalize lown (n * z).toNat (d * 10000).toNat = rn at *; generalize lowd (n * z).toNat (d * 10000).toNat = rd at *
        have HW := Lib.hid (show Ow2 wr (w.heap.size + 1) (.int .i64 n) (.int .i64 d) from ⟨⟨x0, x1, x2⟩, x3, x4⟩)
        go_wp2_with fail
        refine (ht _).mono ?_; rintro e w1 ⟨rfl, hb1⟩
        have HW1 := Lib.hid (HW.out.below hb1)
        have HO1 := Lib.hid (HO.out.below hb1)
        replace hb := hb.trans (hb1.mono hb.size)
        clear x0 x1 x2 x3 x4 hb1 hc
        obtain ⟨⟨x0, x1, x2⟩, x3, x4⟩ := HW1.out
        go_wp2_with fail
        go_roundw
        · exact ⟨⟨k + 1, rn, rd, by omega, by go_num, HN.out.1, HN.out.2, below_set2 hb (by omega), HO1.out.setne (by omega), HW1.out.put⟩⟩
        · simp [intOf]; omega
      · rw [if_neg hl] at ht
        clear hl HQ
        have HW := Lib.hid (show Ow2 wr (w.heap.size + 1) (.int .i64 n) (.int .i64 d) from ⟨⟨x0, x1, x2⟩, x3, x4⟩)
        generalize lown (n * z).toNat (d * 10000).toNat = rn at *; generalize lowd (n * z).toNat (d * 10000).toNat = rd at *
        go_wp2_with fail
        refine (ht _).mono ?_; rintro e w1 ⟨rfl, hb1⟩
        have HW1 := Lib.hid (HW.out.below hb1)
        have HO1 := Lib.hid (HO.out.below hb1)
        replace hb := hb.trans (hb1.mono hb.size)
        clear x0 x1 x2 x3 x4 hb1 hc
        obtain ⟨⟨x0, x1, x2⟩, x3, x4⟩ := HW1.out
        obtain ⟨⟨o0, o1, o2⟩, f1, f2⟩ := HO1.out
        have hne : ¬ (w.heap.size = w.heap.size + 1) := by omega
        go_wp2_with fail
        refine bodyPost_ret (v := .tuple #[.agg #[.int .i64 0, .int .i64 0], .int .i64 10]) (by simp [results, Try.results55, go_sem, o0, o1]) rfl ⟨rfl, ?_⟩
        exact below_set2 (below_set2 hb (by omega)) (Nat.le_refl _)
    · obtain rfl : k = L.length := by omega
      have HQ : Hid (q1 = n ∧ q2 = d ∧ q3 = 0) := by
        have e := HV.out
        rw [List.drop_length, chn_end] at e
        simp at e
        exact ⟨e.1.symm, e.2.1.symm, e.2.2.symm⟩
      have hd0 : decide ((L.length : Int) < (L.length : Int)) = false := decide_eq_false (by omega)
      clear HV HR
      obtain ⟨⟨o0, o1, o2⟩, f1, f2⟩ := ho
      obtain ⟨⟨x0, x1, x2⟩, x3, x4⟩ := hq
      go_wp2_with fail
      refine bodyPost_ret (v := .tuple #[.agg #[.int .i64 n, .int .i64 d], .int .i64 0]) (by simp [results, Try.results55, go_sem, o0, o1]) rfl ⟨?_, ?_⟩
      · obtain ⟨rfl, rfl, rfl⟩ := HQ.out; rfl
      · exact below_set2 hb (Nat.le_refl _)

theorem chain_bad {L : List Int} (h : ¬ ∀ s ∈ L, OkS s) : chainv L = (0, 0, 12) := if_neg h
theorem chain_nil {L : List Int} (h : ∀ s ∈ L, OkS s) (hz : (0 : Int) ∈ L) : chainv L = (0, 1, 0) := by unfold chainv; rw [if_pos h, if_pos hz]
theorem chain_on {L : List Int} (h : ∀ s ∈ L, OkS s) (hz : ¬ (0 : Int) ∈ L) : chainv L = chn 1 1 L := by unfold chainv; rw [if_pos h, if_neg hz]

set_option maxHeartbeats 2000000 in
theorem h_chain (a : Option Addr) (c : Nat) (L : List Int) (w : World) (hL : Reads w a L) (hn : (L.length : Int) ≤ 9223372036854775807) :
    Calls Try.prog 44 #[.slice a L.length c] w fun e w' => e = .returned (.tuple #[.agg #[.int .i64 (chainv L).1, .int .i64 (chainv L).2.1], .int .i64 (chainv L).2.2]) ∧ Below w.heap.size w w' := by
  have hmf : ∀ (fn : Fn) (first cap : Array Value) (w : World), (Instr.makeFunc fn first cap).run Try.prog w = .ok (.func fn first cap) w := fun _ _ _ _ => rfl
  have K1 := (Keeps.start w).new (.int .i64 0) (.int .i64 0) 43
  have HL1 := hL.alloc (.cells #[.int .i64 0, .int .i64 0] 43)
  have ho := Ow2.new w (.int .i64 0) (.int .i64 0) 43
  have h1 := h_containsf a c L _ HL1 hn
  have h2 := h_contains a c L _ HL1 hn
  have h3 := h_product a c L _ HL1 hn
  clear HL1 hL
  have HO := Lib.hid ho; have KH := Lib.hid K1
  clear K1
  by_cases hok : ∀ s ∈ L, OkS s
  · rw [decide_eq_true hok] at h1
    by_cases hz : (0 : Int) ∈ L
    · rw [chain_nil hok hz]
      rw [decide_eq_true hz] at h2
      clear h3 hok hz
      go_enter Try.func44, Try.ntmps44
      go_wp2_with fail
      refine h1.mono ?_; rintro e w0 ⟨rfl, rfl⟩
      go_wp2_with fail
      refine h2.mono ?_; rintro e w0 ⟨rfl, rfl⟩
      obtain ⟨⟨o0, o1, o2⟩, f1, f2⟩ := HO.out
      go_wp2_with fail
      refine bodyPost_ret (v := .tuple #[.agg #[.int .i64 0, .int .i64 1], .int .i64 0]) (by simp [results, Try.results44, go_sem, o0, o1]) rfl ⟨rfl, ?_⟩
      exact below1 _ _
    · rw [chain_on hok hz]
      rw [decide_eq_false hz] at h2
      replace h3 := h3 hok hz
      clear hok hz
      generalize (chn 1 1 L).1 = q1 at *; generalize (chn 1 1 L).2.1 = q2 at *; generalize (chn 1 1 L).2.2 = q3 at *
      go_enter Try.func44, Try.ntmps44
      go_wp2_with fail
      refine h1.mono ?_; rintro e w0 ⟨rfl, rfl⟩
      go_wp2_with fail
      refine h2.mono ?_; rintro e w0 ⟨rfl, rfl⟩
      go_wp2_with fail
      refine h3.mono ?_; rintro e w1 ⟨rfl, hb1⟩
      have K2 := KH.out.below hb1
      obtain ⟨⟨o0, o1, o2⟩, f1, f2⟩ := HO.out.below hb1
      go_wp2_with fail
      refine bodyPost_ret (v := .tuple #[.agg #[.int .i64 q1, .int .i64 q2], .int .i64 q3]) (by simp [results, Try.results44, go_sem, o0, o1]) rfl ⟨rfl, ?_⟩
      exact below_set2 K2.1 (Nat.le_refl _)
  · rw [chain_bad hok]
    rw [decide_eq_false hok] at h1
    clear hok h2 h3
    go_enter Try.func44, Try.ntmps44
    go_wp2_with fail
    refine h1.mono ?_; rintro e w0 ⟨rfl, rfl⟩
    obtain ⟨⟨o0, o1, o2⟩, f1, f2⟩ := HO.out
    go_wp2_with fail
    refine bodyPost_ret (v := .tuple #[.agg #[.int .i64 0, .int .i64 0], .int .i64 12]) (by simp [results, Try.results44, go_sem, o0, o1]) rfl ⟨rfl, ?_⟩
    exact below1 _ _
end Go.Proofs.Ytebjmnppeohdiaa
