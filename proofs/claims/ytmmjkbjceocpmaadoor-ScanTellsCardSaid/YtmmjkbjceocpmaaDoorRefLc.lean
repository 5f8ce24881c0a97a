/-
  What the document's own Digits and Num (gavelkindref07) answer. The condition of Num: a text of at most 500 bytes.
-/
import Derived.Test.YtmmjkbjceocpmaaDoorRefLb
import Derived.Test.YtmmjkbjceocpmaaDoorRefDc
import Derived.Deep.DeepCutAuto
namespace Go.Proofs.YtmmjkbjceocpmaaDoor
open Go.RowKit
set_option linter.unusedSimpArgs false
set_option linter.unusedVariables false

set_option maxHeartbeats 1000000 in
theorem r7digits_any (n : Int) (hn : InR n) (w : World) :
    Calls Tryd.prog 15 #[.int .i64 n] w fun e w' => e = .returned (.string (bs (dtext n 0))) ∧ Below w.heap.size w w' := by
  have ln := digs_19 hn
  have hO := of_any n hn
  have hT := fun (w : World) (v : Value) (hv : Big w v n) => r6text_any v n 0 w hv (by omega) (by omega)
  rw [Int.natCast_zero] at hT
  generalize dtext n 0 = T at *
  clear hn ln
  go_enter Tryd.func15, Tryd.ntmps15
  go_wp2_with fail
  refine (hO _).mono ?_; rintro e w1 ⟨u1, rfl, hu1, hb1⟩
  go_wp2_with fail
  refine (hT _ _ hu1).mono ?_; rintro e w2 ⟨rfl, hb2⟩
  go_wp2_with fail
  go_ret
  exact ⟨rfl, hb1.trans (hb2.mono hb1.size)⟩

/-- All that Num may tell. -/
theorem num_cases (l : List UInt8) (A : Nat) (lo hi : Int) (hA : A ≤ l.length) :
    (nend l A = nfirst l A ∧ nend l A = l.length ∧ numv l A lo hi = 0 ∧ numk l A lo hi = 0 ∧ nume l A lo hi = 4) ∨
    (nend l A = nfirst l A ∧ ¬ nend l A = l.length ∧ numv l A lo hi = 0 ∧ numk l A lo hi = 0 ∧ nume l A lo hi = 5) ∨
    (¬ nend l A = nfirst l A ∧ parsee (numt l A) 0 = 5 ∧ numv l A lo hi = 0 ∧ numk l A lo hi = 0 ∧ nume l A lo hi = 5) ∨
    (¬ nend l A = nfirst l A ∧ ¬ parsee (numt l A) 0 = 5 ∧ ¬ parsee (numt l A) 0 = 0 ∧ numv l A lo hi = 0 ∧ numk l A lo hi = 0 ∧ nume l A lo hi = 7) ∨
    (¬ nend l A = nfirst l A ∧ parsee (numt l A) 0 = 0 ∧ parsev (numt l A) 0 < lo ∧ numv l A lo hi = 0 ∧ numk l A lo hi = 0 ∧ nume l A lo hi = 7) ∨
    (¬ nend l A = nfirst l A ∧ parsee (numt l A) 0 = 0 ∧ lo ≤ parsev (numt l A) 0 ∧ hi < parsev (numt l A) 0 ∧ numv l A lo hi = 0 ∧ numk l A lo hi = 0 ∧ nume l A lo hi = 7) ∨
    (¬ nend l A = nfirst l A ∧ parsee (numt l A) 0 = 0 ∧ lo ≤ parsev (numt l A) 0 ∧ parsev (numt l A) 0 ≤ hi ∧ numv l A lo hi = parsev (numt l A) 0 ∧ numk l A lo hi = nend l A ∧ nume l A lo hi = 0) := by
  have ho : OkA l A := by unfold OkA; omega
  unfold numv numk nume
  rw [Int.toNat_natCast]
  simp only [if_pos ho]
  generalize parsee (numt l A) 0 = e; generalize parsev (numt l A) 0 = v
  generalize nend l A = N; generalize nfirst l A = F
  by_cases h1 : N = F
  · by_cases h2 : N = l.length
    · left; simp_all
    · right; left; simp_all
  · by_cases h2 : e = 5
    · right; right; left; simp_all
    · by_cases h3 : e = 0
      · rcases Int.lt_or_le v lo with h4 | h4
        · right; right; right; right; left
          have : ¬ (lo ≤ v ∧ v ≤ hi) := by omega
          simp [h1, h3, h4, this]
        · rcases Int.lt_or_le hi v with h5 | h5
          · right; right; right; right; right; left
            have : ¬ v ≤ hi := by omega
            simp_all
          · right; right; right; right; right; right
            simp_all
      · right; right; right; left; simp_all
/-- What holds at the loop's head: digits alone so far. -/
def NumRel (l : List UInt8) (F : Nat) (w : World) (g : Nat) (i : Value) (wr : World) : Prop := Wrap7 <|
  ∃ n : Nat, g = l.length - (F + n) ∧ F + n ≤ l.length ∧ i = .int .i64 ((F + n : Nat) : Int) ∧ Below w.heap.size w wr ∧ ∀ b ∈ (l.drop F).take n, isd b = true
theorem tw_len : ∀ (m : List UInt8) (n : Nat), n ≤ m.length → (∀ b ∈ m.take n, isd b = true) → (n = m.length ∨ isd (m.getD n 0) = false) → (m.takeWhile isd).length = n
  | [], n, h, _, _ => by simp at h; simp [h]
  | b :: r, 0, _, _, h => by
    rcases h with h | h
    · simp at h
    · simp at h; rw [List.takeWhile_cons, h]; rfl
  | b :: r, n + 1, hn, ha, h => by
    have hb : isd b = true := ha b (by simp)
    rw [List.takeWhile_cons, hb]
    have := tw_len r n (by simpa using hn) (fun c hc => ha c (by simp [hc])) (by simpa using h)
    simp [this]
theorem take_succ_all {l : List UInt8} {F n : Nat} (hn : F + n < l.length) (h : ∀ b ∈ (l.drop F).take n, isd b = true) (hc : isd (l.getD (F + n) 0) = true) : ∀ b ∈ (l.drop F).take (n + 1), isd b = true := by
  have hn' : n < (l.drop F).length := by rw [List.length_drop]; omega
  rw [List.take_succ_eq_append_getElem hn']
  intro b hb
  rcases List.mem_append.mp hb with q | q
  · exact h b q
  · simp at q
    rw [q]; simpa [List.getD, hn] using hc

set_option maxHeartbeats 4000000 in
theorem r7num_ok (l : List UInt8) (A : Nat) (lo hi : Int) (hA : A ≤ l.length) (hl : l.length ≤ 500) (w : World) :
    Calls Tryd.prog 11 #[.string (bs l), .int .i64 (A : Int), .int .i64 lo, .int .i64 hi] w fun e w' => e = .returned (.tuple #[.int .i64 (numv l A lo hi), .int .i64 (numk l A lo hi), .int .i64 (nume l A lo hi)]) ∧ Below w.heap.size w w' := by
  have hsl := bs_size l
  obtain ⟨pv, hpv⟩ : ∃ pv, numv l A lo hi = pv := ⟨_, rfl⟩
  obtain ⟨pk, hpk⟩ : ∃ pk, numk l A lo hi = pk := ⟨_, rfl⟩
  obtain ⟨pe, hpe⟩ : ∃ pe, nume l A lo hi = pe := ⟨_, rfl⟩
  rw [hpv, hpk, hpe]
  have HP := Lib.hid (And.intro hpv (And.intro hpk hpe))
  clear hpv hpk hpe
  have HQ := Lib.hid (num_cases l A lo hi hA)
  rw [HP.out.1, HP.out.2.1, HP.out.2.2] at HQ
  clear HP
  have d1 : ¬ (A : Int) < 0 := by omega
  have d2 : ¬ l.length < A := by omega
  obtain ⟨F, hF⟩ : ∃ F, F = nfirst l A := ⟨_, rfl⟩
  have HF : Hid (F = if decide (l.getD A 0 = 45 ∧ A < l.length) then A + 1 else A) := by
    show _ = _
    rw [hF]; unfold nfirst
    by_cases q : l.getD A 0 = 45 ∧ A < l.length
    · rw [if_pos q, decide_eq_true q]; rfl
    · rw [if_neg q, decide_eq_false q]; rfl
  have hFl : F ≤ l.length := by
    rw [hF]; unfold nfirst; split <;> omega
  have HFe := Lib.hid hF
  clear hF
  obtain ⟨bn, hbn⟩ : ∃ bn, bn = decide (l.getD A 0 = 45 ∧ A < l.length) := ⟨_, rfl⟩
  rw [← hbn] at HF
  have HBN := Lib.hid hbn
  clear hbn
  go_enter Tryd.func11, Tryd.ntmps11
  go_upto_region 4 with fail
  go_cut [33] (fun s wx => s = .bool bn ∧ wx = w)
  case first =>
    by_cases hlt : A < l.length
    · have i1 : (0 : Int) ≤ (A : Int) := by omega
      have i2 : (A : Int) < ((bs l).size : Int) := by omega
      have hbl : ∀ q, ((bs l)[A]'q).toNat = (l.getD A 0).toNat := fun q => by simp [bs, List.getD, hlt, ByteArray.getElem_eq_getElem_data]
      by_cases hc : l.getD A 0 = 45
      · have HB : Hid (bn = true) := by show _ = _; rw [HBN.out]; exact decide_eq_true ⟨hc, hlt⟩
        have hm : (l.getD A 0).toNat = 45 := by rw [hc]; rfl
        rw [hm] at hbl
        clear hm hc
        go_wp2_with fail
        go_meet
        exact ⟨by rw [HB.out], rfl⟩
      · have HB : Hid (bn = false) := by show _ = _; rw [HBN.out]; exact decide_eq_false fun k => hc k.1
        have hm : ¬ (l.getD A 0).toNat = 45 := fun q => hc (UInt8.toNat_inj.mp (by rw [q]; rfl))
        generalize (l.getD A 0).toNat = m at *
        have hm' : ((m : Int) == 45) = false := by simp; omega
        clear hc
        go_wp2_with fail
        go_meet
        exact ⟨by rw [HB.out], rfl⟩
    · have HB : Hid (bn = false) := by show _ = _; rw [HBN.out]; exact decide_eq_false fun k => hlt k.2
      go_wp2_with fail
      go_meet
      exact ⟨by rw [HB.out], rfl⟩
  case rest =>
    obtain ⟨rfl, rfl⟩ := hcut
    clear HBN
    go_upto_if 33 with fail
    go_cut [11] (fun s wx => s = .int .i64 (F : Int) ∧ wx = wc)
    case first =>
      cases bn
      · have hf := HF.out
        have HF' : Hid (F = A) := by rw [hf]; rfl
        clear hf HF
        go_wp2_with fail
        go_meet
        exact ⟨by rw [HF'.out], rfl⟩
      · have hf := HF.out
        have HF' : Hid (F = A + 1) := by rw [hf]; rfl
        clear hf HF
        have e3 : wrap64 ((A : Int) + 1) = (A : Int) + 1 := by unfold wrap64; omega
        go_wp2_with fail
        go_meet
        exact ⟨by rw [HF'.out]; rfl, rfl⟩
    case rest =>
      obtain ⟨rfl, rfl⟩ := hcut
      clear HF
      have H0 : Hid (NumRel l F wc (l.length - F) (.int .i64 (F : Int)) wc) := ⟨⟨0, rfl, hFl, rfl, Below.refl _ _, by simp⟩⟩
      have hPa := r6parse_any (numt l A) 0 (by unfold numt; rw [List.length_take, List.length_drop]; omega)
      go_wp2_with fail
      go_loopg [11] (l.length - F) (fun g i wr => NumRel l F wc g i wr)
      case atStart => exact H0.out
      case round =>
        clear H0
        obtain ⟨n, rfl, hn, rfl, hb, hall⟩ := hrel.out
        clear hrel
        obtain ⟨K, hK⟩ : ∃ K, K = F + n := ⟨_, rfl⟩
        rw [← hK] at hn ⊢
        have HK := Lib.hid hK
        have HA := Lib.hid hall
        clear hall
        obtain ⟨bd, hbd⟩ : ∃ bd, bd = decide (K < l.length ∧ isd (l.getD K 0) = true) := ⟨_, rfl⟩
        have HBD := Lib.hid hbd
        clear hbd hK
        go_upto_region 7 with fail
        go_cut [52] (fun s wx => s = .bool bd ∧ wx = wr)
        case first =>
          by_cases hlt : K < l.length
          · have i1 : (0 : Int) ≤ (K : Int) := by omega
            have i2 : (K : Int) < ((bs l).size : Int) := by omega
            have hbl : ∀ q, ((bs l)[K]'q).toNat = (l.getD K 0).toNat := fun q => by simp [bs, List.getD, hlt, ByteArray.getElem_eq_getElem_data]
            have HB : Hid (bd = (decide (48 ≤ (l.getD K 0).toNat) && decide ((l.getD K 0).toNat ≤ 57))) := by
              show _ = _
              rw [HBD.out]; simp [hlt, isd]
            generalize (l.getD K 0).toNat = m at *
            rcases Nat.lt_or_ge m 48 with h1 | h1
            · have h2 : ¬ 48 ≤ m := by omega
              have HB' : Hid (bd = false) := by show _ = _; rw [HB.out, decide_eq_false h2]; rfl
              clear HB HBD
              go_wp2_with fail
              go_meet
              exact ⟨by rw [HB'.out] <;> first | rfl | (congr 1; first | (exact decide_eq_false (by omega)) | (exact decide_eq_true (by omega))), rfl⟩
            · rcases Nat.lt_or_ge 57 m with h3 | h3
              · have h4 : ¬ m ≤ 57 := by omega
                have HB' : Hid (bd = false) := by show _ = _; rw [HB.out, decide_eq_false h4]; simp
                clear HB HBD
                go_wp2_with fail
                go_meet
                exact ⟨by rw [HB'.out] <;> first | rfl | (congr 1; first | (exact decide_eq_false (by omega)) | (exact decide_eq_true (by omega))), rfl⟩
              · have HB' : Hid (bd = true) := by show _ = _; rw [HB.out, decide_eq_true h1, decide_eq_true h3]; rfl
                clear HB HBD
                go_wp2_with fail
                go_meet
                exact ⟨by rw [HB'.out] <;> first | rfl | (congr 1; first | (exact decide_eq_false (by omega)) | (exact decide_eq_true (by omega))), rfl⟩
          · have HB' : Hid (bd = false) := by show _ = _; rw [HBD.out]; exact decide_eq_false fun k => hlt k.1
            clear HBD
            go_wp2_with fail
            go_meet
            exact ⟨by rw [HB'.out] <;> first | rfl | (congr 1; first | (exact decide_eq_false (by omega)) | (exact decide_eq_true (by omega))), rfl⟩
        case rest =>
          obtain ⟨rfl, rfl⟩ := hcut
          cases bd
          · have hend : nend l A = K := by
              unfold nend
              rw [← HFe.out, HK.out]
              have hq := HBD.out
              have : n = (l.drop F).length ∨ isd ((l.drop F).getD n 0) = false := by
                have e : (l.drop F).getD n 0 = l.getD (F + n) 0 := by simp [List.getD, List.getElem?_drop]
                rw [e, ← HK.out]
                by_cases q : K < l.length
                · right
                  have := of_decide_eq_false hq.symm
                  simpa [q] using this
                · left; rw [List.length_drop]; have := HK.out; omega
              rw [tw_len _ n (by rw [List.length_drop]; have := HK.out; omega) HA.out this]
            have hcut := bs_cut l A K
            have hnt : numt l A = (l.drop A).take (K - A) := by unfold numt; rw [hend]
            have hAK : A ≤ K := by have h1 := HK.out; have h2 := HFe.out; unfold nfirst at h2; split at h2 <;> omega
            rw [← hnt] at hcut
            rw [hend, ← HFe.out] at HQ
            generalize parsev (numt l A) 0 = v5 at *; generalize parsee (numt l A) 0 = e5 at *
            generalize numt l A = nt at *
            clear hend hnt HA HBD HFe HK
            rcases HQ.out with ⟨q1, q2, rfl, rfl, rfl⟩ | ⟨q1, q2, rfl, rfl, rfl⟩ | ⟨q1, rfl, rfl, rfl, rfl⟩ | ⟨q1, q2, q3, rfl, rfl, rfl⟩ | ⟨q1, rfl, q3, rfl, rfl, rfl⟩ | ⟨q1, rfl, q3, q4, rfl, rfl, rfl⟩ | ⟨q1, rfl, q3, q4, rfl, rfl, rfl⟩
            · clear HQ
              subst q1
              subst q2
              go_wp2_with fail
              refine bodyPost_ret (v := .tuple #[.int .i64 0, .int .i64 0, .int .i64 4]) (by simp [results, Tryd.results11, go_sem]) rfl ⟨rfl, hb⟩
            · clear HQ
              subst q1
              go_wp2_with fail
              refine bodyPost_ret (v := .tuple #[.int .i64 0, .int .i64 0, .int .i64 5]) (by simp [results, Tryd.results11, go_sem]) rfl ⟨rfl, hb⟩
            · clear HQ
              go_wp2_with fail
              refine (hPa _).mono ?_; rintro e w5 ⟨rfl, hb5⟩
              go_wp2_with fail
              refine bodyPost_ret (v := .tuple #[.int .i64 0, .int .i64 0, .int .i64 5]) (by simp [results, Tryd.results11, go_sem]) rfl ⟨rfl, hb.trans (hb5.mono hb.size)⟩
            · clear HQ
              have n1 : (e5 == 5) = false := by simpa using q2
              have n2 : (e5 == 0) = false := by simpa using q3
              go_wp2_with fail
              refine (hPa _).mono ?_; rintro e w5 ⟨rfl, hb5⟩
              go_wp2_with fail
              refine bodyPost_ret (v := .tuple #[.int .i64 0, .int .i64 0, .int .i64 7]) (by simp [results, Tryd.results11, go_sem]) rfl ⟨rfl, hb.trans (hb5.mono hb.size)⟩
            · clear HQ
              go_wp2_with fail
              refine (hPa _).mono ?_; rintro e w5 ⟨rfl, hb5⟩
              go_wp2_with fail
              refine bodyPost_ret (v := .tuple #[.int .i64 0, .int .i64 0, .int .i64 7]) (by simp [results, Tryd.results11, go_sem]) rfl ⟨rfl, hb.trans (hb5.mono hb.size)⟩
            · clear HQ
              have n3 : ¬ v5 < lo := by omega
              go_wp2_with fail
              refine (hPa _).mono ?_; rintro e w5 ⟨rfl, hb5⟩
              go_wp2_with fail
              refine bodyPost_ret (v := .tuple #[.int .i64 0, .int .i64 0, .int .i64 7]) (by simp [results, Tryd.results11, go_sem]) rfl ⟨rfl, hb.trans (hb5.mono hb.size)⟩
            · clear HQ
              have n3 : ¬ pv < lo := by omega
              have n4 : ¬ hi < pv := by omega
              go_wp2_with fail
              refine (hPa _).mono ?_; rintro e w5 ⟨rfl, hb5⟩
              go_wp2_with fail
              refine bodyPost_ret (v := .tuple #[.int .i64 pv, .int .i64 (K : Int), .int .i64 0]) (by simp [results, Tryd.results11, go_sem]) rfl ⟨rfl, hb.trans (hb5.mono hb.size)⟩
          · have hq := of_decide_eq_true HBD.out.symm
            have HR := Lib.hid (take_succ_all (l := l) (F := F) (n := n) (by have := HK.out; omega) HA.out (by rw [← HK.out]; exact hq.2))
            have hlt := hq.1
            clear hq HBD HA
            have e3 : wrap64 ((K : Int) + 1) = (K : Int) + 1 := by unfold wrap64; omega
            go_wp2_with fail
            go_roundg (l.length - (F + (n + 1)))
            case measure => have := HK.out; omega
            case rel => exact ⟨⟨n + 1, rfl, by have := HK.out; omega, by have := HK.out; subst this; go_num, hb, HR.out⟩⟩

set_option maxHeartbeats 1000000 in
theorem r7num_any (l : List UInt8) (a lo hi : Int) (hl : l.length ≤ 500) (w : World) :
    Calls Tryd.prog 11 #[.string (bs l), .int .i64 a, .int .i64 lo, .int .i64 hi] w fun e w' => e = .returned (.tuple #[.int .i64 (numv l a lo hi), .int .i64 (numk l a lo hi), .int .i64 (nume l a lo hi)]) ∧ Below w.heap.size w w' := by
  by_cases h : OkA l a
  · obtain ⟨A, rfl⟩ := Int.eq_ofNat_of_zero_le h.1
    exact r7num_ok l A lo hi (by unfold OkA at h; omega) hl w
  · have he : nume l a lo hi = 2 := if_neg h
    have hv : numv l a lo hi = 0 := by unfold numv; rw [he]; rfl
    have hk : numk l a lo hi = 0 := by unfold numk; rw [he]; rfl
    rw [he, hv, hk]
    clear he hv hk
    have hsl := bs_size l
    rcases Int.lt_or_le a 0 with h1 | h1
    · go_enter Tryd.func11, Tryd.ntmps11
      go_wp2_with fail
      refine bodyPost_ret (v := .tuple #[.int .i64 0, .int .i64 0, .int .i64 2]) (by simp [results, Tryd.results11, go_sem]) rfl ⟨rfl, Below.refl _ _⟩
    · obtain ⟨A, rfl⟩ := Int.eq_ofNat_of_zero_le h1
      have d2 : l.length < A := by unfold OkA at h; omega
      have d1 : ¬ (A : Int) < 0 := by omega
      go_enter Tryd.func11, Tryd.ntmps11
      go_wp2_with fail
      refine bodyPost_ret (v := .tuple #[.int .i64 0, .int .i64 0, .int .i64 2]) (by simp [results, Tryd.results11, go_sem]) rfl ⟨rfl, Below.refl _ _⟩
end Go.Proofs.YtmmjkbjceocpmaaDoor
