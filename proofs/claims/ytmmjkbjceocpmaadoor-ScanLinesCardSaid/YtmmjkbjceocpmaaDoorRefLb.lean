/-
  What the document's own Line (gavelkindref07) answers. The condition: a text of at most a million bytes.
-/
import Derived.Test.YtmmjkbjceocpmaaDoorRefLa
import Derived.Test.YtmmjkbjceocpmaaDoorRefLb0
namespace Go.Proofs.YtmmjkbjceocpmaaDoor
open Go.RowKit
set_option linter.unusedSimpArgs false
set_option linter.unusedVariables false

theorem take_succ_no {l : List UInt8} {A n : Nat} (hn : A + n < l.length) (h : ¬ (10 : UInt8) ∈ (l.drop A).take n) (hc : ¬ l.getD (A + n) 0 = 10) : ¬ (10 : UInt8) ∈ (l.drop A).take (n + 1) := by
  have hn' : n < (l.drop A).length := by rw [List.length_drop]; omega
  rw [List.take_succ_eq_append_getElem hn', List.mem_append]
  rintro (q | q)
  · exact h q
  · simp at q
    exact hc (by rw [q]; simp [List.getD, hn])
/-- What holds at the loop's head: no end of a line so far. -/
def LineRel (l : List UInt8) (A : Nat) (w : World) (g : Nat) (i : Value) (wr : World) : Prop := Wrap7 <|
  ∃ n : Nat, g = l.length - (A + n) ∧ A + n ≤ l.length ∧ i = .int .i64 ((A + n : Nat) : Int) ∧ Below w.heap.size w wr ∧ ¬ (10 : UInt8) ∈ (l.drop A).take n

set_option maxHeartbeats 2000000 in
theorem r7line_any (l : List UInt8) (a : Int) (hl : l.length ≤ 1000000) (w : World) :
    Calls Tryd.prog 13 #[.string (bs l), .int .i64 a] w fun e w' => e = .returned (.tuple #[.string (bs (lineb l a)), .int .i64 (linen l a), .int .i64 (linee l a)]) ∧ Below w.heap.size w w' := by
  have hsl := bs_size l
  obtain ⟨pb, hpb⟩ : ∃ pb, lineb l a = pb := ⟨_, rfl⟩
  obtain ⟨pn, hpn⟩ : ∃ pn, linen l a = pn := ⟨_, rfl⟩
  obtain ⟨pe, hpe⟩ : ∃ pe, linee l a = pe := ⟨_, rfl⟩
  rw [hpb, hpn, hpe]
  have HP := Lib.hid (And.intro hpb (And.intro hpn hpe))
  clear hpb hpn hpe
  by_cases h : OkA l a
  · obtain ⟨A, rfl⟩ := Int.eq_ofNat_of_zero_le h.1
    have hA : A ≤ l.length := by unfold OkA at h; omega
    have d1 : ¬ (A : Int) < 0 := by omega
    have d2 : ¬ l.length < A := by omega
    have HN : Hid (¬ (10 : UInt8) ∈ l.drop A → pb = [] ∧ pn = 0 ∧ pe = 4) := by
      intro q
      refine ⟨?_, ?_, ?_⟩
      · rw [← HP.out.1]; exact if_neg fun k => q k.2
      · rw [← HP.out.2.1]; exact if_neg fun k => q k.2
      · rw [← HP.out.2.2]; unfold linee; rw [if_pos h]; exact if_neg q
    have HY : Hid (∀ n, A + n < l.length → ¬ (10 : UInt8) ∈ (l.drop A).take n → l.getD (A + n) 0 = 10 → pb = (l.drop A).take n ∧ pn = (A : Int) + n + 1 ∧ pe = 0) := by
      intro n hn h1 h2
      have hn' : n < (l.drop A).length := by rw [List.length_drop]; omega
      have hg : (l.drop A).getD n 0 = 10 := by rw [← h2]; simp [List.getD, List.getElem?_drop]
      have hl := line_at hn' h1 hg
      refine ⟨?_, ?_, ?_⟩
      · rw [← HP.out.1]; unfold lineb; rw [if_pos ⟨h, hl.2⟩]; exact hl.1
      · rw [← HP.out.2.1]; unfold linen; rw [if_pos ⟨h, hl.2⟩, Int.toNat_natCast, hl.1, List.length_take, Nat.min_eq_left (Nat.le_of_lt hn')]
      · rw [← HP.out.2.2]; unfold linee; rw [if_pos h, Int.toNat_natCast, if_pos hl.2]
    clear HP h
    go_enter Tryd.func13, Tryd.ntmps13
    go_wp2_with fail
    go_loopg [7] (l.length - A) (fun g i wr => LineRel l A w g i wr)
    case atStart => exact ⟨⟨0, by omega, by omega, rfl, Below.refl _ _, by simp⟩⟩
    case round =>
      obtain ⟨n, rfl, hn, rfl, hb, hno⟩ := hrel.out
      clear hrel
      obtain ⟨K, hK⟩ : ∃ K, K = A + n := ⟨_, rfl⟩
      rw [← hK] at hn ⊢
      have HK := Lib.hid hK
      have hAK : A ≤ K := by omega
      by_cases hlt : K < l.length
      · have i1 : (0 : Int) ≤ (K : Int) := by omega
        have i2 : (K : Int) < ((bs l).size : Int) := by omega
        have hbl : ∀ q, ((bs l)[K]'q).toNat = (l.getD K 0).toNat := fun q => by simp [bs, List.getD, hlt, ByteArray.getElem_eq_getElem_data]
        have HNO := Lib.hid hno
        have HB := Lib.hid (take_succ_no (l := l) (A := A) (n := n) (by omega) hno)
        rw [← hK] at HB
        have hYn := HY.out n (by omega) hno
        rw [← hK] at hYn
        have HYn := Lib.hid hYn
        clear hYn hK hno
        generalize l.getD K 0 = c at *
        by_cases hc : c = 10
        · have HR := Lib.hid (HYn.out hc)
          have hm : c.toNat = 10 := by rw [hc]; rfl
          have hcut := bs_cut l A K
          have e3 : wrap64 ((K : Int) + 1) = (K : Int) + 1 := by unfold wrap64; omega
          clear hc HB HYn HNO
          generalize c.toNat = m at *
          subst hm
          go_wp2_with fail
          refine bodyPost_ret (v := .tuple #[.string (bs ((l.drop A).take (K - A))), .int .i64 ((K : Int) + 1), .int .i64 0]) (by simp [results, Tryd.results13, go_sem]) rfl ⟨?_, hb⟩
          obtain ⟨r1, r2, r3⟩ := HR.out
          have hk := HK.out
          rw [r1, r2, r3, show K - A = n by omega, show (K : Int) + 1 = (A : Int) + n + 1 by omega]
        · have hm : ¬ c.toNat = 10 := fun q => hc (UInt8.toNat_inj.mp (by rw [q]; rfl))
          have hm' : ((c.toNat : Int) == 10) = false := by simp; omega
          have HB' := Lib.hid (HB.out hc)
          clear hc HB HYn HNO
          generalize c.toNat = m at *
          go_wp2_with fail
          go_roundg (l.length - (A + (n + 1)))
          case measure => have := HK.out; omega
          case rel => exact ⟨⟨n + 1, rfl, by have := HK.out; omega, by have := HK.out; subst this; go_num, hb, HB'.out⟩⟩
      · have hq : ¬ (10 : UInt8) ∈ l.drop A := by rwa [List.take_of_length_le (by rw [List.length_drop]; omega)] at hno
        obtain ⟨r1, r2, r3⟩ := HN.out hq
        have HR := Lib.hid (And.intro r1 (And.intro r2 r3))
        obtain rfl : K = l.length := by omega
        have hd0 : ¬ l.length < l.length := by omega
        clear r1 r2 r3 hq hno hK
        go_wp2_with fail
        refine bodyPost_ret (v := .tuple #[.string (bs []), .int .i64 0, .int .i64 4]) (by simp [results, Tryd.results13, go_sem, bs]) rfl ⟨?_, hb⟩
        obtain ⟨r1, r2, r3⟩ := HR.out
        rw [r1, r2, r3]
  · have hq : pb = [] ∧ pn = 0 ∧ pe = 2 := ⟨by rw [← HP.out.1]; exact if_neg fun k => h k.1, by rw [← HP.out.2.1]; exact if_neg fun k => h k.1, by rw [← HP.out.2.2]; exact if_neg h⟩
    rw [hq.1, hq.2.1, hq.2.2]
    clear hq HP
    rcases Int.lt_or_le a 0 with h1 | h1
    · go_enter Tryd.func13, Tryd.ntmps13
      go_wp2_with fail
      refine bodyPost_ret (v := .tuple #[.string (bs []), .int .i64 0, .int .i64 2]) (by simp [results, Tryd.results13, go_sem, bs]) rfl ⟨rfl, Below.refl _ _⟩
    · obtain ⟨A, rfl⟩ := Int.eq_ofNat_of_zero_le h1
      have d2 : l.length < A := by unfold OkA at h; omega
      have d1 : ¬ (A : Int) < 0 := by omega
      go_enter Tryd.func13, Tryd.ntmps13
      go_wp2_with fail
      refine bodyPost_ret (v := .tuple #[.string (bs []), .int .i64 0, .int .i64 2]) (by simp [results, Tryd.results13, go_sem, bs]) rfl ⟨rfl, Below.refl _ _⟩
end Go.Proofs.YtmmjkbjceocpmaaDoor
