/-
  What the document's own Lit (gavelkindref07) answers. The condition: texts of at most a million bytes.
-/
import Derived.Test.YtmmjkbjceocpmaaDoorChecked
import Derived.Test.YtmmjkbjceocpmaaDoorScnM
import Derived.Deep.LoopGhost
import Derived.Laws.Strings
namespace Go.Proofs.YtmmjkbjceocpmaaDoor
open Go.RowKit
set_option linter.unusedSimpArgs false
set_option linter.unusedVariables false

/-- A fact that 'apply Exists.intro' does not open. -/
structure Wrap7 (p : Prop) : Prop where out : p
/-- What holds at the loop's head: so many bytes are the same. -/
def LitRel (l t : List UInt8) (A : Nat) (w : World) (g : Nat) (i : Value) (wr : World) : Prop := Wrap7 <|
  ∃ k : Nat, g = t.length - k ∧ k ≤ t.length ∧ A + k ≤ l.length ∧ i = .int .i64 (k : Int) ∧ Below w.heap.size w wr ∧ litgo (l.drop A) t = litgo (l.drop (A + k)) (t.drop k)

set_option maxHeartbeats 2000000 in
theorem r7lit_any (l : List UInt8) (a : Int) (t : List UInt8) (hl : l.length ≤ 1000000) (ht : t.length ≤ 1000000) (w : World) :
    Calls Tryd.prog 9 #[.string (bs l), .int .i64 a, .string (bs t)] w fun e w' => e = .returned (.tuple #[.int .i64 (litv l a t), .int .i64 (lite l a t)]) ∧ Below w.heap.size w w' := by
  have hsl := bs_size l; have hst := bs_size t
  obtain ⟨pv, hpv⟩ : ∃ pv, litv l a t = pv := ⟨_, rfl⟩
  obtain ⟨pe, hpe⟩ : ∃ pe, lite l a t = pe := ⟨_, rfl⟩
  rw [hpv, hpe]
  have HP := Lib.hid (And.intro hpv hpe)
  clear hpv hpe
  by_cases h : OkA l a
  · obtain ⟨A, rfl⟩ := Int.eq_ofNat_of_zero_le h.1
    have hA : A ≤ l.length := by unfold OkA at h; omega
    have d1 : ¬ (A : Int) < 0 := by omega
    have d2 : ¬ l.length < A := by omega
    have HQ : Hid (pe = litgo (l.drop A) t ∧ pv = if litgo (l.drop A) t = 0 then (A : Int) + t.length else 0) := by
      refine ⟨?_, ?_⟩
      · rw [← HP.out.2]; unfold lite; rw [if_pos h]; rfl
      · rw [← HP.out.1]; unfold litv
        by_cases q : litgo (l.drop A) t = 0
        · rw [if_pos q, if_pos ⟨h, q⟩]
        · rw [if_neg q, if_neg (fun k => q k.2)]
    clear HP h
    go_enter Tryd.func9, Tryd.ntmps9
    go_wp2_with fail
    go_loopg [8] t.length (fun g i wr => LitRel l t A w g i wr)
    case atStart => exact ⟨⟨0, rfl, Nat.zero_le _, by omega, rfl, Below.refl _ _, by rw [Nat.add_zero, List.drop_zero]⟩⟩
    case round =>
      obtain ⟨k, rfl, hk, hak, rfl, hb, hg⟩ := hrel.out
      clear hrel
      by_cases hlt : k < t.length
      · have i1 : (0 : Int) ≤ (k : Int) := by omega
        have i2 : (k : Int) < ((bs t).size : Int) := by omega
        by_cases hend : A + k = l.length
        · have h4 : litgo (l.drop A) t = 4 := by rw [hg]; exact litgo_short (by rw [hend]; simp) k hlt
          have HR : Hid (pe = 4 ∧ pv = 0) := by
            refine ⟨by rw [HQ.out.1, h4], ?_⟩
            rw [HQ.out.2, h4]; rfl
          have e1 : ((k : Int) == (l.length : Int) - (A : Int)) = true := by simp; omega
          have e2 : wrap64 ((l.length : Int) - (A : Int)) = (k : Int) := by unfold wrap64; omega
          clear hg h4 HQ hend
          go_wp2_with fail
          go_ret2
          exact ⟨by obtain ⟨rfl, rfl⟩ := HR.out; rfl, hb⟩
        · have hin : A + k < l.length := by omega
          have hs := litgo_step A k hin hlt
          rw [← hg] at hs
          have HS := Lib.hid hs
          clear hs hg
          have e2 : wrap64 ((l.length : Int) - (A : Int)) = (l.length : Int) - (A : Int) := by unfold wrap64; omega
          have e1 : ((k : Int) == (l.length : Int) - (A : Int)) = false := by simp; omega
          have e1' : ¬ (k : Int) = (l.length : Int) - (A : Int) := by omega
          have e3 : wrap64 ((A : Int) + (k : Int)) = (A : Int) + (k : Int) := by unfold wrap64; omega
          have e3' : IntKind.i64.wrap ((A : Int) + (k : Int)) = (A : Int) + (k : Int) := by rw [IntKind.wrap_i64]; omega
          have i3 : (0 : Int) ≤ (A : Int) + (k : Int) := by omega
          have i4 : (A : Int) + (k : Int) < ((bs l).size : Int) := by omega
          have hbl : ∀ q, ((bs l)[A + k]'q).toNat = (l.getD (A + k) 0).toNat := fun q => by simp [bs, List.getD, hin, ByteArray.getElem_eq_getElem_data]
          have hbt : ∀ q, ((bs t)[k]'q).toNat = (t.getD k 0).toNat := fun q => by simp [bs, List.getD, hlt, ByteArray.getElem_eq_getElem_data]
          have hn : ((A : Int) + (k : Int)).toNat = A + k := by omega
          generalize l.getD (A + k) 0 = ca at *
          generalize t.getD k 0 = cb at *
          by_cases hc : ca = cb
          · subst hc
            have HS' : Hid (litgo (l.drop A) t = litgo (l.drop (A + (k + 1))) (t.drop (k + 1))) := by have := HS.out; rw [if_pos rfl] at this; exact this
            clear HS
            generalize ca.toNat = m at *
            go_wp2_with fail
            go_region
            go_wp2_with fail
            go_roundg (t.length - (k + 1))
            case measure => omega
            case rel => exact ⟨⟨k + 1, rfl, by omega, by omega, by go_num, hb.drew, HS'.out⟩⟩
          · have HR : Hid (pe = 8 ∧ pv = 0) := by
              have := HS.out
              rw [if_neg hc] at this
              exact ⟨by rw [HQ.out.1, this], by rw [HQ.out.2, this]; rfl⟩
            have hne : ¬ ca.toNat = cb.toNat := fun q => hc (UInt8.toNat_inj.mp q)
            have hne' : ((ca.toNat : Int) == (cb.toNat : Int)) = false := by simp; omega
            clear HS HQ hc
            generalize ca.toNat = m at *
            generalize cb.toNat = m' at *
            go_wp2_with fail
            go_region
            go_wp2_with fail
            go_ret2
            exact ⟨by obtain ⟨rfl, rfl⟩ := HR.out; rfl, hb.drew⟩
      · obtain rfl : k = t.length := by omega
        have hd0 : ¬ t.length < t.length := by omega
        have h0 : litgo (l.drop A) t = 0 := by rw [hg, List.drop_length, litgo_end]
        have HR : Hid (pe = 0 ∧ pv = (A : Int) + t.length) := ⟨by rw [HQ.out.1, h0], by rw [HQ.out.2, if_pos h0]⟩
        have e3 : wrap64 ((A : Int) + (t.length : Int)) = (A : Int) + (t.length : Int) := by unfold wrap64; omega
        clear hg h0 HQ
        go_wp2_with fail
        go_ret2
        exact ⟨by obtain ⟨rfl, rfl⟩ := HR.out; rfl, hb⟩
  · have hq : pv = 0 ∧ pe = 2 := ⟨by rw [← HP.out.1]; exact if_neg fun k => h k.1, by rw [← HP.out.2]; exact if_neg h⟩
    rw [hq.1, hq.2]
    clear hq HP
    rcases Int.lt_or_le a 0 with h1 | h1
    · go_enter Tryd.func9, Tryd.ntmps9
      go_wp2_with fail
      go_ret2
      exact ⟨rfl, Below.refl _ _⟩
    · obtain ⟨A, rfl⟩ := Int.eq_ofNat_of_zero_le h1
      have d2 : l.length < A := by unfold OkA at h; omega
      have d1 : ¬ (A : Int) < 0 := by omega
      go_enter Tryd.func9, Tryd.ntmps9
      go_wp2_with fail
      go_ret2
      exact ⟨rfl, Below.refl _ _⟩
end Go.Proofs.YtmmjkbjceocpmaaDoor
