/-
  ScanParts of layer 7 answers true, for whatever text, out of the contracts of scan's own calls. The conditions: the contracts.
-/
import Derived.Test.YtmmjkbjceocpmaaDoorScnC
import Derived.Test.YtmmjkbjceocpmaaDoorRefLb
import Derived.Deep.QuietTactic
import Derived.BigQuiet
import Derived.WalkSmall
import Derived.Deep.RegionWith
import Derived.Deep.RegionHeld3
import Derived.Deep.DeepCutAuto
namespace Go.Proofs.YtmmjkbjceocpmaaDoor
open Go.RowKit
set_option linter.unusedSimpArgs false
set_option linter.unusedVariables false

/-- What holds at the loops' heads. -/
def PartRel (l : List UInt8) (w : World) (g : Nat) (al at' n : Value) (wr : World) : Prop := Wrap7 <|
  ∃ A N : Nat, g = l.length - A ∧ A ≤ l.length ∧ N ≤ A ∧ al = .string (bs (l.take A)) ∧ at' = .int .i64 (A : Int) ∧ n = .int .i64 (N : Int) ∧ Below w.heap.size w wr
def PartIn (B : List UInt8) (w : World) (g : Nat) (i : Value) (wr : World) : Prop := Wrap7 <|
  ∃ I : Nat, g = B.length - I ∧ I ≤ B.length ∧ i = .int .i64 (I : Int) ∧ wr = w

set_option maxHeartbeats 8000000 in
set_option maxRecDepth 100000 in
theorem parts7_ok (haw : ∀ w, Laid w → Calls Tryd.prog 7 #[] w fun e w' => e = .returned (.bool true) ∧ Below w.heap.size w w') (l : List UInt8)
    (hl : l.length ≤ 500)
    (hI : ∀ (a : Int) (w : World), Laid w → Calls Tryd.prog 12 #[.string (bs l), .int .i64 a] w fun e w' => e = .returned (.tuple #[.string (bs (lineb l a)), .int .i64 (linen l a), .int .i64 (linee l a)]) ∧ Below w.heap.size w w') (w : World) (L : Laid w) :
    Calls Tryd.prog 6 #[.string (bs l)] w fun e w' => e = .returned (.bool true) ∧ Below w.heap.size w w' := by
  have LL := L.all
  have hsl := bs_size l
  have hs0 : ¬ 500 < (bs l).size := by omega
  go_enter Tryd.func6, Tryd.ntmps6
  go_wp2_with fail
  go_loopg [3, 4, 5] l.length (fun g al at' n wr => PartRel l w g al at' n wr)
  case atStart => exact ⟨⟨0, 0, by omega, by omega, by omega, by simp [bs], rfl, rfl, Below.refl _ _⟩⟩
  case round =>
    obtain ⟨A, N, rfl, hA, hN, rfl, rfl, rfl, hb⟩ := hrel.out
    clear hrel
    have hnl : ¬ l.length < N := by omega
    have hc := hI (A : Int)
    by_cases he : linee l (A : Int) = 0
    · obtain ⟨i0, i1, i2, i3, i4⟩ := line_ok he
      rw [he] at hc
      rw [Int.toNat_natCast] at i4
      obtain ⟨K, hK⟩ : ∃ K : Nat, linen l (A : Int) = (K : Int) := ⟨(linen l A).toNat, by omega⟩
      rw [hK, Int.toNat_natCast] at i4; rw [hK] at i1 i2 hc
      clear hK he
      generalize lineb l (A : Int) = B at *
      have hB : B.length ≤ 500 := by
        have := congrArg List.length i4
        rw [List.length_append, List.length_append, List.length_take, List.length_take] at this; omega
      have hT : (l.take A).length ≤ 500 := by rw [List.length_take]; omega
      have hx1 := str_app (l.take A) B (by omega)
      have hx2 := str_app (l.take A ++ B) [10] (by rw [List.length_append]; simp; omega)
      rw [List.append_assoc, i4] at hx2
      replace hx2 : ∀ w, (Op.stringOp .add (bs (l.take A ++ B)) ⟨#[10]⟩).run Tryd.prog w = .ok (.string (bs (l.take K))) w := hx2
      have hsB := bs_size B
      have j1 : ¬ K ≤ A := by omega
      have j2 : ¬ l.length < K := by omega
      have j1' : ¬ (K : Int) ≤ (A : Int) := by omega
      have H3 := Lib.hid i3
      have HX1 := Lib.hid hx1; have HX2 := Lib.hid hx2
      clear i0 i1 i2 i3 i4 hx1 hx2 hT
      go_wp2_with fail
      refine (hc _ (LL _ hb)).mono ?_; rintro e w1 ⟨rfl, hb1⟩
      replace hb := Lib.hid (hb.trans (hb1.mono hb.size)); clear hb1 hc
      go_wp2_with fail
      go_loopg [9] B.length (fun g i wr => PartIn B w1 g i wr)
      case atStart => exact ⟨⟨0, by omega, by omega, rfl, rfl⟩⟩
      case round =>
        obtain ⟨I, rfl, hi, rfl, rfl⟩ := hrel.out
        clear hrel
        by_cases hlt : I < B.length
        · have k1 : (0 : Int) ≤ (I : Int) := by omega
          have k2 : (I : Int) < ((bs B).size : Int) := by omega
          have hbl : ∀ q, ((bs B)[I]'q).toNat = (B.getD I 0).toNat := fun q => by simp [bs, List.getD, hlt, ByteArray.getElem_eq_getElem_data]
          have hm : ¬ (B.getD I 0).toNat = 10 := by
            intro q
            have e : B.getD I 0 = B[I] := by simp [List.getD, hlt]
            rw [e] at q
            exact H3.out (by rw [show (10 : UInt8) = B[I] from UInt8.toNat_inj.mp (by rw [q]; rfl)]; exact List.getElem_mem hlt)
          have hm' : (((B.getD I 0).toNat : Int) == 10) = false := beq_eq_false_iff_ne.mpr (by omega)
          generalize (B.getD I 0).toNat = m at *
          go_wp2_with fail
          go_roundg (B.length - (I + 1))
          case measure => omega
          case rel => exact ⟨⟨I + 1, rfl, by omega, by go_num, rfl⟩⟩
        · obtain rfl : I = B.length := by omega
          have hd0 : ¬ B.length < B.length := by omega
          have hx1 := HX1.out; have hx2 := HX2.out
          clear hlt hi
          go_wp2_with fail
          go_roundg (l.length - K)
          case measure => omega
          case rel => exact ⟨⟨K, N + 1, rfl, by omega, by omega, rfl, rfl, by go_num, hb.out⟩⟩
    · have he4 := line_end ⟨by omega, by omega⟩ he
      rw [he4] at hc
      have hcut := bs_cut l 0 A
      rw [List.drop_zero, Nat.sub_zero] at hcut
      have q1 : (0 : Int) ≤ (A : Int) := by omega
      have q2 : (A : Int) ≤ ((bs l).size : Int) := by omega
      have q3 : ¬ l.length < A := by omega
      generalize lineb l (A : Int) = B at *
      generalize linen l (A : Int) = K at *
      have HC := Lib.hid hc
      clear he he4 hI
      go_wp2_with fail
      refine (hc _ (LL _ hb)).mono ?_; rintro e w1 ⟨rfl, hb1⟩
      replace hb := Lib.hid (hb.trans (hb1.mono hb.size)); clear hb1
      go_wp2_with fail
      refine (HC.out _ (LL _ hb.out)).mono ?_; rintro e w2 ⟨rfl, hb2⟩
      replace hb := Lib.hid (hb.out.trans (hb2.mono hb.out.size)); clear hb2
      go_wp2_with fail
      refine (haw _ (LL _ hb.out)).mono ?_; rintro e w3 ⟨rfl, hb3⟩
      go_wp2_with fail
      go_ret
      exact ⟨rfl, hb.out.trans (hb3.mono hb.out.size)⟩

set_option maxHeartbeats 2000000 in
set_option maxRecDepth 100000 in
theorem parts7_all (hL : LitC) (hN : NumC) (hI : LineC) (hD : DigitsC) (l : List UInt8) (hl : (l.length : Int) ≤ 9223372036854775807) (w : World) (L : Laid w) :
    Calls Tryd.prog 6 #[.string (bs l)] w fun e w' => e = .returned (.bool true) ∧ Below w.heap.size w w' := by
  have haw := n_awake hL hN hI hD
  by_cases h : l.length ≤ 500
  · exact parts7_ok haw l h (fun a w L => hI l a w (by omega) L) w L
  · have h1 : 500 < (bs l).size := by rw [bs_size]; omega
    have hsl := bs_size l
    have h2 : 500 < l.length := by omega
    clear hL hN hI hD h hl
    go_enter Tryd.func6, Tryd.ntmps6
    go_wp2_with fail
    refine (haw _ L).mono ?_; rintro e w1 ⟨rfl, hb1⟩
    go_wp2_with fail
    go_ret
    exact ⟨rfl, hb1⟩

theorem parts7_str (hL : LitC) (hN : NumC) (hI : LineC) (hD : DigitsC) (s : ByteArray) (hs : s.size ≤ maxLen) (w : World) (L : Laid w) :
    Calls Tryd.prog 6 #[.string s] w fun e w' => e = .returned (.bool true) ∧ Below w.heap.size w w' := by
  have h := parts7_all hL hN hI hD s.data.toList (by rw [data_len]; unfold maxLen at hs; omega) w L
  rwa [bs_data] at h
end Go.Proofs.YtmmjkbjceocpmaaDoor
