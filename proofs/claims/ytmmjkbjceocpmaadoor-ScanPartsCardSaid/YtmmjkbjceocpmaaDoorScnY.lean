/-
  What the library's calls that scan makes answer: strings.HasPrefix; strings.CutPrefix at a minus; strings.Cut at a line feed; strings.Clone; strconv.Itoa; strconv.Atoi at a numeral. The condition: the library's variables read as they were laid.
-/
import Derived.Test.YtmmjkbjceocpmaaDoorScnL
import Derived.Test.YtmmjkbjceocpmaaDoorScnU
import Derived.Test.YtmmjkbjceocpmaaDoorShelf
import Derived.Lib.Walk
import Derived.Lib.AtoiErrMem
namespace Go.Proofs.YtmmjkbjceocpmaaDoor
open Go.RowKit Go.Sort Go.Lib
set_option linter.unusedSimpArgs false
set_option linter.unusedVariables false

theorem y7_has (s t : List UInt8) (w : World) :
    Calls Tryd.prog 17 #[.string (bs s), .string (bs t)] w fun e w' => e = .returned (.bool (t.isPrefixOf s)) ∧ w' = w :=
  Tryd.strings_HasPrefix (bs s) (bs t) w
theorem y7_pre (l : List UInt8) (w : World) :
    Calls Tryd.prog 27 #[.string (bs l), .string ⟨#[45]⟩] w fun e w' => e = .returned (.tuple #[.string (bs (body l)), .bool (neg45 l)]) ∧ w' = w := by
  have h := Tryd.strings_CutPrefix (bs l) ⟨#[45]⟩ w
  have e1 : Lib.hasPrefix (bs l).data.toList (⟨#[45]⟩ : ByteArray).data.toList = neg45 l := by
    show List.isPrefixOf [45] l = _
    unfold neg45
    cases l with
    | nil => rfl
    | cons a l => simp [List.isPrefixOf]; exact Bool.beq_comm
  have e2 : Lib.trimPrefix (bs l).data.toList (⟨#[45]⟩ : ByteArray).data.toList = body l := by
    unfold Lib.trimPrefix body
    rw [e1]
    cases neg45 l
    · rfl
    · show List.drop 1 l = _
      simp
  rw [e1, e2] at h
  exact h
theorem y7_cut (l : List UInt8) (hl : l.length ≤ 1000000) (w : World) (L : Laid w) :
    Calls Tryd.prog 21 #[.string (bs l), .string ⟨#[10]⟩] w fun e w' => (∃ r : ByteArray, ((10 : UInt8) ∈ l ∧ e = .returned (.tuple #[.string (bs (l.takeWhile (fun b => b != 10))), .string r, .bool true])) ∨ (¬ (10 : UInt8) ∈ l ∧ ∃ q : ByteArray, e = .returned (.tuple #[.string q, .string r, .bool false]))) ∧ Below w.heap.size w w' := by
  obtain ⟨m, hm⟩ := L.len
  have h := Tryd.strings_Cut (bs l) ⟨#[10]⟩ m w (by rw [bs_size]; omega) hm
  refine h.mono ?_
  rintro e w' ⟨he, n, rfl⟩
  refine ⟨?_, (Below.refl _ _).trans ⟨rfl, rfl, rfl, Nat.le_refl _, fun _ _ => rfl⟩⟩
  replace he : e = .returned (.tuple #[.string (bs (Lib.cut l [10]).1), .string (bs (Lib.cut l [10]).2.1), .bool (Lib.cut l [10]).2.2]) := he
  rcases index_feed l with ⟨h1, h2⟩ | ⟨h1, h2⟩
  · have q : (Lib.cut l [10]).1 = l.takeWhile (fun b => b != 10) ∧ (Lib.cut l [10]).2.2 = true := by
      unfold Lib.cut
      rw [if_pos (by omega), h2, Int.toNat_natCast]
      exact ⟨take_whil _ l, rfl⟩
    rw [q.1, q.2] at he
    exact ⟨_, Or.inl ⟨h1, he⟩⟩
  · have q : (Lib.cut l [10]).2.2 = false := by
      unfold Lib.cut
      rw [if_neg (by omega)]
    rw [q] at he
    exact ⟨_, Or.inr ⟨h1, _, he⟩⟩
set_option maxHeartbeats 1000000 in
theorem y7_clone (l : List UInt8) (hl : l.length ≤ 1000000) (w : World) :
    Calls Tryd.prog 22 #[.string (bs l)] w fun e w' => e = .returned (.string (bs l)) ∧ Below w.heap.size w w' := by
  have h := Tryd.stringslite_Clone (bs l) w (by rw [bs_size]; omega)
  generalize bs l = s at *
  go_enter Tryd.func22, Tryd.ntmps22
  go_wp2_with fail
  refine h.mono ?_; rintro e w' ⟨rfl, hb⟩
  go_wp2_with fail
  go_ret
  exact ⟨rfl, hb⟩
theorem y7_itoa (n : Int) (hn : InR n) (w : World) (L : Laid w) :
    Calls Tryd.prog 23 #[.int .i64 n] w fun e w' => e = .returned (.string (bs (dtext n 0))) ∧ Below w.heap.size w w' := by
  rw [dtext_itoa]
  refine (Tryd.strconv_Itoa n hn.1 hn.2 w L.tab).mono ?_
  rintro e w' ⟨rfl, k, os, rfl⟩
  exact ⟨rfl, Lib.below_grow w.heap.size w (Nat.le_refl _) k os⟩
theorem y7_atoi (t : List UInt8) (ht : t.length ≤ 1000000) (v : Int) (h : Lib.atoiAll t = .ok v) (w : World) :
    Calls Tryd.prog 19 #[.string (bs t)] w fun e w' => e = .returned (.tuple #[.int .i64 v, .nilIface]) ∧ Below w.heap.size w w' := by
  refine (Tryd.strconv_Atoi_ok (bs t) (by rw [bs_size]; omega) v h w).mono ?_
  rintro e w' ⟨rfl, rfl | ⟨s, rfl⟩⟩
  · exact ⟨rfl, Below.refl _ _⟩
  · exact ⟨rfl, Lib.bytesWorld_below _ _ _⟩
theorem y7_range (t : List UInt8) (ht : t.length ≤ 1000000) (h : Lib.atoiAll t = .range) (w : World) (L : Laid w) :
    Calls Tryd.prog 19 #[.string (bs t)] w fun e w' => (∃ (n : Int) (N : Nat), e = .returned (.tuple #[.int .i64 n, .iface 70 (.pointer (some ⟨N, 0, none⟩))])) ∧ Below w.heap.size w w' := by
  obtain ⟨te, pe, he⟩ := L.err
  refine (Tryd.strconv_Atoi_range (bs t) (by rw [bs_size]; omega) h _ w he (Or.inr ⟨te, pe, rfl⟩)).mono ?_
  rintro e w' ⟨N, rfl, _, _, hb⟩
  exact ⟨⟨_, N, rfl⟩, hb⟩
end Go.Proofs.YtmmjkbjceocpmaaDoor
