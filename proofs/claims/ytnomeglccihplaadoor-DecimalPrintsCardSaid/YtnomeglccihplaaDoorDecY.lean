/-
  What the library's calls that decimal makes answer: strconv.FormatUint at base 10; strings.Repeat of a nought; strings.CutPrefix at a minus; strings.Cut at a point. The condition: the library's variables read as they were laid.
-/
import Derived.Test.YtnomeglccihplaaDoorDecL
import Derived.Test.YtnomeglccihplaaDoorDecV
import Derived.Test.YtnomeglccihplaaDoorShelf
import Derived.Lib.Walk
import Derived.Lib.AppendIntMem
import Derived.Lib.ItoaMem
import Derived.WalkKit
import Derived.BigCall
import Derived.BigGuard
namespace Go.Proofs.YtnomeglccihplaaDoor
open Go.RowKit Go.Sort Go.Lib
set_option linter.unusedSimpArgs false
set_option linter.unusedVariables false

set_option maxHeartbeats 6400000 in
set_option maxRecDepth 100000 in
theorem y_uint0 (u : Nat) (hu64 : u < 18446744073709551616) (w : World) (L : Laid w) :
    Calls Tryd.prog 46 #[.int .u64 u, .int .i64 10] w fun e w' => e = .returned (.string (bs (Lib.decDigits u))) ∧ Below w.heap.size w w' := by
  by_cases hs : u < 100
  · have hsm := fun w => Tryd.internal_strconv_small u hs w
    have iu : (u : Int) < 100 := by omega
    go_enter Tryd.func46, Tryd.ntmps46
    go_wp2_with fail
    refine (hsm _).mono ?_; rintro e w' ⟨rfl, rfl⟩
    go_wp2_with fail
    go_ret
    exact ⟨rfl, Below.refl _ _⟩
  · have hu1 : 1 ≤ u := by omega
    have hnd20 : Lib.nDigits u ≤ 20 := by have := Lib.numDigits_eq u hu1 hu64; split at this <;> omega
    have hsl : ∀ W, (Instr.sliceAt 97 (.pointer (some ⟨w.heap.size, 0, none⟩)) none (some (.int .i64 (Lib.nDigits u : Int))) none).run Tryd.prog W = .ok (.slice (some ⟨w.heap.size, 0, none⟩) (Lib.nDigits u) 24) W := fun W => by
      have hal : Tryd.prog.arrayLen 97 = 24 := by simp [Program.arrayLen, Tryd.underlying97]
      rw [run_sliceAt_array_h W 97 ⟨w.heap.size, 0, none⟩ (by simp [Program.arrayLen, Program.elem, Tryd.underlying97]) .i64 (Lib.nDigits u : Int) (by omega) (by rw [hal]; omega)]
      go_simp
    have hH0 := Lib.holds_zero0 w 97 (Lib.nDigits u) (by omega)
    have hfmt := Tryd.internal_strconv_formatBase10 w.heap.size 0 24 u (Array.replicate (Lib.nDigits u) 0) (w.alloc (.cells Lib.zeros24 97)) hH0 (by rw [Array.size_replicate]; exact Lib.lt_pow_nDigits u) hu64 (by rw [Array.size_replicate]; omega)
    rw [Array.size_replicate] at hfmt
    have hnum := fun w L => Tryd.internal_strconv_numDigits u hu1 hu64 w L
    have HH0 := Lib.hid hH0
    have iu : ¬ (u : Int) < 100 := by omega
    clear hH0
    go_enter Tryd.func46, Tryd.ntmps46
    go_wp2_with fail
    refine (hnum _ (Lib.tabIs_alloc L.tab _)).mono ?_; rintro e w' ⟨rfl, rfl⟩
    go_wp2_with fail
    refine hfmt.mono ?_
    rintro e w' ⟨rfl, k, v', dk, rfl, hF⟩
    have hcv : (convert 63 9 (.slice (some ⟨w.heap.size, 0, none⟩) (Lib.nDigits u) 24)).run Tryd.prog ((putRow (fun (b : UInt8) => Value.int .u8 (b.toNat : Int)) (w.alloc (.cells Lib.zeros24 97)) w.heap.size 0 dk).drewN k) = .ok (.string (bs (Lib.decDigits u))) ((putRow (fun (b : UInt8) => Value.int .u8 (b.toNat : Int)) (w.alloc (.cells Lib.zeros24 97)) w.heap.size 0 dk).drewN k) := by
      have h := run_convert_bytes_back (P := Tryd.prog) ((putRow (fun (b : UInt8) => Value.int .u8 (b.toNat : Int)) (w.alloc (.cells Lib.zeros24 97)) w.heap.size 0 dk).drewN k) 63 9 5 ⟨w.heap.size, 0, none⟩ 24 (Lib.decDigits u) Tryd.underlying63 Tryd.underlying5 Tryd.underlying9 (fun j hj => by
        rw [Lib.row_is_numeral hF j hj, Lib.add_plain, World.cell?_drewN]
        exact cell?_putRow (fun (b : UInt8) => Value.int .u8 (b.toNat : Int)) _ w.heap.size 0 _ dk HH0.out (by rw [hF.size, Array.size_replicate]) j (by rw [hF.size]; rw [Lib.decDigits_length] at hj; exact hj))
      rw [Lib.decDigits_length] at h
      exact h
    obtain ⟨os, eo⟩ := Lib.fin_at w (.cells Lib.zeros24 97) dk k 0
    have hb : Below w.heap.size w ((putRow (fun (b : UInt8) => Value.int .u8 (b.toNat : Int)) (w.alloc (.cells Lib.zeros24 97)) w.heap.size 0 dk).drewN k) := by rw [eo]; exact Lib.below_grow w.heap.size w (Nat.le_refl _) k os
    generalize (putRow (fun (b : UInt8) => Value.int .u8 (b.toNat : Int)) (w.alloc (.cells Lib.zeros24 97)) w.heap.size 0 dk).drewN k = W2 at hcv hb ⊢
    clear eo HH0 hfmt
    go_wp2_with fail
    go_ret
    exact ⟨rfl, hb⟩
theorem y_uint (u : Nat) (hu64 : u < 18446744073709551616) (w : World) (L : Laid w) :
    Calls Tryd.prog 37 #[.int .u64 u, .int .i64 10] w fun e w' => e = .returned (.string (bs (Lib.decDigits u))) ∧ Below w.heap.size w w' := by
  have h := y_uint0 u hu64 w L
  generalize bs (Lib.decDigits u) = r at *
  go_enter Tryd.func37, Tryd.ntmps37
  go_wp2_with fail
  refine h.mono ?_; rintro e w' ⟨rfl, hb⟩
  go_wp2_with fail
  go_ret
  exact ⟨rfl, hb⟩
theorem y_rep (c : Nat) (hc : c ≤ 1000) (w : World) :
    Calls Tryd.prog 38 #[.string ⟨#[48]⟩, .int .i64 c] w fun e w' => e = .returned (.string (bs (List.replicate c 48))) ∧ Below w.heap.size w w' := by
  have h := Tryd.strings_Repeat ⟨#[48]⟩ c w (by omega) (by show 1 * c ≤ _; omega)
  have e : Lib.repeatL [48] c = List.replicate c 48 := by
    have := Lib.repeatL_replicate 48 1 c
    rw [Nat.mul_one] at this
    exact this
  rw [show (⟨#[48]⟩ : ByteArray).data.toList = [48] from rfl, e] at h
  exact h
theorem y_pre (l : List UInt8) (w : World) :
    Calls Tryd.prog 27 #[.string (bs l), .string ⟨#[45]⟩] w fun e w' => e = .returned (.tuple #[.string (bs (body l)), .bool (neg45 l)]) ∧ w' = w := by
  have h := Tryd.strings_CutPrefix (bs l) ⟨#[45]⟩ w
  have e1 : Lib.hasPrefix (bs l).data.toList (⟨#[45]⟩ : ByteArray).data.toList = neg45 l := by
    show List.isPrefixOf [45] l = _
    unfold neg45
    cases l with
    | nil => rfl
    | cons a l => simp [List.isPrefixOf]; exact Bool.beq_comm
  have e2 : Lib.trimPrefix (bs l).data.toList (⟨#[45]⟩ : ByteArray).data.toList = body l := by
    unfold Lib.trimPrefix body
    rw [e1]
    cases neg45 l
    · rfl
    · show List.drop 1 l = _
      simp
  rw [e1, e2] at h
  exact h
theorem index_point : ∀ (l : List UInt8), (l.contains 46 = true ∧ Lib.index l [46] = (l.takeWhile (fun b => b != 46)).length) ∨ (l.contains 46 = false ∧ Lib.index l [46] = -1)
  | [] => Or.inr ⟨rfl, rfl⟩
  | a :: l => by
    unfold Lib.index
    by_cases h : a = 46
    · subst h
      left
      exact ⟨by simp, by simp [List.isPrefixOf]⟩
    · have hp : ([46] : List UInt8).isPrefixOf (a :: l) = false := by simp [List.isPrefixOf, Ne.symm h]
      have hc : (a :: l).contains 46 = l.contains 46 := by
        rw [List.contains_cons]
        have : ((46 : UInt8) == a) = false := by simpa using Ne.symm h
        rw [this, Bool.false_or]
      rw [if_neg (by rw [hp]; decide), hc]
      rcases index_point l with ⟨h1, h2⟩ | ⟨h1, h2⟩
      · left
        refine ⟨h1, ?_⟩
        rw [h2, if_neg (by simp)]
        simp [List.takeWhile_cons, h]
      · right
        exact ⟨h1, by rw [h2]; rfl⟩
theorem take_len (p : UInt8 → Bool) : ∀ l : List UInt8, l.take (l.takeWhile p).length = l.takeWhile p ∧ l.drop (l.takeWhile p).length = l.dropWhile p
  | [] => ⟨rfl, rfl⟩
  | a :: l => by
    have ih := take_len p l
    cases h : p a
    · simp [h]
    · simp [h, ih.1, ih.2]
theorem no_point : ∀ l : List UInt8, l.contains 46 = false → l.takeWhile (fun b => b != 46) = l ∧ l.dropWhile (fun b => b != 46) = []
  | [], _ => ⟨rfl, rfl⟩
  | a :: l, h => by
    rw [List.contains_cons, Bool.or_eq_false_iff] at h
    have ih := no_point l h.2
    have ha : (a != 46) = true := by
      have := h.1
      simp only [beq_eq_false_iff_ne] at this
      simpa using Ne.symm this
    simp [ha, ih.1, ih.2]
theorem y_cut (l : List UInt8) (hl : l.length ≤ 1000000) (w : World) (L : Laid w) :
    Calls Tryd.prog 44 #[.string (bs l), .string ⟨#[46]⟩] w fun e w' => e = .returned (.tuple #[.string (bs (l.takeWhile (fun b => b != 46))), .string (bs ((l.dropWhile (fun b => b != 46)).drop 1)), .bool (l.contains 46)]) ∧ Below w.heap.size w w' := by
  obtain ⟨m, hm⟩ := L.len
  have h := Tryd.strings_Cut (bs l) ⟨#[46]⟩ m w (by rw [bs_size]; omega) hm
  have e : Lib.cut (bs l).data.toList (⟨#[46]⟩ : ByteArray).data.toList = (l.takeWhile (fun b => b != 46), (l.dropWhile (fun b => b != 46)).drop 1, l.contains 46) := by
    show Lib.cut l [46] = _
    unfold Lib.cut
    rcases index_point l with ⟨h1, h2⟩ | ⟨h1, h2⟩
    · rw [if_pos (by omega), h2, Int.toNat_natCast, (take_len _ l).1, ← List.drop_drop, (take_len _ l).2, h1]
      rfl
    · rw [if_neg (by omega), h1, (no_point l h1).1, (no_point l h1).2]
      rfl
  rw [e] at h
  refine h.mono ?_
  rintro e w' ⟨rfl, n, rfl⟩
  exact ⟨rfl, ⟨rfl, rfl, rfl, Nat.le_refl _, fun _ _ => rfl⟩⟩
end Go.Proofs.YtnomeglccihplaaDoor
