/-
  Layer 11's own 'filled' over the landed set. The condition: the row reads as its list.
-/
import Derived.Test.YtiolicadnomagaaDoorBtA
import Derived.Deep.DeepCutAuto
namespace Go.Proofs.YtiolicadnomagaaDoor
open Go.RowKit
set_option linter.unusedSimpArgs false
set_option linter.unusedVariables false

/-- What is there when all of a row has been put in. -/
def fil (L : List Int) : List Int := L.foldl bputK []
theorem fil_take {L : List Int} {k : Nat} (h : k < L.length) : fil (L.take (k + 1)) = bputK (fil (L.take k)) (L.getD k 0) := by
  unfold fil
  rw [List.take_succ_eq_append_getElem h, List.foldl_append, getD_lt _ _ h]
  rfl
theorem mem_bputK (S : List Int) (n z : Int) : z ∈ bputK S n ↔ z ∈ S ∨ (OkB n ∧ z = n) := by
  unfold bputK
  by_cases h : OkB n
  · rw [if_pos h]
    by_cases k : n ∈ S
    · rw [if_pos k]
      constructor
      · exact Or.inl
      · rintro (q | ⟨_, rfl⟩)
        · exact q
        · exact k
    · rw [if_neg k, mem_wth]
      constructor
      · rintro (q | q)
        · exact Or.inr ⟨h, q⟩
        · exact Or.inl q
      · rintro (q | ⟨_, q⟩)
        · exact Or.inr q
        · exact Or.inl q
  · rw [if_neg h]
    constructor
    · exact Or.inl
    · rintro (q | ⟨q, _⟩)
      · exact q
      · exact absurd q h
theorem mem_foldp : ∀ (L S : List Int) (z : Int), z ∈ L.foldl bputK S ↔ z ∈ S ∨ (OkB z ∧ z ∈ L)
  | [], S, z => by simp
  | x :: L, S, z => by
    rw [List.foldl_cons, mem_foldp L, mem_bputK, List.mem_cons]
    constructor
    · rintro ((h | ⟨h, rfl⟩) | h)
      · exact Or.inl h
      · exact Or.inr ⟨h, Or.inl rfl⟩
      · exact Or.inr ⟨h.1, Or.inr h.2⟩
    · rintro (h | ⟨h, rfl | k⟩)
      · exact Or.inl (Or.inl h)
      · exact Or.inl (Or.inr ⟨h, rfl⟩)
      · exact Or.inr ⟨h, k⟩
theorem mem_fil (L : List Int) (z : Int) : z ∈ fil L ↔ OkB z ∧ z ∈ L := by
  unfold fil; rw [mem_foldp]; simp
/-- What holds at the loop's head. -/
structure FiRel (w : World) (B : Nat) (F : Nat → Prop) (L : List Int) (i : Value) (wr : World) : Prop where
  out : ∃ k : Nat, k ≤ L.length ∧ i = .int .i64 (k : Int) ∧ OneS w wr B (fil (L.take k)) F
set_option maxHeartbeats 2000000 in
set_option maxRecDepth 100000 in
theorem filled11 (a : Option Addr) (c : Nat) (L : List Int) (w : World) (hL : Reads w a L) (hbig : (L.length : Int) ≤ 9223372036854775807) :
    Calls Tryd.prog 15 #[.slice a L.length c] w fun e w' => ∃ B F, e = .returned (.pointer (some ⟨B, 0, none⟩)) ∧ OneS w w' B (fil L) F := by
  have hnw := new_s w
  have HL := Lib.hid hL; have HBG := Lib.hid hbig
  clear hL hbig
  go_enter Tryd.func15, Tryd.ntmps15
  go_wp2_with fail
  refine hnw.mono ?_; rintro e w1 ⟨B, F, rfl, hR1, hb1, hF1⟩
  have H0 : Hid (FiRel w B F L (.int .i64 0) w1) := ⟨⟨0, Nat.zero_le _, rfl, ⟨hR1, hb1, hF1⟩⟩⟩
  clear hR1 hb1 hF1 hnw
  go_wp2_with fail
  go_loopw [4] (fun i wr => FiRel w B F L i wr) (fun i _ => L.length - (intOf i).toNat)
  case atStart => exact H0.out
  case round =>
    clear H0
    obtain ⟨k, hk, rfl, hO⟩ := hrel.out
    clear hrel
    by_cases hlt : k < L.length
    · obtain ⟨b, off, rfl, hc⟩ := (HL.out.below hO.b).2 k hlt
      have hput := put_s hO.r (L.getD k 0) (HL.out.at k hlt)
      have HO := Lib.hid hO
      rw [← fil_take hlt] at hput
      have i0 : (0 : Int) ≤ (k : Int) := by omega
      have i1 : (k : Int) < (L.length : Int) := by omega
      have hu1 : wrap64 ((k : Int) + 1) = ((k + 1 : Nat) : Int) := by have := HBG.out; unfold wrap64; omega
      have hu2 : IntKind.i64.wrap ((k : Int) + 1) = ((k + 1 : Nat) : Int) := by have := HBG.out; simp [IntKind.wrap, IntKind.signed, IntKind.bits]; omega
      have HLT := Lib.hid hlt
      clear hO hlt hk
      generalize L.getD k 0 = n at *
      go_wp2_with fail
      refine hput.mono ?_; rintro e w3 ⟨rfl, hr3, ht3⟩
      have H3 := Lib.hid (HO.out.turn hr3 ht3)
      clear hput hr3 ht3 hc HO
      go_wp2_with fail
      go_roundw
      · exact ⟨⟨k + 1, by have := HLT.out; omega, by first | with_reducible rfl | go_num, H3.out⟩⟩
      · have := HLT.out; simp [intOf]; omega
    · obtain rfl : k = L.length := by omega
      rw [List.take_length] at hO
      have HO := Lib.hid hO
      clear hO hlt hk
      go_wp2_with fail
      go_ret
      exact ⟨B, F, rfl, HO.out⟩
end Go.Proofs.YtiolicadnomagaaDoor
