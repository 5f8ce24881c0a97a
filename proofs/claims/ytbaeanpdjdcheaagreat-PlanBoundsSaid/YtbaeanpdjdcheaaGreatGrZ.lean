/-
  The landed graph's Readers (over sorted keys). The conditions: the graph's blocks. One graph's Readers, carried on. No conditions.
-/
import Derived.Test.YtbaeanpdjdcheaaGreatGrB
import Derived.Test.YtbaeanpdjdcheaaGreatSk
import Derived.Test.YtbaeanpdjdcheaaGreatGrH
namespace Go.Proofs.YtbaeanpdjdcheaaGreat
open Go.RowKit MapSets
set_option linter.unusedSimpArgs false
set_option linter.unusedVariables false
open Go.RowKit

/- The landed graph's Readers (over sorted keys). The conditions: the graph's blocks. -/
/-- The keys of a node's map, sorted. -/
theorem sorted_g {w : World} {m : Option Nat} {f : Int → Bool} {n : Nat} (hn : n ≤ 20000) (h0 : m = none → ∀ u, f u = false) (h1 : ∀ b, m = some b → MSet w b f) (hs : ∀ u, f u = true → 0 ≤ u ∧ u < (n : Int)) :
    Calls Tryz.prog 80 #[.func (.func 90) #[] #[.pointer (some ⟨w.heap.size, 0, none⟩)]] (w.alloc (.cells #[.map m] 69)) fun e w' =>
      ∃ u, e = .returned u ∧ Own w' w.heap.size u (((List.range n).filter fun u => f ((u : Nat) : Int) && decide (InR ((u : Nat) : Int))).map fun u => ((u : Nat) : Int)) ∧ Below w.heap.size w w' := by
  cases m with
  | none =>
    refine (Tryz.slices_Sorted_keys_nil w).mono ?_
    rintro e w' ⟨v, ss, rfl, rfl, ho, _, hb⟩
    refine ⟨v, rfl, ?_, (below1 w _).trans (hb.mono (by simp))⟩
    have : ((List.range n).filter fun u => f ((u : Nat) : Int) && decide (InR ((u : Nat) : Int))) = [] := List.filter_eq_nil_iff.2 fun u _ => by simp [h0 rfl]
    rw [this]
    exact own_low (a := (w.alloc (.cells #[.map none] 69)).heap.size) (by simpa [Own] using ho) (by simp)
  | some b =>
    obtain ⟨D, hD, hh⟩ := h1 b rfl
    have hsz := MapSets.MapSet.size gkit hD hh fun k _ => hs k
    refine (Tryz.slices_Sorted_keys b _ D _ w hD (by omega)).mono ?_
    rintro e w' ⟨v, ss, rfl, hp, ho, _, hb⟩
    refine ⟨v, rfl, ?_, (below1 w _).trans (hb.mono (by simp))⟩
    have hp2 := hp.trans (MapSets.keys_perm gkit.int hD hh fun k _ => hs k)
    have hl := hp2.length_eq
    have hm := (mergeSort_of_perm_i hp2).trans (range_sorted n _)
    rw [hm, hl] at ho
    exact own_low (a := (w.alloc (.cells #[.map (some b)] 69)).heap.size) ho (by simp)
set_option maxHeartbeats 1000000 in
theorem readers_g {w : World} {B : Nat} {R : List (List Int)} {F : Nat → Prop} (hG : GrR w B R F) (v : Int) :
    Calls Tryz.prog 65 #[.pointer (some ⟨B, 0, none⟩), .int .i64 v] w fun e w' => ∃ u, e = .returned u ∧ Own w' w.heap.size u (grdrs R v) ∧ Below w.heap.size w w' := by
  obtain ⟨hI, A, S, V, M, h, _⟩ := hG
  have hi := isnode_g h.b0 v
  by_cases hx : gnd R.length v
  · rw [decide_eq_true hx] at hi
    obtain ⟨k, rfl⟩ := Int.eq_ofNat_of_zero_le hx.1
    have hk : k < R.length := by have := hx.2; omega
    have i0 : (0 : Int) ≤ (k : Int) := by omega
    have i1 : (k : Int) < (R.length : Int) := by omega
    have b1 := h.b1
    have s := h.hS.s k hk
    have hso := sorted_g h.hi (h.hS.no k hk) (fun b hb => h.hS.yes k b hk hb) (fun u hu => h.hS.sup k u hk hu)
    rw [grdrs_q k hI.hi] at hso
    have hky := fun w => Tryz.maps_Keys (M k) w
    generalize grdrs R (k : Int) = L at *
    generalize M k = m at *
    generalize R.length = n at *
    clear h hx hk hI
    go_enter Tryz.func65, Tryz.ntmps65
    go_wp2_with fail
    refine hi.mono ?_; rintro e w1 ⟨rfl, rfl⟩
    go_wp2_with fail
    refine (hky _).mono ?_; rintro e w2 ⟨rfl, rfl⟩
    go_wp2_with fail
    refine hso.mono ?_; rintro e w2 ⟨u, rfl, ho, hb⟩
    go_wp2_with fail
    go_ret
    exact ⟨u, rfl, ho, hb⟩
  · rw [decide_eq_false hx] at hi
    rw [grdrs_out hI hx]
    clear h hx hI
    go_enter Tryz.func65, Tryz.ntmps65
    go_wp2_with fail
    refine hi.mono ?_; rintro e w1 ⟨rfl, rfl⟩
    go_wp2_with fail
    go_ret
    exact ⟨_, rfl, Own.nil _ _, Below.refl _ _⟩
/- One graph's Readers, carried on. No conditions. -/
theorem readers_o {w0 w : World} {B : Nat} {R : List (List Int)} {F : Nat → Prop} (h : OneG w0 w B R F) (v : Int) :
    Calls Tryz.prog 65 #[.pointer (some ⟨B, 0, none⟩), .int .i64 v] w fun e w' => ∃ u, e = .returned u ∧ Own w' w.heap.size u (grdrs R v) ∧ OneG w0 w' B R F ∧ Below w.heap.size w w' :=
  (readers_g h.r v).mono fun e w' ⟨u, h1, h2, h3⟩ => ⟨u, h1, h2, h.below h3, h3⟩
end Go.Proofs.YtbaeanpdjdcheaaGreat
