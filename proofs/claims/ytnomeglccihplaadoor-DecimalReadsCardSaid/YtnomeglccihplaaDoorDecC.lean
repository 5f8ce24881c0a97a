/-
  What decimal's own Print, Parse and Rescale are held to: the contracts, as propositions; awake of layer 6 out of them. No conditions.
-/
import Derived.Test.YtnomeglccihplaaDoorDecL
import Derived.Test.YtnomeglccihplaaDoorDecN
import Derived.Test.YtnomeglccihplaaDoorKeepG
namespace Go.Proofs.YtnomeglccihplaaDoor
open Go.RowKit
set_option linter.unusedSimpArgs false
set_option linter.unusedVariables false

def PrintC : Prop := ∀ (x d : Int) (w : World), InR x → Laid w →
  Calls Tryd.prog 7 #[.int .i64 x, .int .i64 d] w fun e w' => e = .returned (.tuple #[.string (printv x d), .int .i64 (dc d)]) ∧ Below w.heap.size w w'
def ParseC : Prop := ∀ (l : List UInt8) (d : Int) (w : World), l.length ≤ 1000000 → Laid w →
  Calls Tryd.prog 12 #[.string (bs l), .int .i64 d] w fun e w' => e = .returned (.tuple #[.int .i64 (parsev l d), .int .i64 (parsee l d)]) ∧ Below w.heap.size w w'
def RescaleC : Prop := ∀ (x d g : Int) (w : World), InR x →
  Calls Tryd.prog 9 #[.int .i64 x, .int .i64 d, .int .i64 g] w fun e w' => e = .returned (.tuple #[.int .i64 (rsv x d g), .int .i64 (rse x d g)]) ∧ Below w.heap.size w w'

theorem p_print (hP : PrintC) {x d re : Int} {r : ByteArray} (hx : InR x) (e1 : printv x d = r) (e2 : dc d = re) (w : World) (L : Laid w) :
    Calls Tryd.prog 7 #[.int .i64 x, .int .i64 d] w fun e w' => e = .returned (.tuple #[.string r, .int .i64 re]) ∧ Below w.heap.size w w' := by
  subst e1 e2; exact hP x d w hx L
theorem p_parse (hQ : ParseC) {b : ByteArray} {d r re : Int} (l : List UInt8) (hb : bs l = b) (hl : l.length ≤ 1000000) (e1 : parsev l d = r) (e2 : parsee l d = re) (w : World) (L : Laid w) :
    Calls Tryd.prog 12 #[.string b, .int .i64 d] w fun e w' => e = .returned (.tuple #[.int .i64 r, .int .i64 re]) ∧ Below w.heap.size w w' := by
  subst hb e1 e2; exact hQ l d w hl L
theorem p_rescale (hR : RescaleC) {x d g r re : Int} (hx : InR x) (e1 : rsv x d g = r) (e2 : rse x d g = re) (w : World) :
    Calls Tryd.prog 9 #[.int .i64 x, .int .i64 d, .int .i64 g] w fun e w' => e = .returned (.tuple #[.int .i64 r, .int .i64 re]) ∧ Below w.heap.size w w' := by
  subst e1 e2; exact hR x d g w hx

set_option maxHeartbeats 8000000 in
set_option maxRecDepth 100000 in
theorem d_awake (hP : PrintC) (hQ : ParseC) (hR : RescaleC) (w : World) (L : Laid w) : Calls Tryd.prog 11 #[] w fun e w' => e = .returned (.bool true) ∧ Below w.heap.size w w' := by
  have a1 := p_print hP (x := -5) (d := 2) (r := ⟨#[45, 48, 46, 48, 53]⟩) (re := 0) (by decide) (by decide +kernel) (by decide +kernel)
  have a2 := p_print hP (x := 1200) (d := 0) (r := ⟨#[49, 50, 48, 48]⟩) (re := 0) (by decide) (by decide +kernel) (by decide +kernel)
  have a3 := p_print hP (x := 1) (d := 7) (r := ⟨#[]⟩) (re := 2) (by decide) (by decide +kernel) (by decide +kernel)
  have a4 := p_parse hQ (b := ⟨#[45, 49, 50, 46, 51, 48]⟩) (d := 2) (r := -1230) (re := 0) [45, 49, 50, 46, 51, 48] rfl (by decide) (by decide +kernel) (by decide +kernel)
  have a5 := p_parse hQ (b := ⟨#[49, 46, 53]⟩) (d := 2) (r := 0) (re := 5) [49, 46, 53] rfl (by decide) (by decide +kernel) (by decide +kernel)
  have a6 := p_parse hQ (b := ⟨#[57, 57, 57, 57, 57, 57, 57, 57, 57, 57, 57, 57, 57, 57, 57, 57, 57, 57, 57, 57, 46, 57, 57]⟩) (d := 2) (r := 0) (re := 10) [57, 57, 57, 57, 57, 57, 57, 57, 57, 57, 57, 57, 57, 57, 57, 57, 57, 57, 57, 57, 46, 57, 57] rfl (by decide) (by decide +kernel) (by decide +kernel)
  have a7 := p_rescale hR (x := 125) (d := 2) (g := 1) (r := 12) (re := 0) (by decide) (by decide +kernel) (by decide +kernel)
  clear hP hQ hR
  go_enter Tryd.func11, Tryd.ntmps11
  have K := Keeps.start w
  go_wp2_with fail
  refine (a1 _ (L.on K.1)).mono ?_; rintro e w1 ⟨rfl, hb1⟩
  replace K := K.below hb1; clear hb1 a1
  go_wp2_with fail
  refine (a2 _ (L.on K.1)).mono ?_; rintro e w2 ⟨rfl, hb2⟩
  replace K := K.below hb2; clear hb2 a2
  go_wp2_with fail
  refine (a3 _ (L.on K.1)).mono ?_; rintro e w3 ⟨rfl, hb3⟩
  replace K := K.below hb3; clear hb3 a3
  go_wp2_with fail
  refine (a4 _ (L.on K.1)).mono ?_; rintro e w4 ⟨rfl, hb4⟩
  replace K := K.below hb4; clear hb4 a4
  go_wp2_with fail
  refine (a5 _ (L.on K.1)).mono ?_; rintro e w5 ⟨rfl, hb5⟩
  replace K := K.below hb5; clear hb5 a5
  go_wp2_with fail
  refine (a6 _ (L.on K.1)).mono ?_; rintro e w6 ⟨rfl, hb6⟩
  replace K := K.below hb6; clear hb6 a6
  go_wp2_with fail
  refine (a7 _).mono ?_; rintro e w7 ⟨rfl, hb7⟩
  replace K := K.below hb7; clear hb7 a7
  go_wp2_with fail
  go_ret
  exact ⟨rfl, K.1⟩
end Go.Proofs.YtnomeglccihplaaDoor
