/-
  What scan's own Lit, Num, Line and Digits are held to: the contracts, as propositions; awake of layer 7 out of them. No conditions.
-/
import Derived.Test.YtmmjkbjceocpmaaDoorChecked
import Derived.Test.YtmmjkbjceocpmaaDoorScnN
import Derived.Test.YtmmjkbjceocpmaaDoorRatK
import Derived.Test.YtmmjkbjceocpmaaDoorScnL
import Derived.Laws.IdiomStrings
import Derived.Laws.Concat
namespace Go.Proofs.YtmmjkbjceocpmaaDoor
open Go.RowKit
set_option linter.unusedSimpArgs false
set_option linter.unusedVariables false

def LitC : Prop := ∀ (l : List UInt8) (a : Int) (t : List UInt8) (w : World), l.length ≤ 1000000 → t.length ≤ 1000000 → Laid w →
  Calls Tryd.prog 8 #[.string (bs l), .int .i64 a, .string (bs t)] w fun e w' => e = .returned (.tuple #[.int .i64 (litv l a t), .int .i64 (lite l a t)]) ∧ Below w.heap.size w w'
def NumC : Prop := ∀ (l : List UInt8) (a lo hi : Int) (w : World), l.length ≤ 1000000 → Laid w →
  Calls Tryd.prog 10 #[.string (bs l), .int .i64 a, .int .i64 lo, .int .i64 hi] w fun e w' => e = .returned (.tuple #[.int .i64 (numv l a lo hi), .int .i64 (numk l a lo hi), .int .i64 (nume l a lo hi)]) ∧ Below w.heap.size w w'
def LineC : Prop := ∀ (l : List UInt8) (a : Int) (w : World), l.length ≤ 1000000 → Laid w →
  Calls Tryd.prog 12 #[.string (bs l), .int .i64 a] w fun e w' => e = .returned (.tuple #[.string (bs (lineb l a)), .int .i64 (linen l a), .int .i64 (linee l a)]) ∧ Below w.heap.size w w'
def DigitsC : Prop := ∀ (n : Int) (w : World), InR n → Laid w →
  Calls Tryd.prog 14 #[.int .i64 n] w fun e w' => e = .returned (.string (bs (dtext n 0))) ∧ Below w.heap.size w w'

theorem p_lit (hL : LitC) {b c : ByteArray} {a r re : Int} (l t : List UInt8) (hb : bs l = b) (hc : bs t = c) (hl : l.length ≤ 1000000) (ht : t.length ≤ 1000000) (e1 : litv l a t = r) (e2 : lite l a t = re) (w : World) (L : Laid w) :
    Calls Tryd.prog 8 #[.string b, .int .i64 a, .string c] w fun e w' => e = .returned (.tuple #[.int .i64 r, .int .i64 re]) ∧ Below w.heap.size w w' := by
  subst hb hc e1 e2; exact hL l a t w hl ht L
theorem p_num (hN : NumC) {b : ByteArray} {a lo hi r k re : Int} (l : List UInt8) (hb : bs l = b) (hl : l.length ≤ 1000000) (e1 : numv l a lo hi = r) (e2 : numk l a lo hi = k) (e3 : nume l a lo hi = re) (w : World) (L : Laid w) :
    Calls Tryd.prog 10 #[.string b, .int .i64 a, .int .i64 lo, .int .i64 hi] w fun e w' => e = .returned (.tuple #[.int .i64 r, .int .i64 k, .int .i64 re]) ∧ Below w.heap.size w w' := by
  subst hb e1 e2 e3; exact hN l a lo hi w hl L
theorem p_line (hI : LineC) {b c : ByteArray} {a k re : Int} (l : List UInt8) (hb : bs l = b) (hl : l.length ≤ 1000000) (e1 : bs (lineb l a) = c) (e2 : linen l a = k) (e3 : linee l a = re) (w : World) (L : Laid w) :
    Calls Tryd.prog 12 #[.string b, .int .i64 a] w fun e w' => e = .returned (.tuple #[.string c, .int .i64 k, .int .i64 re]) ∧ Below w.heap.size w w' := by
  subst hb e1 e2 e3; exact hI l a w hl L
theorem p_digits (hD : DigitsC) {n : Int} {b : ByteArray} (hn : InR n) (e1 : bs (dtext n 0) = b) (w : World) (L : Laid w) :
    Calls Tryd.prog 14 #[.int .i64 n] w fun e w' => e = .returned (.string b) ∧ Below w.heap.size w w' := by
  subst e1; exact hD n w hn L

set_option maxHeartbeats 8000000 in
set_option maxRecDepth 100000 in
theorem n_awake (hL : LitC) (hN : NumC) (hI : LineC) (hD : DigitsC) (w : World) (L : Laid w) : Calls Tryd.prog 7 #[] w fun e w' => e = .returned (.bool true) ∧ Below w.heap.size w w' := by
  have a1 := p_num hN (b := ⟨#[97, 49, 50, 44, 51]⟩) (a := 1) (lo := 0) (hi := 99) (r := 12) (k := 3) (re := 0) [97, 49, 50, 44, 51] rfl (by decide) (by decide +kernel) (by decide +kernel) (by decide +kernel)
  have a2 := p_num hN (b := ⟨#[97, 49, 50, 44, 51]⟩) (a := 1) (lo := 0) (hi := 9) (r := 0) (k := 0) (re := 7) [97, 49, 50, 44, 51] rfl (by decide) (by decide +kernel) (by decide +kernel) (by decide +kernel)
  have a3 := p_num hN (b := ⟨#[48, 48, 55]⟩) (a := 0) (lo := 0) (hi := 9) (r := 0) (k := 0) (re := 5) [48, 48, 55] rfl (by decide) (by decide +kernel) (by decide +kernel) (by decide +kernel)
  have a4 := p_num hN (b := ⟨#[45]⟩) (a := 0) (lo := 0) (hi := 9) (r := 0) (k := 0) (re := 4) [45] rfl (by decide) (by decide +kernel) (by decide +kernel) (by decide +kernel)
  have a5 := p_lit hL (b := ⟨#[97, 98, 99]⟩) (c := ⟨#[98, 99]⟩) (a := 1) (r := 3) (re := 0) [97, 98, 99] [98, 99] rfl rfl (by decide) (by decide) (by decide +kernel) (by decide +kernel)
  have a6 := p_lit hL (b := ⟨#[97, 98]⟩) (c := ⟨#[98, 99]⟩) (a := 1) (r := 0) (re := 4) [97, 98] [98, 99] rfl rfl (by decide) (by decide) (by decide +kernel) (by decide +kernel)
  have a7 := p_lit hL (b := ⟨#[97, 98]⟩) (c := ⟨#[120]⟩) (a := 1) (r := 0) (re := 8) [97, 98] [120] rfl rfl (by decide) (by decide) (by decide +kernel) (by decide +kernel)
  have a8 := p_line hI (b := ⟨#[120, 10, 97, 98, 10]⟩) (c := ⟨#[97, 98]⟩) (a := 2) (k := 5) (re := 0) [120, 10, 97, 98, 10] rfl (by decide) (by decide +kernel) (by decide +kernel) (by decide +kernel)
  have a9 := p_line hI (b := ⟨#[120, 10, 97, 98]⟩) (c := ⟨#[]⟩) (a := 2) (k := 0) (re := 4) [120, 10, 97, 98] rfl (by decide) (by decide +kernel) (by decide +kernel) (by decide +kernel)
  have a10 := p_lit hL (b := ⟨#[97, 98]⟩) (c := ⟨#[]⟩) (a := 3) (r := 0) (re := 2) [97, 98] [] rfl rfl (by decide) (by decide) (by decide +kernel) (by decide +kernel)
  have a11 := p_digits hD (n := -40) (b := ⟨#[45, 52, 48]⟩) (by decide) (by decide +kernel)
  clear hL hN hI hD
  have K := Keeps.start w
  have LL := L.all
  go_enter Tryd.func7, Tryd.ntmps7
  go_wp2_with fail
  refine (a1 _ (LL _ K.1)).mono ?_; rintro e w1 ⟨rfl, hb1⟩
  replace K := K.below hb1; clear hb1 a1
  go_wp2_with fail
  refine (a2 _ (LL _ K.1)).mono ?_; rintro e w2 ⟨rfl, hb2⟩
  replace K := K.below hb2; clear hb2 a2
  go_wp2_with fail
  refine (a3 _ (LL _ K.1)).mono ?_; rintro e w3 ⟨rfl, hb3⟩
  replace K := K.below hb3; clear hb3 a3
  go_wp2_with fail
  refine (a4 _ (LL _ K.1)).mono ?_; rintro e w4 ⟨rfl, hb4⟩
  replace K := K.below hb4; clear hb4 a4
  go_wp2_with fail
  refine (a5 _ (LL _ K.1)).mono ?_; rintro e w5 ⟨rfl, hb5⟩
  replace K := K.below hb5; clear hb5 a5
  go_wp2_with fail
  refine (a6 _ (LL _ K.1)).mono ?_; rintro e w6 ⟨rfl, hb6⟩
  replace K := K.below hb6; clear hb6 a6
  go_wp2_with fail
  refine (a7 _ (LL _ K.1)).mono ?_; rintro e w7 ⟨rfl, hb7⟩
  replace K := K.below hb7; clear hb7 a7
  go_wp2_with fail
  refine (a8 _ (LL _ K.1)).mono ?_; rintro e w8 ⟨rfl, hb8⟩
  replace K := K.below hb8; clear hb8 a8
  go_wp2_with fail
  refine (a9 _ (LL _ K.1)).mono ?_; rintro e w9 ⟨rfl, hb9⟩
  replace K := K.below hb9; clear hb9 a9
  go_wp2_with fail
  refine (a10 _ (LL _ K.1)).mono ?_; rintro e w10 ⟨rfl, hb10⟩
  replace K := K.below hb10; clear hb10 a10
  go_wp2_with fail
  refine (a11 _ (LL _ K.1)).mono ?_; rintro e w11 ⟨rfl, hb11⟩
  replace K := K.below hb11; clear hb11 a11
  go_wp2_with fail
  go_ret
  exact ⟨rfl, K.1⟩

/-- A block of three cells. -/
def At3 (w : World) (B : Nat) (p q r : Value) : Prop := w.cell? ⟨B, 0, none⟩ = some p ∧ w.cell? ⟨B, 1, none⟩ = some q ∧ w.cell? ⟨B, 2, none⟩ = some r ∧ B < w.heap.size
theorem At3.new (w : World) (p q r : Value) (t : TypeId) : At3 (w.alloc (.cells #[p, q, r] t)) w.heap.size p q r := by refine ⟨?_, ?_, ?_, ?_⟩ <;> simp [go_sem]
theorem At3.below {w w' : World} {B : Nat} {p q r : Value} (h : At3 w B p q r) (hb : Below w.heap.size w w') : At3 w' B p q r := by
  obtain ⟨h1, h2, h3, h4⟩ := h
  exact ⟨(hb.cell (p := ⟨B, 0, none⟩) h4).trans h1, (hb.cell (p := ⟨B, 1, none⟩) h4).trans h2, (hb.cell (p := ⟨B, 2, none⟩) h4).trans h3, Nat.lt_of_lt_of_le h4 hb.size⟩
theorem At3.drew {w : World} {B : Nat} {p q r : Value} (h : At3 w B p q r) : At3 w.drew B p q r := h.below (Below.refl _ _).drew
/-- Two texts, one behind the other. -/
theorem str_app (a b : List UInt8) (h : a.length + b.length ≤ 2000000) (w : World) : (Op.stringOp .add (bs a) (bs b)).run Tryd.prog w = .ok (.string (bs (a ++ b))) w := by
  rw [run_string_add_sum, bs_app]
  rw [bs_size, bs_size]; omega
theorem bs_piece (l : List UInt8) (a b : Nat) : (bs l).extract a b = bs ((l.drop a).take (b - a)) := by
  apply ByteArray.ext
  simp [bs, ByteArray.data_extract, List.extract]
end Go.Proofs.YtmmjkbjceocpmaaDoor
