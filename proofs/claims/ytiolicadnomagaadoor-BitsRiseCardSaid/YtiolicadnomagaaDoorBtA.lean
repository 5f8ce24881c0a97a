/-
  Layer 11's own awake answers true over the landed set. The condition: the library's table lies as it was laid.
-/
import Derived.Test.YtiolicadnomagaaDoorSetH
import Derived.Test.YtiolicadnomagaaDoorSetL
import Derived.Test.YtiolicadnomagaaDoorRefHs
import Derived.Test.YtiolicadnomagaaDoorRefHs1
import Derived.Test.YtiolicadnomagaaDoorRefId
import Derived.Deep.RegionHeld3
import Derived.Deep.DeepCutAuto
namespace Go.Proofs.YtiolicadnomagaaDoor
open Go.RowKit
set_option linter.unusedSimpArgs false
set_option linter.unusedVariables false

/-- One set, made since w0. -/
structure OneS (w0 w : World) (B : Nat) (S : List Int) (F : Nat → Prop) : Prop where
  r : SetR w B S F
  b : Below w0.heap.size w0 w
  f : ∀ j, F j → w0.heap.size ≤ j
theorem OneS.below {w0 w w' : World} {B : Nat} {S : List Int} {F : Nat → Prop} (h : OneS w0 w B S F) (hb : Below w.heap.size w w') : OneS w0 w' B S F :=
  ⟨h.r.below hb, h.b.trans (hb.mono h.b.size), h.f⟩
theorem OneS.turn {w0 w w' : World} {B : Nat} {S T : List Int} {F : Nat → Prop} (h : OneS w0 w B S F) (r : SetR w' B T F) (t : Turn F w w') : OneS w0 w' B T F :=
  ⟨r, h.b.trans (t.below h.f h.b.size), h.f⟩
theorem OneS.sl {w0 w w' : World} {B : Nat} {S L : List Int} {F : Nat → Prop} {v : Value} (h : OneS w0 w B S F) (t : Turn F w w') (hs : Sl w v L) : Sl w' v L := h.r.sl t hs
/-- Two sets, made since w0, apart. -/
structure TwoS (w0 w : World) (B C : Nat) (S T : List Int) (F G : Nat → Prop) : Prop where
  s : OneS w0 w B S F
  t : OneS w0 w C T G
  d : ∀ j, F j → ¬ G j
theorem TwoS.below {w0 w w' : World} {B C : Nat} {S T : List Int} {F G : Nat → Prop} (h : TwoS w0 w B C S T F G) (hb : Below w.heap.size w w') : TwoS w0 w' B C S T F G := ⟨h.s.below hb, h.t.below hb, h.d⟩
theorem TwoS.turn1 {w0 w w' : World} {B C : Nat} {S S' T : List Int} {F G : Nat → Prop} (h : TwoS w0 w B C S T F G) (r : SetR w' B S' F) (k : Turn F w w') : TwoS w0 w' B C S' T F G :=
  ⟨h.s.turn r k, ⟨h.t.r.turn k (fun j q r => h.d j r q), h.s.b.trans (k.below h.s.f h.s.b.size), h.t.f⟩, h.d⟩
theorem TwoS.turn2 {w0 w w' : World} {B C : Nat} {S T T' : List Int} {F G : Nat → Prop} (h : TwoS w0 w B C S T F G) (r : SetR w' C T' G) (k : Turn G w w') : TwoS w0 w' B C S T' F G :=
  ⟨⟨h.s.r.turn k (fun j q r => h.d j q r), h.t.b.trans (k.below h.t.f h.t.b.size), h.s.f⟩, h.t.turn r k, h.d⟩
theorem len_n (w : World) : Calls Tryd.prog 10 #[.pointer none] w fun e w' => e = .returned (.int .i64 0) ∧ w' = w := by
  have hrw := row_n w
  go_enter Tryd.func10, Tryd.ntmps10
  go_wp2_with fail
  refine hrw.mono ?_; rintro e w1 ⟨rfl, rfl⟩
  go_wp2_with fail
  go_loopw [9, 3] (fun i c wr => i = .int .i64 0 ∧ c = .int .i64 0 ∧ w1 = wr) (fun _ _ _ => 0)
  case atStart => exact ⟨rfl, rfl, rfl⟩
  case round =>
    obtain ⟨rfl, rfl, rfl⟩ := hrel
    go_wp2_with fail
    go_ret
    exact ⟨rfl, rfl⟩
theorem lit_reads (w : World) (L : List Int) (hL : ∀ z ∈ L, InR z) : Reads (w.alloc (.cells (L.map (Value.int .i64)).toArray 3)) (some ⟨w.heap.size, 0, none⟩) L :=
  ⟨hL, fun i hi => ⟨w.heap.size, 0, rfl, by rw [getD_lt _ _ hi]; simp [hi]⟩⟩
set_option maxHeartbeats 8000000 in
set_option maxRecDepth 100000 in
theorem b_awake (w : World) (hT : TabD w) : Calls Tryd.prog 7 #[] w fun e w' => e = .returned (.bool true) ∧ Below w.heap.size w w' := by
  have HT := Lib.hid hT
  clear hT
  go_enter Tryd.func7, Tryd.ntmps7
  go_wp2_with fail
  refine (new_s _).mono ?_; rintro e w1 ⟨B, F, rfl, hB, hb1, hF⟩
  have h1 : OneS w w1 B [] F := ⟨hB, hb1, hF⟩
  go_wp2_with fail
  refine (new_s _).mono ?_; rintro e w2 ⟨C, G, rfl, hC, hb2, hG⟩
  have h2 : TwoS w w2 B C [] [] F G := ⟨h1.below hb2, ⟨hC, hb1.trans (hb2.mono hb1.size), fun j q => Nat.le_trans hb1.size (hG j q)⟩, fun j q r => by have := hB.foot j q; have := hG j r; omega⟩
  clear hB hb1 hF h1 hC hb2 hG
  have hc := put_s h2.s.r 70 (by decide)
  rw [show bputE ([] : List Int) 70 = 0 by decide, show bputK ([] : List Int) 70 = [70] by decide] at hc
  go_wp2_with fail
  refine hc.mono ?_; rintro e w3 ⟨rfl, hr, ht⟩
  have h3 := h2.turn1 hr ht
  clear hc hr ht h2
  have hc := put_s h3.s.r 3 (by decide)
  rw [show bputE ([70] : List Int) 3 = 0 by decide, show bputK ([70] : List Int) 3 = [3, 70] by decide] at hc
  go_wp2_with fail
  refine hc.mono ?_; rintro e w4 ⟨rfl, hr, ht⟩
  have h4 := h3.turn1 hr ht
  clear hc hr ht h3
  have hc := put_s h4.s.r 64 (by decide)
  rw [show bputE ([3, 70] : List Int) 64 = 0 by decide, show bputK ([3, 70] : List Int) 64 = [3, 64, 70] by decide] at hc
  go_wp2_with fail
  refine hc.mono ?_; rintro e w5 ⟨rfl, hr, ht⟩
  have h5 := h4.turn1 hr ht
  clear hc hr ht h4
  have hc := put_s h5.s.r 3 (by decide)
  rw [show bputE ([3, 64, 70] : List Int) 3 = 35 by decide, show bputK ([3, 64, 70] : List Int) 3 = [3, 64, 70] by decide] at hc
  go_wp2_with fail
  refine hc.mono ?_; rintro e w6 ⟨rfl, hr, ht⟩
  have h6 := h5.turn1 hr ht
  clear hc hr ht h5
  have hc := put_s h6.s.r (-1) (by decide)
  rw [show bputE ([3, 64, 70] : List Int) (-1) = 2 by decide, show bputK ([3, 64, 70] : List Int) (-1) = [3, 64, 70] by decide] at hc
  go_wp2_with fail
  refine hc.mono ?_; rintro e w7 ⟨rfl, hr, ht⟩
  have h7 := h6.turn1 hr ht
  clear hc hr ht h6
  have hc := all_s h7.s.r (HT.out.below h7.s.b)
  go_wp2_with fail
  refine hc.mono ?_; rintro e w8 ⟨u, rfl, hu, hb⟩
  obtain ⟨a0, c0, rfl, hsl⟩ := hu
  have hu : Sl w8 (.slice a0 ([3, 64, 70] : List Int).length c0) [3, 64, 70] := ⟨a0, c0, rfl, hsl⟩
  have h8 := h7.below hb
  clear hc hb hsl h7
  have hc := drop_s h8.s.r 64 (by decide)
  rw [show bdropE ([3, 64, 70] : List Int) 64 = 0 by decide, show bdropK ([3, 64, 70] : List Int) 64 = [3, 70] by decide] at hc
  go_wp2_with fail
  refine hc.mono ?_; rintro e w9 ⟨rfl, hr, ht⟩
  replace hu := h8.s.sl ht hu
  have h9 := h8.turn1 hr ht
  clear hc hr ht h8
  have hc := drop_s h9.s.r 64 (by decide)
  rw [show bdropE ([3, 70] : List Int) 64 = 35 by decide, show bdropK ([3, 70] : List Int) 64 = [3, 70] by decide] at hc
  go_wp2_with fail
  refine hc.mono ?_; rintro e w10 ⟨rfl, hr, ht⟩
  replace hu := h9.s.sl ht hu
  have h10 := h9.turn1 hr ht
  clear hc hr ht h9
  have hc := put_s h10.t.r 5 (by decide)
  rw [show bputE ([] : List Int) 5 = 0 by decide, show bputK ([] : List Int) 5 = [5] by decide] at hc
  go_wp2_with fail
  refine hc.mono ?_; rintro e w11 ⟨rfl, hr, ht⟩
  replace hu := h10.t.sl ht hu
  have h11 := h10.turn2 hr ht
  clear hc hr ht h10
  have hc := join_s h11.t.r h11.s.r (fun j q r => h11.d j r q)
  rw [show (((rise (([5] : List Int) ++ [3, 70])).length : Int) - (([5] : List Int).length : Int)) = 2 by decide, show rise (([5] : List Int) ++ [3, 70]) = [3, 5, 70] by decide] at hc
  go_wp2_with fail
  refine hc.mono ?_; rintro e w12 ⟨rfl, hr, hr2, ht⟩
  replace hu := h11.t.sl ht hu
  have h12 := h11.turn2 hr ht
  clear hc hr hr2 ht h11
  have hc := keep_s h12.t.r h12.s.r (fun j q r => h12.d j r q)
  rw [show ((([3, 5, 70] : List Int).length : Int) - ((both ([3, 5, 70] : List Int) [3, 70]).length : Int)) = 1 by decide, show both ([3, 5, 70] : List Int) [3, 70] = [3, 70] by decide] at hc
  go_wp2_with fail
  refine hc.mono ?_; rintro e w13 ⟨rfl, hr, hr2, ht⟩
  replace hu := h12.t.sl ht hu
  have h13 := h12.turn2 hr ht
  clear hc hr hr2 ht h12
  obtain ⟨a1, c1, he, _, _, hrd⟩ := hu
  cases he
  have HR := Lib.hid hrd; clear hrd
  have H := Lib.hid h13; clear h13
  simp only [List.length_cons, List.length_nil, Nat.reduceAdd] at *
  have hl3 : Reads (w13.alloc (.cells #[.int .i64 3, .int .i64 64, .int .i64 70] 3)) (some ⟨w13.heap.size, 0, none⟩) [3, 64, 70] := lit_reads w13 [3, 64, 70] (by decide)
  have hb3 := below1 w13 (.cells #[.int .i64 3, .int .i64 64, .int .i64 70] 3)
  have hsm := same_any a0 (some ⟨w13.heap.size, 0, none⟩) c0 3 [3, 64, 70] [3, 64, 70] _ (HR.out.below hb3) hl3 (by decide)
  rw [show decide (([3, 64, 70] : List Int) = [3, 64, 70]) = true by decide] at hsm
  simp only [List.length_cons, List.length_nil, Nat.reduceAdd] at hsm
  have H14 := Lib.hid (H.out.below hb3)
  clear hl3 H HR
  go_wp2_with fail
  refine hsm.mono ?_; rintro e w15 ⟨rfl, hb⟩
  have h15 := H14.out.below hb
  clear hsm hb H14 hb3
  have hc := len_s h15.t.r
  rw [show ((([3, 70] : List Int).length : Nat) : Int) = 2 by decide] at hc
  go_wp2_with fail
  refine hc.mono ?_; rintro e w16 ⟨rfl, hb⟩
  have h16 := h15.below hb
  clear hc hb h15
  have hc := has_s h16.t.r 70 (by decide)
  rw [show (decide ((70 : Int) ∈ ([3, 70] : List Int))) = true by decide] at hc
  go_wp2_with fail
  refine hc.mono ?_; rintro e w17 ⟨rfl, hb⟩
  have h17 := h16.below hb
  clear hc hb h16
  have hc := has_s h17.t.r 5 (by decide)
  rw [show (decide ((5 : Int) ∈ ([3, 70] : List Int))) = false by decide] at hc
  go_wp2_with fail
  refine hc.mono ?_; rintro e w18 ⟨rfl, hb⟩
  have h18 := h17.below hb
  clear hc hb h17
  have hc := first_s h18.s.r (HT.out.below h18.s.b) 1 (by decide)
  rw [show ([3, 70] : List Int).take ((1 : Int).toNat) = [3] by decide] at hc
  go_wp2_with fail
  refine hc.mono ?_; rintro e w19 ⟨u, rfl, hu, hb⟩
  obtain ⟨a1, c1, rfl, _, _, hrd⟩ := hu
  have HR := Lib.hid hrd; have H := Lib.hid (h18.below hb)
  clear hc hb hrd h18
  simp only [List.length_cons, List.length_nil, Nat.reduceAdd] at *
  have hl3 : Reads (w19.alloc (.cells #[.int .i64 3] 3)) (some ⟨w19.heap.size, 0, none⟩) [3] := lit_reads w19 [3] (by decide)
  have hb3 := below1 w19 (.cells #[.int .i64 3] 3)
  have hsm := same_any a1 (some ⟨w19.heap.size, 0, none⟩) c1 1 [3] [3] _ (HR.out.below hb3) hl3 (by decide)
  rw [show decide (([3] : List Int) = [3]) = true by decide] at hsm
  simp only [List.length_cons, List.length_nil, Nat.reduceAdd] at hsm
  have H2 := Lib.hid (H.out.below hb3)
  clear hl3 H HR
  go_wp2_with fail
  refine hsm.mono ?_; rintro e w20 ⟨rfl, hb⟩
  have HB := Lib.hid (H2.out.below hb).s.b
  clear hsm hb H2 hb3
  go_wp2_with fail
  refine (put_n 1 _).mono ?_; rintro e w21 ⟨rfl, rfl⟩
  go_wp2_with fail
  refine (len_n _).mono ?_; rintro e w22 ⟨rfl, rfl⟩
  go_wp2_with fail
  go_ret
  exact ⟨rfl, HB.out⟩
end Go.Proofs.YtiolicadnomagaaDoor
