/-
  What decimal's own printed and Print answer, for whatever amount in range and decimals. The condition: the library's variables read as they were laid.
-/
import Derived.Test.YtnomeglccihplaaDoorDecA
import Derived.Test.YtnomeglccihplaaDoorDecW
import Derived.Test.YtnomeglccihplaaDoorDecY
import Derived.Test.YtnomeglccihplaaDoorRefDa
import Derived.Laws.IdiomStrings
import Derived.Laws.Concat
namespace Go.Proofs.YtnomeglccihplaaDoor
open Go.RowKit
set_option linter.unusedSimpArgs false
set_option linter.unusedVariables false

theorem str_add (a b : List UInt8) (h : a.length + b.length ≤ 1000000) (w : World) : (Op.stringOp .add (bs a) (bs b)).run Tryd.prog w = .ok (.string (bs (a ++ b))) w := by
  rw [run_string_add_sum, bs_app]
  rw [bs_size, bs_size]; omega
theorem bytes_slc (w : World) (l : List UInt8) (c : Nat) (hc : l.length ≤ c) (fz : Nat × Nat) : SlC (w.drew.alloc (.cells (bytesRow (bs l) c) 5 fz)) (.slice (some ⟨w.heap.size, 0, none⟩) l.length c) 1 l.length (byv l) := by
  refine ⟨_, _, rfl, hc, fun q => by (cases q), by rw [byv_len, Nat.mul_one], fun j hj => ⟨w.heap.size, 0, rfl, ?_⟩⟩
  rw [byv_len] at hj
  have h := World.cell?_alloc_mark w.drew (bytesRow (bs l) c) 5 fz j
  rw [Nat.zero_add, show w.heap.size = w.drew.heap.size from rfl, h]
  unfold bytesRow bs byv
  rw [Array.getElem?_append_left (by simpa using hj)]
  simp [hj]
theorem full_bd {n d : Nat} (hn : n ≤ 9223372036854775808) (hd : d ≤ 6) : (full n d).length ≤ 30 ∧ (Lib.decDigits n).length ≤ 20 := by
  have h : (Lib.decDigits n).length ≤ 20 := by
    rw [Lib.decDigits_length]
    by_cases h0 : 1 ≤ n
    · have := Lib.numDigits_eq n h0 (by omega); split at this <;> omega
    · rw [Lib.nDigits_small (by omega)]; omega
  refine ⟨?_, h⟩
  unfold full
  rw [List.length_append, List.length_replicate]; omega
/-- 'string(b)' of a slice that reads so. -/
theorem back_slc {w : World} {u : Value} {l : List UInt8} (h : SlC w u 1 l.length (byv l)) (hl : l ≠ []) : (convert 63 9 u).run Tryd.prog w = .ok (.string (bs l)) w := by
  obtain ⟨a, cap, rfl, h2, h3, h4, h5⟩ := h
  have h0 : 0 < l.length := List.length_pos_iff.2 hl
  obtain ⟨b, off, rfl, _⟩ := h5 0 (by rw [byv_len]; exact h0)
  refine run_convert_bytes_back (P := Tryd.prog) w 63 9 5 ⟨b, off, none⟩ cap l Tryd.underlying63 Tryd.underlying5 Tryd.underlying9 ?_
  intro j hj
  obtain ⟨b', off', e, hc⟩ := h5 j (by rw [byv_len]; exact hj)
  cases e
  rw [Lib.add_plain, hc]
  simp [byv, hj]

theorem pad_is (d n : Nat) (hd : d ≤ 6) (hn : n ≤ 20) : wrap64 ((d : Int) + 1) = (d : Int) + 1 ∧ wrap64 ((d : Int) + 1 - (n : Int)) = (d : Int) + 1 - (n : Int) := by
  constructor <;> (unfold wrap64; omega)
set_option maxHeartbeats 4000000 in
set_option maxRecDepth 100000 in
theorem d_printed (x : Int) (d : Nat) (hd : d ≤ 6) (hx : InR x) (w : World) (L : Laid w) :
    Calls Tryd.prog 21 #[.int .i64 x, .int .i64 (d : Int)] w fun e w' => e = .returned (.string (bs (dtext x d))) ∧ Below w.heap.size w w' := by
  have hn : x.natAbs ≤ 9223372036854775808 := by unfold InR at hx; omega
  have hbd := full_bd hn hd
  have hN := y_uint x.natAbs (by omega) w L
  obtain ⟨c, hc⟩ : ∃ c, c = d + 1 - (Lib.decDigits x.natAbs).length := ⟨_, rfl⟩
  have hR := fun w => y_rep c (by omega) w
  have hdt := dtext_is x d
  have hlen : d < (sgn (decide (x < 0)) ++ full x.natAbs d).length := by rw [List.length_append]; have := full_len x.natAbs d; omega
  have hsl : (sgn (decide (x < 0))).length ≤ 1 := by unfold sgn; split <;> simp
  have hle : (sgn (decide (x < 0)) ++ full x.natAbs d).length ≤ 31 := by rw [List.length_append]; omega
  have hP := fun (w : World) (B cap : Nat) hS => d_pointed B cap d (sgn (decide (x < 0)) ++ full x.natAbs d) w hS hlen (by omega)
  rw [← ptd_app _ _ _ (by have := full_len x.natAbs d; omega)] at hdt
  rw [← hdt] at hP
  have hne : dtext x d ≠ [] := by
    rw [hdt]; unfold ptd
    split
    · intro e; rw [e] at hlen; simp at hlen
    · simp
  have hfull : full x.natAbs d = List.replicate c 48 ++ Lib.decDigits x.natAbs := by rw [hc]; rfl
  have hp := pad_is d _ hd hbd.2
  have hsz : (bs (Lib.decDigits x.natAbs)).size = (Lib.decDigits x.natAbs).length := bs_size _
  have HC := Lib.hid hc
  have HLL := Lib.hid hle
  have HN := Lib.hid hN; have HR := Lib.hid hR; have HP := Lib.hid hP; have HNE := Lib.hid hne
  have HS := Lib.hid (And.intro hfull hsl)
  by_cases h : x < 0
  · have d1 : decide (x < 0) = true := decide_eq_true h
    have hw : IntKind.u64.wrap (-IntKind.u64.wrap x) = (x.natAbs : Int) := by rw [IntKind.wrap_u64, IntKind.wrap_u64]; unfold InR at hx; omega
    clear hN hR hP hne hfull hdt hlen hle hsl hbd hn hx
    generalize (Lib.decDigits x.natAbs).length = nn at *
    go_enter Tryd.func21, Tryd.ntmps21
    go_wp2_with fail
    refine HN.out.mono ?_; rintro e w1 ⟨rfl, hb1⟩
    have ec : max 0 ((d : Int) + 1 - (nn : Int)) = (c : Int) := by have := HC.out; omega
    clear hc
    go_wp2_with fail
    refine (HR.out _).mono ?_; rintro e w2 ⟨rfl, hb2⟩
    have hA : 45 :: (List.replicate c 48 ++ Lib.decDigits x.natAbs) = sgn (decide (x < 0)) ++ full x.natAbs d := by rw [HS.out.1, d1]; rfl
    rw [← hA] at HP
    have hl := HLL.out
    rw [← hA] at hl
    have hcv := run_bytes_of_string (P := Tryd.prog) w2 9 63 5 (bs (45 :: (List.replicate c 48 ++ Lib.decDigits x.natAbs))) Tryd.underlying9 Tryd.underlying63 Tryd.underlying5
    have hs3 := bytes_slc w2 (45 :: (List.replicate c 48 ++ Lib.decDigits x.natAbs)) (grownCap w2 (bs (45 :: (List.replicate c 48 ++ Lib.decDigits x.natAbs))).size 0 5) (by have := grownCap_ge w2 (bs (45 :: (List.replicate c 48 ++ Lib.decDigits x.natAbs))).size 0 5; rw [bs_size] at this ⊢; exact this) ((bytesRow (bs (45 :: (List.replicate c 48 ++ Lib.decDigits x.natAbs))) (grownCap w2 (bs (45 :: (List.replicate c 48 ++ Lib.decDigits x.natAbs))).size 0 5)).size, (bytesRow (bs (45 :: (List.replicate c 48 ++ Lib.decDigits x.natAbs))) (grownCap w2 (bs (45 :: (List.replicate c 48 ++ Lib.decDigits x.natAbs))).size 0 5)).size + 1)
    have hb3 : Below w2.heap.size w2 (w2.drew.alloc (.cells (bytesRow (bs (45 :: (List.replicate c 48 ++ Lib.decDigits x.natAbs))) (grownCap w2 (bs (45 :: (List.replicate c 48 ++ Lib.decDigits x.natAbs))).size 0 5)) 5 ((bytesRow (bs (45 :: (List.replicate c 48 ++ Lib.decDigits x.natAbs))) (grownCap w2 (bs (45 :: (List.replicate c 48 ++ Lib.decDigits x.natAbs))).size 0 5)).size, (bytesRow (bs (45 :: (List.replicate c 48 ++ Lib.decDigits x.natAbs))) (grownCap w2 (bs (45 :: (List.replicate c 48 ++ Lib.decDigits x.natAbs))).size 0 5)).size + 1))) := (Below.refl _ _).drew.alloc (Nat.le_refl _) _
    generalize (w2.drew.alloc (.cells (bytesRow (bs (45 :: (List.replicate c 48 ++ Lib.decDigits x.natAbs))) (grownCap w2 (bs (45 :: (List.replicate c 48 ++ Lib.decDigits x.natAbs))).size 0 5)) 5 ((bytesRow (bs (45 :: (List.replicate c 48 ++ Lib.decDigits x.natAbs))) (grownCap w2 (bs (45 :: (List.replicate c 48 ++ Lib.decDigits x.natAbs))).size 0 5)).size, (bytesRow (bs (45 :: (List.replicate c 48 ++ Lib.decDigits x.natAbs))) (grownCap w2 (bs (45 :: (List.replicate c 48 ++ Lib.decDigits x.natAbs))).size 0 5)).size + 1))) = W3 at *
    generalize grownCap w2 (bs (45 :: (List.replicate c 48 ++ Lib.decDigits x.natAbs))).size 0 5 = C at *
    rw [bs_size] at hcv
    have hs1 := str_cons 45 (List.replicate c 48) (by simp only [List.length_cons, List.length_append] at hl; omega)
    have hs2 := str_add (45 :: List.replicate c 48) (Lib.decDigits x.natAbs) (by simp only [List.length_cons, List.length_append] at hl ⊢; omega)
    rw [List.cons_append] at hs2
    clear hA
    generalize 45 :: (List.replicate c 48 ++ Lib.decDigits x.natAbs) = T at *
    have HS3 := Lib.hid hs3; have HB := Lib.hid ((hb1.trans (hb2.mono hb1.size)).trans (hb3.mono (Nat.le_trans hb1.size hb2.size)))
    clear hs3 hb3 hb1 hb2 hl HS
    go_wp2_with fail
    refine (HP.out _ _ _ HS3.out).mono ?_; rintro e w4 ⟨u, rfl, hu, hb4⟩
    have hbk := back_slc hu HNE.out
    go_wp2_with fail
    go_ret
    exact ⟨rfl, HB.out.trans (hb4.mono HB.out.size)⟩
  · have d1 : decide (x < 0) = false := decide_eq_false h
    have hw : IntKind.u64.wrap x = (x.natAbs : Int) := by rw [IntKind.wrap_u64]; unfold InR at hx; omega
    clear hN hR hP hne hfull hdt hlen hle hsl hbd hn hx
    generalize (Lib.decDigits x.natAbs).length = nn at *
    go_enter Tryd.func21, Tryd.ntmps21
    go_wp2_with fail
    refine HN.out.mono ?_; rintro e w1 ⟨rfl, hb1⟩
    have ec : max 0 ((d : Int) + 1 - (nn : Int)) = (c : Int) := by have := HC.out; omega
    clear hc
    go_wp2_with fail
    refine (HR.out _).mono ?_; rintro e w2 ⟨rfl, hb2⟩
    have hA : List.replicate c 48 ++ Lib.decDigits x.natAbs = sgn (decide (x < 0)) ++ full x.natAbs d := by rw [HS.out.1, d1]; rfl
    rw [← hA] at HP
    have hl := HLL.out
    rw [← hA] at hl
    have hcv := run_bytes_of_string (P := Tryd.prog) w2 9 63 5 (bs (List.replicate c 48 ++ Lib.decDigits x.natAbs)) Tryd.underlying9 Tryd.underlying63 Tryd.underlying5
    have hs3 := bytes_slc w2 (List.replicate c 48 ++ Lib.decDigits x.natAbs) (grownCap w2 (bs (List.replicate c 48 ++ Lib.decDigits x.natAbs)).size 0 5) (by have := grownCap_ge w2 (bs (List.replicate c 48 ++ Lib.decDigits x.natAbs)).size 0 5; rw [bs_size] at this ⊢; exact this) ((bytesRow (bs (List.replicate c 48 ++ Lib.decDigits x.natAbs)) (grownCap w2 (bs (List.replicate c 48 ++ Lib.decDigits x.natAbs)).size 0 5)).size, (bytesRow (bs (List.replicate c 48 ++ Lib.decDigits x.natAbs)) (grownCap w2 (bs (List.replicate c 48 ++ Lib.decDigits x.natAbs)).size 0 5)).size + 1)
    have hb3 : Below w2.heap.size w2 (w2.drew.alloc (.cells (bytesRow (bs (List.replicate c 48 ++ Lib.decDigits x.natAbs)) (grownCap w2 (bs (List.replicate c 48 ++ Lib.decDigits x.natAbs)).size 0 5)) 5 ((bytesRow (bs (List.replicate c 48 ++ Lib.decDigits x.natAbs)) (grownCap w2 (bs (List.replicate c 48 ++ Lib.decDigits x.natAbs)).size 0 5)).size, (bytesRow (bs (List.replicate c 48 ++ Lib.decDigits x.natAbs)) (grownCap w2 (bs (List.replicate c 48 ++ Lib.decDigits x.natAbs)).size 0 5)).size + 1))) := (Below.refl _ _).drew.alloc (Nat.le_refl _) _
    generalize (w2.drew.alloc (.cells (bytesRow (bs (List.replicate c 48 ++ Lib.decDigits x.natAbs)) (grownCap w2 (bs (List.replicate c 48 ++ Lib.decDigits x.natAbs)).size 0 5)) 5 ((bytesRow (bs (List.replicate c 48 ++ Lib.decDigits x.natAbs)) (grownCap w2 (bs (List.replicate c 48 ++ Lib.decDigits x.natAbs)).size 0 5)).size, (bytesRow (bs (List.replicate c 48 ++ Lib.decDigits x.natAbs)) (grownCap w2 (bs (List.replicate c 48 ++ Lib.decDigits x.natAbs)).size 0 5)).size + 1))) = W3 at *
    generalize grownCap w2 (bs (List.replicate c 48 ++ Lib.decDigits x.natAbs)).size 0 5 = C at *
    rw [bs_size] at hcv
    have hs1 : ∀ w, (Op.stringOp .add ⟨#[]⟩ (bs (List.replicate c 48))).run Tryd.prog w = .ok (.string (bs (List.replicate c 48))) w := str_add [] (List.replicate c 48) (by simp only [List.length_nil, List.length_append] at hl ⊢; omega)
    have hs2 := str_add (List.replicate c 48) (Lib.decDigits x.natAbs) (by simp only [List.length_append] at hl ⊢; omega)
    clear hA
    generalize List.replicate c 48 ++ Lib.decDigits x.natAbs = T at *
    have HS3 := Lib.hid hs3; have HB := Lib.hid ((hb1.trans (hb2.mono hb1.size)).trans (hb3.mono (Nat.le_trans hb1.size hb2.size)))
    clear hs3 hb3 hb1 hb2 hl HS
    go_wp2_with fail
    refine (HP.out _ _ _ HS3.out).mono ?_; rintro e w4 ⟨u, rfl, hu, hb4⟩
    have hbk := back_slc hu HNE.out
    go_wp2_with fail
    go_ret
    exact ⟨rfl, HB.out.trans (hb4.mono HB.out.size)⟩
end Go.Proofs.YtnomeglccihplaaDoor
