/-
  PilePlays of layer 9 answers true over a pile's contracts, for whatever calls. The conditions: the contracts.
-/
import Derived.Test.YtjkldjgeagociaaPilR
namespace Go.Proofs.Ytjkldjgeagociaa
open Go.RowKit
set_option linter.unusedSimpArgs false
set_option linter.unusedVariables false

/-- A slice of triples of numbers reads so. -/
def ReadsT (w : World) (a : Option Addr) (l : List (Int × Int × Int)) : Prop := ∀ i, i < l.length → ∃ b off, a = some ⟨b, off, none⟩ ∧ w.cell? ⟨b, off + i * 3, none⟩ = some (.int .i64 (l.getD i (0, 0, 0)).1) ∧ w.cell? ⟨b, off + i * 3 + 1, none⟩ = some (.int .i64 (l.getD i (0, 0, 0)).2.1) ∧ w.cell? ⟨b, off + i * 3 + 2, none⟩ = some (.int .i64 (l.getD i (0, 0, 0)).2.2) ∧ InR (l.getD i (0, 0, 0)).1 ∧ InR (l.getD i (0, 0, 0)).2.1 ∧ InR (l.getD i (0, 0, 0)).2.2
theorem SlPO.turn {F : Nat → Prop} {w w' : World} {u : Value} {L : List (Int × Int)} (h : SlP w u L) (t : Turn F w w') (hq : 0 < L.length → ∀ q, u.ownBlock = some q → ¬ F q) : SlP w' u L := by
  obtain ⟨a', cap, rfl, h2, h3, h4, h5⟩ := h
  refine ⟨a', cap, rfl, h2, h3, h4, fun i hi => ?_⟩
  obtain ⟨b', off, rfl, hc⟩ := h5 i hi
  refine ⟨b', off, rfl, ?_⟩
  rw [← hc]
  exact t.cell (a := ⟨b', off + i, none⟩) (World.block_lt_of_cell? w _ (hc.trans (List.getElem?_eq_getElem hi))) (hq (by rw [prs_len] at hi; omega) b' rfl)
theorem paL_len (L : List (Int × Int)) (d x y : Int) : (paL L d x y).length ≤ L.length + 1 := by
  unfold paL
  split
  · simp
  · split
    · have := (pop_sub L).length_le; omega
    · omega
/-- What holds at the loop's head. -/
structure PpRel (T : PilCon) (w : World) (B : Nat) (n : Nat) (v i : Value) (wr : World) : Prop where
  out : ∃ (k : Nat) (L : List (Int × Int)) (F : Nat → Prop), k ≤ n ∧ i = .int .i64 (k : Int) ∧ L.length ≤ k ∧ T.Rep wr B k L F ∧ SlP wr v L ∧ (0 < L.length → ∀ q, v.ownBlock = some q → ¬ F q) ∧ Below w.heap.size w wr ∧ (∀ j, F j → w.heap.size ≤ j)

set_option maxHeartbeats 8000000 in
set_option maxRecDepth 100000 in
theorem plays9 (T : PilCon) (hS : SortC) (hO : NilPop) (hU : NilPush) (a : Option Addr) (c : Nat) (l : List (Int × Int × Int)) (w : World) (hl : ReadsT w a l) (hbig : (l.length : Int) ≤ 9223372036854775807) :
    Calls Try.prog 3 #[.slice a l.length c] w fun e w' => e = .returned (.bool true) ∧ Below w.heap.size w w' := by
  have haw := p_awake T hS hO hU
  have hnw := T.new_ok w
  by_cases h100 : 100 < l.length
  · clear hl hbig
    go_enter Try.func3, Try.ntmps3
    go_wp2_with fail
    refine hnw.mono ?_; rintro e w1 ⟨B, F1, rfl, hR1, hb1, hF1⟩
    go_wp2_with fail
    refine (haw _).mono ?_; rintro e w2 ⟨rfl, hb2⟩
    go_wp2_with fail
    go_ret
    exact ⟨rfl, hb1.trans (hb2.mono hb1.size)⟩
  · have HL := Lib.hid hl; have H1 := Lib.hid h100
    clear hl hbig
    go_enter Try.func3, Try.ntmps3
    go_wp2_with fail
    refine hnw.mono ?_; rintro e w1 ⟨B, F1, rfl, hR1, hb1, hF1⟩
    clear hnw
    go_wp2_with fail
    have H0 : Hid (PpRel T w B l.length (.slice none 0 0) (.int .i64 0) w1) := ⟨⟨0, [], F1, Nat.zero_le _, rfl, Nat.zero_le _, hR1, SlP.nil _, fun h => absurd h (by simp), hb1, hF1⟩⟩
    clear hR1 hb1 hF1
    go_loopw [4, 5] (fun v i wr => PpRel T w B l.length v i wr) (fun _ i _ => l.length - (intOf i).toNat)
    case atStart => exact H0.out
    case round =>
      clear H0
      obtain ⟨k, L, F, hk, rfl, hLk, hR, hu, huq, hB, hF⟩ := hrel.out
      clear hrel
      by_cases hlt : k < l.length
      · obtain ⟨b, off, rfl, hc1, hc2, hc3, r1, r2, r3⟩ := HL.out k hlt
        have hbw : b < w.heap.size := World.block_lt_of_cell? w _ hc1
        generalize (l.getD k (0, 0, 0)).1 = d at *
        generalize (l.getD k (0, 0, 0)).2.1 = x at *
        generalize (l.getD k (0, 0, 0)).2.2 = y at *
        have HC : Hid (∀ wy, Below w.heap.size w wy → wy.cell? ⟨b, off + k * 3, none⟩ = some (.int .i64 d) ∧ wy.cell? ⟨b, off + k * 3 + 1, none⟩ = some (.int .i64 x) ∧ wy.cell? ⟨b, off + k * 3 + 2, none⟩ = some (.int .i64 y)) := fun wy h => ⟨(h.cell (p := ⟨b, _, none⟩) hbw).trans hc1, (h.cell (p := ⟨b, _, none⟩) hbw).trans hc2, (h.cell (p := ⟨b, _, none⟩) hbw).trans hc3⟩
        obtain ⟨c1, c2, c3⟩ := HC.out _ hB
        have i0 : (0 : Int) ≤ (k : Int) := by omega
        have i1 : (k : Int) < (l.length : Int) := by omega
        have HLk : Hid (L.length ≤ 100) := by show _ ≤ _; omega
        have HLK := Lib.hid hLk
        have hdo := do9 T d x y hR r2 r3 (by have := HLk.out; omega)
        have HR := Lib.hid hR; have HU := Lib.hid hu; have HUQ := Lib.hid huq; have HB := Lib.hid hB; have HF := Lib.hid hF; have HLT := Lib.hid hlt
        have HPL := Lib.hid (paL_len L d x y)
        have hrf := fun G v wz h1 h2 => ref9 G v L d x y wz h1 h2 (by have := HLk.out; omega)
        have HRF := Lib.hid hrf
        clear hc1 hc2 hc3 r1 r2 r3 hR hu huq hB hF hlt hk hLk hrf
        obtain ⟨⟨p, q⟩, hz⟩ : ∃ z : Int × Int, pa1 L d = z := ⟨_, rfl⟩
        rw [hz] at hdo HRF
        generalize paL L d x y = L' at *
        generalize pa2 L d = r at *
        clear hz
        go_wp2_with fail
        refine hdo.mono ?_; rintro e w3 ⟨rfl, F', hR', ht, hF'⟩
        have hfo := T.foot hR'
        have HU3 : Hid (SlP w3 u4 L) := SlPO.turn HU.out ht HUQ.out
        have HG3 : Hid (0 < L.length → ∀ q, u4.ownBlock = some q → ¬ F' q) := fun hp q hq r => (hF' q r).elim (HUQ.out hp q hq) (fun s => by have := HU.out.lt hp q hq; omega)
        have HB3 := Lib.hid (HB.out.trans (ht.below HF.out HB.out.size))
        have HF3 : Hid (∀ j, F' j → w.heap.size ≤ j) := fun j q => (hF' j q).elim (HF.out j) (fun q => Nat.le_trans HB.out.size q)
        have HFO := Lib.hid hfo
        have hz3 := below1 w3 (.cells #[.int .i64 p, .int .i64 q] 25)
        have HR3 := Lib.hid (T.below hR' hz3)
        have A3 := Lib.hid (At2.new w3 (.int .i64 p) (.int .i64 q) 25)
        have HU4 := Lib.hid (HU3.out.below hz3)
        have HB4 := Lib.hid (HB3.out.trans (hz3.mono HB3.out.size))
        clear hR' ht hF' hdo HR HU HUQ HB HF c1 c2 c3 hfo hz3 HU3 HB3
        generalize hW4 : w3.alloc (.cells #[.int .i64 p, .int .i64 q] 25) = W4 at *
        have HX : Hid (w3.heap.size < W4.heap.size) := A3.out.2.2
        obtain ⟨c1, c2, c3⟩ := HC.out _ HB4.out
        have hrf := HRF.out (fun q => ¬ F' q) u4 W4 HU4.out HG3.out
        go_wp2_with fail
        refine hrf.mono ?_; rintro e w5 ⟨u2, rfl, hu2, hq2, hb5⟩
        clear hrf c1 c2 c3 HRF
        have A5 := Lib.hid (A3.out.below hb5)
        have HR5 := Lib.hid (T.below HR3.out hb5)
        have HB5 := Lib.hid (HB4.out.trans (hb5.mono HB4.out.size))
        have HQ5 : Hid (0 < L'.length → ∀ q, u2.ownBlock = some q → ¬ F' q) := fun hp q hq r => (hq2 hp q hq).elim (fun s => s r) (fun s => by have := HFO.out q r; have := HX.out; omega)
        have hz5 := below1 w5 (.cells #[.int .i64 p, .int .i64 q] 25)
        have B6 := Lib.hid (At2.new w5 (.int .i64 p) (.int .i64 q) 25)
        have A6 := Lib.hid (A5.out.below hz5)
        have HR6 := Lib.hid (T.below HR5.out hz5)
        have HB6 := Lib.hid (HB5.out.trans (hz5.mono HB5.out.size))
        have HU6 := Lib.hid (SlP.below hu2 hz5)
        obtain ⟨a2, k2, rfl⟩ := hu2.form
        clear hu2 hq2 hb5 hz5 A5 HR5 HB5 A3 HR3 HB4 HU4 HG3 HX hW4
        generalize hW6 : w5.alloc (.cells #[.int .i64 p, .int .i64 q] 25) = W6 at *
        obtain ⟨x0, x1, x2⟩ := A6.out
        obtain ⟨y0, y1, y2⟩ := B6.out
        have heq := eq_pair p q p q
        rw [beq_self_eq_true, beq_self_eq_true, Bool.and_self] at heq
        have hlen := T.len HR6.out
        go_wp2_with fail
        refine hlen.mono ?_; rintro e w7 ⟨rfl, hb7⟩
        clear hlen heq x0 x1 x2 y0 y1 y2
        go_wp2_with fail
        go_roundw
        · exact ⟨⟨k + 1, L', F', by have := HLT.out; omega, by go_num, by have := HPL.out; have := HLK.out; omega, T.below HR6.out hb7, HU6.out.below hb7, HQ5.out, HB6.out.trans (hb7.mono HB6.out.size), HF3.out⟩⟩
        · have := HLT.out; simp [intOf]; omega
      · obtain rfl : k = l.length := by omega
        clear hlt hR hu huq hF hk hLk
        have HB := Lib.hid hB; clear hB
        go_wp2_with fail
        refine (haw _).mono ?_; rintro e w5 ⟨rfl, hb5⟩
        go_wp2_with fail
        go_ret
        exact ⟨rfl, HB.out.trans (hb5.mono HB.out.size)⟩
end Go.Proofs.Ytjkldjgeagociaa
