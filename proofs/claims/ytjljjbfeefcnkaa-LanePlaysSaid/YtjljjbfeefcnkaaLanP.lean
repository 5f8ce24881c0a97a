/-
  LanePlays of layer 10 answers true over a queue's contracts, for whatever numbers and calls. The conditions: the contracts.
-/
import Derived.Test.YtjljjbfeefcnkaaLanA
import Derived.Test.YtjljjbfeefcnkaaLanR
import Derived.Deep.DeepCutAuto
import Derived.Deep.RegionHeld3
namespace Go.Proofs.Ytjljjbfeefcnkaa
open Go.RowKit
set_option linter.unusedSimpArgs false
set_option linter.unusedVariables false

/-- A slice of pairs of numbers reads so. -/
def ReadsA (w : World) (a : Option Addr) (l : List (Int × Int)) : Prop := ∀ i, i < l.length → ∃ b off, a = some ⟨b, off, none⟩ ∧ w.cell? ⟨b, off + i * 2, none⟩ = some (.int .i64 (l.getD i (0, 0)).1) ∧ w.cell? ⟨b, off + i * 2 + 1, none⟩ = some (.int .i64 (l.getD i (0, 0)).2) ∧ (-9223372036854775808 ≤ (l.getD i (0, 0)).1 ∧ (l.getD i (0, 0)).1 ≤ 9223372036854775807) ∧ (-9223372036854775808 ≤ (l.getD i (0, 0)).2 ∧ (l.getD i (0, 0)).2 ≤ 9223372036854775807)
theorem below_drew_on {w v : World} (hb : Below w.drew.heap.size w.drew v) : Below w.heap.size w v := (Below.refl _ w).drew.trans hb
theorem below_alloc_on {w v : World} {o : Obj} (hb : Below (w.alloc o).drew.heap.size (w.alloc o).drew v) : Below w.heap.size w v := ((Below.refl _ w).alloc (Nat.le_refl _) o).drew.trans (hb.mono (by show w.heap.size ≤ (w.alloc o).heap.size; simp))
/-- What holds at the loop's head: the queues beside kept blocks, among them the document's queues (X) and both rooms (A, D). -/
structure PlRel (T : QueI) (w : World) (B C A D X : Nat) (m n : Int) (z : Nat) (i : Value) (wr : World) : Prop where
  out : ∃ (k : Nat) (K : Nat → Prop) (L M : List Int) (u0 u1 : Value), k ≤ z ∧ i = .int .i64 (k : Int) ∧ TwoK T K w wr B C m n L M ∧ (∀ j, j < w.heap.size → K j) ∧ (K A ∧ K D ∧ K X ∧ w.heap.size ≤ X ∧ A ≠ X ∧ D ≠ X) ∧
    Ow2 wr A (.slice none 0 0) (.int .i64 m) ∧ Ow2 wr D (.slice none 0 0) (.int .i64 n) ∧ Ow4 wr X u0 (.int .i64 m) u1 (.int .i64 n) ∧ SlG (fun b => K b ∧ b ≠ X) wr u0 L ∧ SlG (fun b => K b ∧ b ≠ X) wr u1 M

set_option maxHeartbeats 8000000 in
set_option maxRecDepth 100000 in
theorem plays10 (T : QueI) (hE : EithC T) (hN : NilTake) (hP : NilPut) (m n : Int) (a : Option Addr) (c : Nat) (l : List (Int × Int)) (w : World) (hl : ReadsA w a l) (hm : InR m) (hn : InR n) (hbig : (l.length : Int) ≤ 9223372036854775807) :
    Calls Try.prog 3 #[.agg #[.int .i64 m, .int .i64 n], .slice a l.length c] w fun e w' => e = .returned (.bool true) ∧ Below w.heap.size w w' := by
  have haw := l_awake T hE hN hP
  have hb0 := below1 w (.cells #[.int .i64 m, .int .i64 n] 22)
  obtain ⟨r0, r1, r2⟩ := At2.new w (.int .i64 m) (.int .i64 n) 22
  by_cases h100 : 100 < l.length
  · clear hl hm hn hbig
    go_enter Try.func3, Try.ntmps3
    go_wp2_with fail
    refine (haw _).mono ?_; rintro e w1 ⟨rfl, hb1⟩
    go_wp2_with fail
    go_ret
    exact ⟨rfl, hb0.trans (hb1.mono hb0.size)⟩
  by_cases ho : OkQ m ∧ OkQ n
  · have hnw := One.new (T := T) m (w.alloc (.cells #[.int .i64 m, .int .i64 n] 22)) ho.1.1 ho.1.2
    have hrm := fun w => r10new m w
    have hrn := fun w => r10new n w
    rw [if_pos ho.1, if_pos ho.1] at hrm
    rw [if_pos ho.2, if_pos ho.2] at hrn
    have HL := Lib.hid hl; have HM := Lib.hid ho; have H1 := Lib.hid h100; have HB0 := Lib.hid hb0
    clear hl hm hn ho hbig hb0
    generalize hW : w.alloc (.cells #[.int .i64 m, .int .i64 n] 22) = W at *
    go_enter Try.func3, Try.ntmps3
    go_upto_region 3 with fail
    clear hW
    have HR : Hid (∀ wy, Below W.heap.size W wy → wy.cell? ⟨w.heap.size, 0, none⟩ = some (.int .i64 m) ∧ wy.cell? ⟨w.heap.size, 1, none⟩ = some (.int .i64 n)) := fun wy h => ⟨(h.cell (p := ⟨w.heap.size, 0, none⟩) r2).trans r0, (h.cell (p := ⟨w.heap.size, 1, none⟩) r2).trans r1⟩
    generalize w.heap.size = X0 at HR r0 r1 r2 ⊢
    clear r1 r2
    go_wp2_with fail
    refine hnw.mono ?_; rintro e w1 ⟨B, rfl, hO⟩
    have hn2 := hO.new2 n HM.out.2.1 HM.out.2.2
    obtain ⟨_, r1⟩ := HR.out _ hO.hb
    clear hnw r0
    go_wp2_with fail
    refine hn2.mono ?_; rintro e w2 ⟨C, rfl, hT⟩
    clear hn2 r1 hO
    obtain ⟨r0, _⟩ := HR.out _ hT.hb
    go_wp2_with fail
    refine (hrm _).mono ?_; rintro e w3 ⟨rfl, hb3⟩
    have hT2 := hT
    have hb25 := hb3.alloc hb3.size (.cells #[.slice none 0 0, .int .i64 m] 31)
    have hs3 := hb3.size
    have HT3 := hT.below hb3
    have HT3 := HT3.below (below1 w3 (.cells #[.slice none 0 0, .int .i64 m] 31))
    have A3 := Ow2.new w3 (.slice none 0 0) (.int .i64 m) 31
    obtain ⟨_, r1⟩ := HR.out _ HT3.hb
    clear hrm hb3 hT r0
    go_wp2_with fail
    refine (hrn _).mono ?_; rintro e w4 ⟨rfl, hb4⟩
    have A4 := (A3.below hb4).alloc (.cells #[.slice none 0 0, .int .i64 n] 31)
    have D4 := Ow2.new w4 (.slice none 0 0) (.int .i64 n) 31
    have HT4 := (HT3.below hb4).below (below1 w4 (.cells #[.slice none 0 0, .int .i64 n] 31))
    have hb26 := hb25.trans (hb4.mono hb25.size)
    have hb27 := (hb26.alloc hb26.size (.cells #[.slice none 0 0, .int .i64 n] 31))
    have hb28 := hb27.alloc hb27.size (.cells #[.slice none 0 0, .int .i64 m, .slice none 0 0, .int .i64 n] 34)
    have X5 := Ow4.new (w4.alloc (.cells #[.slice none 0 0, .int .i64 n] 31)) (.slice none 0 0) (.int .i64 m) (.slice none 0 0) (.int .i64 n) 34
    have hAD : w3.heap.size < w4.heap.size := Nat.lt_of_lt_of_le (by simp) hb4.size
    have H0 : Hid (PlRel T W B C w3.heap.size w4.heap.size (w4.heap.size + 1) m n l.length (.int .i64 0) ((w4.alloc (.cells #[.slice none 0 0, .int .i64 n] 31)).alloc (.cells #[.slice none 0 0, .int .i64 m, .slice none 0 0, .int .i64 n] 34))) := by
      have hs2 := hT2.hb.size
      refine ⟨⟨0, fun j => j < W.heap.size ∨ j = w3.heap.size ∨ j = w4.heap.size ∨ j = w4.heap.size + 1, [], [], _, _, Nat.zero_le _, rfl, (TwoK.of hT2).more hb28 ?_, fun j q => Or.inl q, ⟨Or.inr (Or.inl rfl), Or.inr (Or.inr (Or.inl rfl)), Or.inr (Or.inr (Or.inr rfl)), by omega, by omega, by omega⟩,
        A4.alloc _, D4.alloc _, by simpa using X5, ⟨Sl.nil _, fun b q => by (cases q)⟩, ⟨Sl.nil _, fun b q => by (cases q)⟩⟩⟩
      rintro j (q | q | q | q)
      · exact Or.inl q
      · right; subst q; refine ⟨hs3, by simp <;> omega⟩
      · right; subst q; refine ⟨by omega, by simp <;> omega⟩
      · right; subst q; refine ⟨by omega, by simp <;> omega⟩
    obtain ⟨⟨a0, a1, _⟩, _, _⟩ := A4
    obtain ⟨⟨d0, d1, _⟩, _, _⟩ := D4
    clear hrn hb4 A3 HT3 HT4 r1 hb25 hb26 hb27 hb28 X5 hT2 hs3 hAD
    generalize hA : w3.heap.size = A at *
    clear hA
    go_wp2_with fail
    generalize (w4.alloc (.cells #[.slice none 0 0, .int .i64 n] 31)).alloc (.cells #[.slice none 0 0, .int .i64 m, .slice none 0 0, .int .i64 n] 34) = W5 at *
    generalize w4.heap.size + 1 = X at *
    generalize w4.heap.size = D at *
    clear a0 a1 d0 d1
    go_loopw [14] (fun i wr => PlRel T W B C A D X m n l.length i wr) (fun i _ => l.length - (intOf i).toNat)
    case atStart => exact H0.out
    case round =>
      clear H0
      obtain ⟨k, K, L, M, u0, u1, hk, rfl, hR, hKW, hKX, hA, hD, hX, hu0, hu1⟩ := hrel.out
      clear hrel
      by_cases hlt : k < l.length
      · obtain ⟨b, off, rfl, hc1, hc2, r1, r2⟩ := HL.out k hlt
        have hbw : b < w.heap.size := World.block_lt_of_cell? w _ hc1
        generalize (l.getD k (0, 0)).1 = d at *
        generalize (l.getD k (0, 0)).2 = x at *
        have HC : Hid (∀ wy, Below W.heap.size W wy → wy.cell? ⟨b, off + k * 2, none⟩ = some (.int .i64 d) ∧ wy.cell? ⟨b, off + k * 2 + 1, none⟩ = some (.int .i64 x)) := fun wy h => by
          have h' := HB0.out.trans (h.mono HB0.out.size)
          exact ⟨(h'.cell (p := ⟨b, _, none⟩) hbw).trans hc1, (h'.cell (p := ⟨b, _, none⟩) hbw).trans hc2⟩
        obtain ⟨c1, c2⟩ := HC.out _ hR.hb
        have hinv := hR.inv
        have i0 : (0 : Int) ≤ (k : Int) := by omega
        have i1 : (k : Int) < (l.length : Int) := by omega
        have hdo := do10 hE d x m n hR r2
        have HKX := Lib.hid hKX; have HKW := Lib.hid hKW; have HA := Lib.hid hA; have HD := Lib.hid hD; have HX := Lib.hid hX; have HU0 := Lib.hid hu0; have HU1 := Lib.hid hu1; have HX2 := Lib.hid r2; have HLT := Lib.hid hlt; have HIN := Lib.hid hinv
        clear hc1 hc2 r1 r2 hR hKW hKX hA hD hX hu0 hu1 hinv hlt hk
        go_wp2_with fail
        refine hdo.mono ?_; rintro e w3 ⟨rfl, hR3, ht⟩
        have HR3 := Lib.hid hR3
        have HA3 := Lib.hid (HA.out.turn ht (fun q => q HKX.out.1)); have HD3 := Lib.hid (HD.out.turn ht (fun q => q HKX.out.2.1)); have HX3 := Lib.hid (HX.out.turn ht (fun q => q HKX.out.2.2.1))
        have HU03 := Lib.hid (HU0.out.turn ht (fun b q r => r q.1)); have HU13 := Lib.hid (HU1.out.turn ht (fun b q r => r q.1))
        clear hR3 ht hdo HA HD HX HU0 HU1 c1 c2
        obtain ⟨c1, c2⟩ := HC.out _ HR3.out.hb
        obtain ⟨x0, x1, x2, x3, _, _, _, _, hXlt⟩ := HX3.out
        have hb0 : b < W.heap.size := Nat.lt_of_lt_of_le hbw HB0.out.size
        go_upto_region 16 with fail
        go_cut [18, 19, 20, 21] (fun s18 s19 s20 s21 wx => ∃ X2 v0 v1, s18 = .pointer (some ⟨X2, 0, none⟩) ∧ s19 = .int .i64 (laX d L M) ∧ s20 = .int .i64 (laE d m n L M) ∧ s21 = .bool (laB d L M) ∧ Ow4 wx X2 v0 (.int .i64 m) v1 (.int .i64 n) ∧
          SlG (fun b => (K b ∧ b ≠ X) ∨ w3.heap.size ≤ b) wx v0 (laL d m x L) ∧ SlG (fun b => (K b ∧ b ≠ X) ∨ w3.heap.size ≤ b) wx v1 (laM d n x L M) ∧ Below w3.heap.size w3 wx ∧ w3.heap.size ≤ X2)
        case first =>
          have hrf : ∀ wz, Below w3.heap.size w3 wz → Calls Try.prog 10 #[.agg #[u0, .int .i64 m, u1, .int .i64 n], .agg #[.int .i64 d, .int .i64 x]] wz fun e w' => ∃ v0 v1, e = .returned (.tuple #[.agg #[v0, .int .i64 m, v1, .int .i64 n], .int .i64 (laX d L M), .int .i64 (laE d m n L M), .bool (laB d L M)]) ∧
              SlG (fun b => (K b ∧ b ≠ X ∧ b < w3.heap.size) ∨ wz.heap.size ≤ b) w' v0 (laL d m x L) ∧ SlG (fun b => (K b ∧ b ≠ X ∧ b < w3.heap.size) ∨ wz.heap.size ≤ b) w' v1 (laM d n x L M) ∧ Below wz.heap.size wz w' := fun wz h =>
            ref10do (fun b => K b ∧ b ≠ X ∧ b < w3.heap.size) d x m n u0 u1 L M wz ((HU03.out.mono (G' := fun b => K b ∧ b ≠ X ∧ b < w3.heap.size) (fun b q r => ⟨r.1, r.2, q⟩)).below h) ((HU13.out.mono (G' := fun b => K b ∧ b ≠ X ∧ b < w3.heap.size) (fun b q r => ⟨r.1, r.2, q⟩)).below h) HX2.out (by have := HIN.out; omega) (by have := HIN.out; omega)
          have HRF := Lib.hid hrf; clear hrf
          have CL : Hid (∀ wz, Below w3.heap.size w3 wz → wz.cell? ⟨X, 0, none⟩ = some u0 ∧ wz.cell? ⟨X, 1, none⟩ = some (.int .i64 m) ∧ wz.cell? ⟨X, 2, none⟩ = some u1 ∧ wz.cell? ⟨X, 3, none⟩ = some (.int .i64 n) ∧ wz.cell? ⟨b, off + k * 2, none⟩ = some (.int .i64 d) ∧ wz.cell? ⟨b, off + k * 2 + 1, none⟩ = some (.int .i64 x)) := fun wz h => by
            have q := HX3.out.below h
            have r := HC.out wz (HR3.out.hb.trans (h.mono HR3.out.hb.size))
            exact ⟨q.c0, q.c1, q.c2, q.c3, r.1, r.2⟩
          have N0 := Lib.hid (Ow4.new w3 (.slice none 0 0) (.int .i64 0) (.slice none 0 0) (.int .i64 0) 34)
          clear x0 x1 x2 x3 c1 c2
          obtain ⟨x0, x1, x2, x3, c1, c2⟩ := CL.out w3 (Below.refl _ _)
          go_region_held3 (fun wz => wz.cell? ⟨X, 0, none⟩ = some u0 ∧ wz.cell? ⟨X, 1, none⟩ = some (.int .i64 m) ∧ wz.cell? ⟨X, 2, none⟩ = some u1 ∧ wz.cell? ⟨X, 3, none⟩ = some (.int .i64 n) ∧ wz.cell? ⟨b, off + k * 2, none⟩ = some (.int .i64 d) ∧ wz.cell? ⟨b, off + k * 2 + 1, none⟩ = some (.int .i64 x))
            ((refine CL.out _ ?_; repeat first | exact (Below.refl _ _) | exact J4.out | refine Below.drew ?_ | refine Below.setCell ?_ (by first | exact Nat.le_refl _ | exact J4.out.size) _ | refine Below.alloc ?_ (by first | exact Nat.le_refl _ | exact J4.out.size) _))
            (first
              | (go_at_call 10; (with_reducible first | refine (HRF.out _ (Below.refl _ _).drew).mono ?_ | refine (HRF.out _ ((Below.refl _ _).alloc (Nat.le_refl _) _).drew).mono ?_); rintro e v4 ⟨u2, u3, rfl, hu2, hu3, hbn⟩
                 have J4' : Below w3.heap.size w3 v4 := by with_reducible first | exact below_drew_on hbn | exact below_alloc_on hbn
                 have J4 := Lib.hid J4'; clear J4'
                 have U2 := Lib.hid hu2; have U3 := Lib.hid hu3
                 obtain ⟨a2, q2, rfl⟩ := hu2.1.form
                 obtain ⟨a3, q3, rfl⟩ := hu3.1.form
                 clear hu2 hu3
                 try (with_reducible have n1' := N0.out.drew.below hbn
                      have n1 := Lib.hid n1'
                      obtain ⟨p0, p1, p2, p3, p4, p5, p6, p7, _⟩ := n1')
                 clear hbn))
          all_goals go_wp2_with fail
          all_goals go_meet
          all_goals
            first
            | (have JA := J4.out.alloc J4.out.size (.cells #[.slice a2 (laL d m x L).length q2, .int .i64 m, .slice a3 (laM d n x L M).length q3, .int .i64 n] 34)
               exact ⟨_, _, _, rfl, rfl, rfl, rfl, Ow4.new _ _ _ _ _ _, (U2.out.mono (fun b _ q => q.imp (fun q => ⟨q.1, q.2.1⟩) (fun q => q))).below (below1 _ _), (U3.out.mono (fun b _ q => q.imp (fun q => ⟨q.1, q.2.1⟩) (fun q => q))).below (below1 _ _), JA, J4.out.size⟩)
            | (have t5 := turn_set4 (F := fun j => j = w3.heap.size) (Turn.refl _ v4) (k := w3.heap.size) (Or.inl rfl) (.slice a2 (laL d m x L).length q2) (.int .i64 m) (.slice a3 (laM d n x L M).length q3) (.int .i64 n)
               have JA := (((J4.out.setCell (p := ⟨w3.heap.size, 0, none⟩) (Nat.le_refl _) (.slice a2 (laL d m x L).length q2)).setCell (p := ⟨w3.heap.size, 1, none⟩) (Nat.le_refl _) (.int .i64 m)).setCell (p := ⟨w3.heap.size, 2, none⟩) (Nat.le_refl _) (.slice a3 (laM d n x L M).length q3)).setCell (p := ⟨w3.heap.size, 3, none⟩) (Nat.le_refl _) (.int .i64 n)
               have hsz : (w3.alloc (.cells #[.slice none 0 0, .int .i64 0, .slice none 0 0, .int .i64 0] 34)).drew.heap.size = w3.heap.size + 1 := by show (w3.alloc _).heap.size = _; simp
               have V2 := U2.out; have V3 := U3.out
               rw [hsz] at V2 V3
               exact ⟨_, _, _, rfl, rfl, rfl, rfl, Ow4.put n1.out, (V2.turn t5 (fun b q r => by rcases q with q | q <;> omega)).mono (fun b _ q => q.imp (fun q => ⟨q.1, q.2.1⟩) (fun q => by omega)), (V3.turn t5 (fun b q r => by rcases q with q | q <;> omega)).mono (fun b _ q => q.imp (fun q => ⟨q.1, q.2.1⟩) (fun q => by omega)), JA, Nat.le_refl _⟩)
        case rest =>
          obtain ⟨X2, v0, v1, rfl, rfl, rfl, rfl, hX2, hv0, hv1, hbc, hX2n⟩ := hcut
          obtain ⟨a4, q4, rfl⟩ := hv0.1.form
          obtain ⟨a5, q5, rfl⟩ := hv1.1.form
          have t5 := turn_set4 (F := fun j => j = X) (Turn.refl _ wc) (k := X) (Or.inl rfl) (.slice a4 (laL d m x L).length q4) (.int .i64 m) (.slice a5 (laM d n x L M).length q5) (.int .i64 n)
          have HR5 := Lib.hid ((HR3.out.more (K' := fun j => K j ∨ (w3.heap.size ≤ j ∧ j < wc.heap.size)) hbc (fun j q => q)).turned t5 (fun j q => by subst q; exact ⟨Or.inl HKX.out.2.2.1, HKX.out.2.2.2.1⟩))
          have HA5 := Lib.hid ((HA3.out.below hbc).turn t5 HKX.out.2.2.2.2.1); have HD5 := Lib.hid ((HD3.out.below hbc).turn t5 HKX.out.2.2.2.2.2)
          have hX3 := HX3.out.below hbc
          have HX5 := Lib.hid (hX3.put (p' := .slice a4 (laL d m x L).length q4) (q' := .int .i64 m) (r' := .slice a5 (laM d n x L M).length q5) (s' := .int .i64 n))
          have HG : Hid (∀ b, b < wc.heap.size → ((K b ∧ b ≠ X) ∨ w3.heap.size ≤ b) → (K b ∨ (w3.heap.size ≤ b ∧ b < wc.heap.size)) ∧ b ≠ X) := fun b q r => by
            rcases r with r | r
            · exact ⟨Or.inl r.1, r.2⟩
            · exact ⟨Or.inr ⟨r, q⟩, by omega⟩
          have HS0 := Lib.hid ((hv0.mono HG.out).turn t5 (fun b q r => q.2 r)); have HS1 := Lib.hid ((hv1.mono HG.out).turn t5 (fun b q r => q.2 r))
          have HKW5 : Hid (∀ j, j < W.heap.size → K j ∨ (w3.heap.size ≤ j ∧ j < wc.heap.size)) := fun j q => Or.inl (HKW.out j q)
          have HKX5 : Hid ((K A ∨ (w3.heap.size ≤ A ∧ A < wc.heap.size)) ∧ (K D ∨ (w3.heap.size ≤ D ∧ D < wc.heap.size)) ∧ (K X ∨ (w3.heap.size ≤ X ∧ X < wc.heap.size)) ∧ W.heap.size ≤ X ∧ A ≠ X ∧ D ≠ X) := ⟨Or.inl HKX.out.1, Or.inl HKX.out.2.1, Or.inl HKX.out.2.2.1, HKX.out.2.2.2⟩
          clear x0 x1 x2 x3 c1 c2 hv0 hv1 hbc t5 hXlt hX2n
          obtain ⟨x0, x1, x2, x3, x4, x5, x6, x7, _⟩ := hX3
          obtain ⟨y0, y1, y2, y3, _, _, _, _, _⟩ := hX2
          go_upto_region 18 with fail
          generalize (((wc.setCell ⟨X, 0, none⟩ (.slice a4 (laL d m x L).length q4)).setCell ⟨X, 1, none⟩ (.int .i64 m)).setCell ⟨X, 2, none⟩ (.slice a5 (laM d n x L M).length q5)).setCell ⟨X, 3, none⟩ (.int .i64 n) = W5 at *
          clear x0 x1 x2 x3 x4 x5 x6 x7 y0 y1 y2 y3
          have hlA := fun wz (h : Below W5.heap.size W5 wz) => (HR5.out.below h).lenA
          have hlB := fun wz (h : Below W5.heap.size W5 wz) => (HR5.out.below h).lenB
          have hrA := fun wz (h : Below W5.heap.size W5 wz) => (HR5.out.below h).roomA
          have hrB := fun wz (h : Below W5.heap.size W5 wz) => (HR5.out.below h).roomB
          have CX : Hid (∀ wz, Below W5.heap.size W5 wz → wz.cell? ⟨X, 0, none⟩ = some (.slice a4 (laL d m x L).length q4) ∧ wz.cell? ⟨X, 2, none⟩ = some (.slice a5 (laM d n x L M).length q5) ∧ wz.cell? ⟨A, 1, none⟩ = some (.int .i64 m) ∧ wz.cell? ⟨D, 1, none⟩ = some (.int .i64 n)) := fun wz h =>
            ⟨(HX5.out.below h).c0, (HX5.out.below h).c2, (HA5.out.below h).1.2.1, (HD5.out.below h).1.2.1⟩
          go_region_held3 (fun wz => wz.cell? ⟨X, 0, none⟩ = some (.slice a4 (laL d m x L).length q4) ∧ wz.cell? ⟨X, 2, none⟩ = some (.slice a5 (laM d n x L M).length q5) ∧ wz.cell? ⟨A, 1, none⟩ = some (.int .i64 m) ∧ wz.cell? ⟨D, 1, none⟩ = some (.int .i64 n))
            ((refine CX.out _ ?_; first | exact (Below.refl _ _) | exact (Below.refl _ _).drew | exact J9.out | exact J8.out | exact J7.out | exact J6.out))
            (first
              | (go_at_call 11; with_reducible refine (hlA _ (Below.refl _ _).drew).mono ?_; rintro e w6 ⟨rfl, hb6⟩; have J6 := Lib.hid (below_drew_on hb6); clear hb6)
              | (go_at_call 11; with_reducible first | refine (hlB _ J6.out).mono ?_ | refine (hlB _ J6.out.drew).mono ?_
                 rintro e w7 ⟨rfl, hb7⟩; have J7 := Lib.hid (J6.out.trans (hb7.mono J6.out.size)); clear hb7)
              | (go_at_call 12; with_reducible first | refine (hrA _ J7.out).mono ?_ | refine (hrA _ J7.out.drew).mono ?_
                 rintro e w8 ⟨rfl, hb8⟩; have J8 := Lib.hid (J7.out.trans (hb8.mono J7.out.size)); clear hb8)
              | (go_at_call 12; with_reducible first | refine (hrB _ J8.out).mono ?_ | refine (hrB _ J8.out.drew).mono ?_
                 rintro e w9 ⟨rfl, hb9⟩; have J9 := Lib.hid (J8.out.trans (hb9.mono J8.out.size)); clear hb9))
          all_goals go_wp2_with fail
          all_goals go_roundw
          · exact ⟨⟨k + 1, _, _, _, _, _, by have := HLT.out; omega, by go_num, HR5.out.below J9.out, HKW5.out, HKX5.out, HA5.out.below J9.out, HD5.out.below J9.out, HX5.out.below J9.out, HS0.out.below J9.out, HS1.out.below J9.out⟩⟩
          · have := HLT.out; simp [intOf]; omega
      · obtain rfl : k = l.length := by omega
        have hb := hR.hb
        clear hlt hR hKW hKX hA hD hX hu0 hu1 hk
        go_wp2_with fail
        refine (haw _).mono ?_; rintro e w5 ⟨rfl, hb5⟩
        go_wp2_with fail
        go_ret
        exact ⟨rfl, HB0.out.trans ((hb.trans (hb5.mono hb.size)).mono HB0.out.size)⟩
  · by_cases hmo : OkQ m
    · have hno : ¬ OkQ n := fun q => ho ⟨hmo, q⟩
      clear ho
      have hrm := fun w => r10new m w
      have hrn := fun w => r10new n w
      rw [if_pos hmo, if_pos hmo] at hrm
      rw [if_neg hno, if_neg hno] at hrn
      have hnm : ∀ w, Calls Try.prog 7 #[.int .i64 m] w fun e w' => (∃ B, e = .returned (.tuple #[.pointer (some ⟨B, 0, none⟩), .int .i64 0])) ∧ Below w.heap.size w w' := fun w => (T.new_ok m w hmo.1 hmo.2).mono fun e w' ⟨B, F, he, _, hb, _⟩ => ⟨⟨B, he⟩, hb⟩
      have hnn : ∀ w, Calls Try.prog 7 #[.int .i64 n] w fun e w' => e = .returned (.tuple #[.pointer none, .int .i64 2]) ∧ Below w.heap.size w w' := fun w => T.new_no n w hno
      have HB0 := Lib.hid hb0
      clear hl hm hn hbig hb0 hmo hno
      generalize hW : w.alloc (.cells #[.int .i64 m, .int .i64 n] 22) = W at *
      go_enter Try.func3, Try.ntmps3
      go_upto_region 3 with fail
      clear hW
      have HR : Hid (∀ wy, Below W.heap.size W wy → wy.cell? ⟨w.heap.size, 0, none⟩ = some (.int .i64 m) ∧ wy.cell? ⟨w.heap.size, 1, none⟩ = some (.int .i64 n)) := fun wy h => ⟨(h.cell (p := ⟨w.heap.size, 0, none⟩) r2).trans r0, (h.cell (p := ⟨w.heap.size, 1, none⟩) r2).trans r1⟩
      generalize w.heap.size = X0 at HR r0 r1 r2 ⊢
      clear r1 r2
      go_wp2_with fail
      refine (hnm _).mono ?_; rintro e w1 ⟨⟨B, rfl⟩, hb1⟩
      obtain ⟨_, r1⟩ := HR.out _ hb1
      clear hnm r0
      go_wp2_with fail
      refine (hnn _).mono ?_; rintro e w2 ⟨rfl, hb2⟩
      have hc2 := hb1.trans (hb2.mono hb1.size)
      obtain ⟨r0, _⟩ := HR.out _ hc2
      clear hnn r1 hb1 hb2
      go_wp2_with fail
      refine (hrm _).mono ?_; rintro e w3 ⟨rfl, hb3⟩
      have hc3 := (hc2.trans (hb3.mono hc2.size)).alloc (hc2.trans (hb3.mono hc2.size)).size (.cells #[.slice none 0 0, .int .i64 m] 31)
      obtain ⟨_, r1⟩ := HR.out _ hc3
      clear hrm hb3 hc2 r0
      go_wp2_with fail
      refine (hrn _).mono ?_; rintro e w4 ⟨rfl, hb4⟩
      have hc4 := (hc3.trans (hb4.mono hc3.size)).alloc (hc3.trans (hb4.mono hc3.size)).size (.cells #[.slice none 0 0, .int .i64 0] 31)
      clear hrn hb4 hc3 r1
      go_wp2_with fail
      refine (haw _).mono ?_; rintro e w5 ⟨rfl, hb5⟩
      go_wp2_with fail
      go_ret
      exact ⟨rfl, HB0.out.trans ((hc4.trans (hb5.mono hc4.size)).mono HB0.out.size)⟩
    · clear ho
      by_cases hno : OkQ n
      · have hrm := fun w => r10new m w
        have hrn := fun w => r10new n w
        rw [if_neg hmo, if_neg hmo] at hrm
        rw [if_pos hno, if_pos hno] at hrn
        have hnm : ∀ w, Calls Try.prog 7 #[.int .i64 m] w fun e w' => e = .returned (.tuple #[.pointer none, .int .i64 2]) ∧ Below w.heap.size w w' := fun w => T.new_no m w hmo
        have hnn : ∀ w, Calls Try.prog 7 #[.int .i64 n] w fun e w' => (∃ B, e = .returned (.tuple #[.pointer (some ⟨B, 0, none⟩), .int .i64 0])) ∧ Below w.heap.size w w' := fun w => (T.new_ok n w hno.1 hno.2).mono fun e w' ⟨B, F, he, _, hb, _⟩ => ⟨⟨B, he⟩, hb⟩
        have HB0 := Lib.hid hb0
        clear hl hm hn hbig hb0 hmo hno
        generalize hW : w.alloc (.cells #[.int .i64 m, .int .i64 n] 22) = W at *
        go_enter Try.func3, Try.ntmps3
        go_upto_region 3 with fail
        clear hW
        have HR : Hid (∀ wy, Below W.heap.size W wy → wy.cell? ⟨w.heap.size, 0, none⟩ = some (.int .i64 m) ∧ wy.cell? ⟨w.heap.size, 1, none⟩ = some (.int .i64 n)) := fun wy h => ⟨(h.cell (p := ⟨w.heap.size, 0, none⟩) r2).trans r0, (h.cell (p := ⟨w.heap.size, 1, none⟩) r2).trans r1⟩
        generalize w.heap.size = X0 at HR r0 r1 r2 ⊢
        clear r1 r2
        go_wp2_with fail
        refine (hnm _).mono ?_; rintro e w1 ⟨rfl, hb1⟩
        obtain ⟨_, r1⟩ := HR.out _ hb1
        clear hnm r0
        go_wp2_with fail
        refine (hnn _).mono ?_; rintro e w2 ⟨⟨C, rfl⟩, hb2⟩
        have hc2 := hb1.trans (hb2.mono hb1.size)
        obtain ⟨r0, _⟩ := HR.out _ hc2
        clear hnn r1 hb1 hb2
        go_wp2_with fail
        refine (hrm _).mono ?_; rintro e w3 ⟨rfl, hb3⟩
        have hc3 := (hc2.trans (hb3.mono hc2.size)).alloc (hc2.trans (hb3.mono hc2.size)).size (.cells #[.slice none 0 0, .int .i64 0] 31)
        obtain ⟨_, r1⟩ := HR.out _ hc3
        clear hrm hb3 hc2 r0
        go_wp2_with fail
        refine (hrn _).mono ?_; rintro e w4 ⟨rfl, hb4⟩
        have hc4 := (hc3.trans (hb4.mono hc3.size)).alloc (hc3.trans (hb4.mono hc3.size)).size (.cells #[.slice none 0 0, .int .i64 n] 31)
        clear hrn hb4 hc3 r1
        go_wp2_with fail
        refine (haw _).mono ?_; rintro e w5 ⟨rfl, hb5⟩
        go_wp2_with fail
        go_ret
        exact ⟨rfl, HB0.out.trans ((hc4.trans (hb5.mono hc4.size)).mono HB0.out.size)⟩
      · have hrm := fun w => r10new m w
        have hrn := fun w => r10new n w
        rw [if_neg hmo, if_neg hmo] at hrm
        rw [if_neg hno, if_neg hno] at hrn
        have hnm : ∀ w, Calls Try.prog 7 #[.int .i64 m] w fun e w' => e = .returned (.tuple #[.pointer none, .int .i64 2]) ∧ Below w.heap.size w w' := fun w => T.new_no m w hmo
        have hnn : ∀ w, Calls Try.prog 7 #[.int .i64 n] w fun e w' => e = .returned (.tuple #[.pointer none, .int .i64 2]) ∧ Below w.heap.size w w' := fun w => T.new_no n w hno
        have HB0 := Lib.hid hb0
        clear hl hm hn hbig hb0 hmo hno
        generalize hW : w.alloc (.cells #[.int .i64 m, .int .i64 n] 22) = W at *
        go_enter Try.func3, Try.ntmps3
        go_upto_region 3 with fail
        clear hW
        have HR : Hid (∀ wy, Below W.heap.size W wy → wy.cell? ⟨w.heap.size, 0, none⟩ = some (.int .i64 m) ∧ wy.cell? ⟨w.heap.size, 1, none⟩ = some (.int .i64 n)) := fun wy h => ⟨(h.cell (p := ⟨w.heap.size, 0, none⟩) r2).trans r0, (h.cell (p := ⟨w.heap.size, 1, none⟩) r2).trans r1⟩
        generalize w.heap.size = X0 at HR r0 r1 r2 ⊢
        clear r1 r2
        go_wp2_with fail
        refine (hnm _).mono ?_; rintro e w1 ⟨rfl, hb1⟩
        obtain ⟨_, r1⟩ := HR.out _ hb1
        clear hnm r0
        go_wp2_with fail
        refine (hnn _).mono ?_; rintro e w2 ⟨rfl, hb2⟩
        have hc2 := hb1.trans (hb2.mono hb1.size)
        obtain ⟨r0, _⟩ := HR.out _ hc2
        clear hnn r1 hb1 hb2
        go_wp2_with fail
        refine (hrm _).mono ?_; rintro e w3 ⟨rfl, hb3⟩
        have hc3 := (hc2.trans (hb3.mono hc2.size)).alloc (hc2.trans (hb3.mono hc2.size)).size (.cells #[.slice none 0 0, .int .i64 0] 31)
        obtain ⟨_, r1⟩ := HR.out _ hc3
        clear hrm hb3 hc2 r0
        go_wp2_with fail
        refine (hrn _).mono ?_; rintro e w4 ⟨rfl, hb4⟩
        have hc4 := (hc3.trans (hb4.mono hc3.size)).alloc (hc3.trans (hb4.mono hc3.size)).size (.cells #[.slice none 0 0, .int .i64 0] 31)
        clear hrn hb4 hc3 r1
        go_wp2_with fail
        refine (haw _).mono ?_; rintro e w5 ⟨rfl, hb5⟩
        go_wp2_with fail
        go_ret
        exact ⟨rfl, HB0.out.trans ((hc4.trans (hb5.mono hc4.size)).mono HB0.out.size)⟩
end Go.Proofs.Ytjljjbfeefcnkaa
