/-
  InternPlays of layer 8 answers true over a table's contracts, for whatever number and calls. The conditions: the contracts.
-/
import Derived.Test.YteeonglebimnlaaIntA
import Derived.Test.YteeonglebimnlaaIntR
import Derived.Deep.DeepCutAuto
import Derived.Deep.RegionHeld3
namespace Go.Proofs.Yteeonglebimnlaa
open Go.RowKit
set_option linter.unusedSimpArgs false
set_option linter.unusedVariables false

/-- A slice of pairs of numbers reads so. -/
def ReadsP (w : World) (a : Option Addr) (l : List (Int × Int)) : Prop := ∀ i, i < l.length → ∃ b off, a = some ⟨b, off, none⟩ ∧ w.cell? ⟨b, off + i * 2, none⟩ = some (.int .i64 (l.getD i (0, 0)).1) ∧ w.cell? ⟨b, off + i * 2 + 1, none⟩ = some (.int .i64 (l.getD i (0, 0)).2) ∧ InR (l.getD i (0, 0)).1 ∧ InR (l.getD i (0, 0)).2
theorem ReadsP.below {w w' : World} {a : Option Addr} {l : List (Int × Int)} (h : ReadsP w a l) (hb : Below w.heap.size w w') : ReadsP w' a l := fun i hi => by
  obtain ⟨b, off, h1, h2, h3, h4⟩ := h i hi
  exact ⟨b, off, h1, (hb.cell (World.block_lt_of_cell? w _ h2)).trans h2, (hb.cell (World.block_lt_of_cell? w _ h3)).trans h3, h4⟩

theorem TabG.slo {F : Nat → Prop} {w0 w : World} {N : Nat} {u : Value} {K : List Int} {m : Int} (h : TabG (fun b => Out F w0 b ∨ N ≤ b) w (.agg #[u, .int .i64 m]) K m) (hF : ∀ j, F j → j < N) : SlO F w u K := by
  obtain ⟨u', e, h1, h2⟩ := h
  have : u = u' := by simpa using e
  subst this
  refine ⟨h1, fun b q => ⟨(h2 b q).1, fun r => ?_⟩⟩
  rcases (h2 b q).2 with s | s
  · exact s.2 r
  · have := hF b r; omega
theorem SlO.tab {F : Nat → Prop} {w : World} {u : Value} {K : List Int} (h : SlO F w u K) (m : Int) : TabG (Out F w) w (.agg #[u, .int .i64 m]) K m := ⟨u, rfl, h.1, fun b q => ⟨(h.2 b q).1, h.2 b q⟩⟩
theorem below_drew_on {w v : World} (hb : Below w.drew.heap.size w.drew v) : Below w.heap.size w v := (Below.refl _ w).drew.trans hb
theorem below_alloc_on {w v : World} {o : Obj} (hb : Below (w.alloc o).drew.heap.size (w.alloc o).drew v) : Below w.heap.size w v := ((Below.refl _ w).alloc (Nat.le_refl _) o).drew.trans (hb.mono (by show w.heap.size ≤ (w.alloc o).heap.size; simp))
theorem slo_fin {F : Nat → Prop} {w3 v4 wx : World} {N X2 : Nat} {u : Value} {K : List Int} {m : Int} (h : TabG (fun b => Out F w3 b ∨ N ≤ b) v4 (.agg #[u, .int .i64 m]) K m) (hF : ∀ j, F j → j < w3.heap.size) (hN : w3.heap.size ≤ N) (t : Turn (fun j => j = X2) v4 wx) (hX : (w3.heap.size ≤ X2 ∧ X2 < N) ∨ v4.heap.size ≤ X2) : SlO F wx u K := by
  obtain ⟨u', e, h1, h2⟩ := h
  have : u = u' := by simpa using e
  subst this
  have hs : SlO (fun j => j = X2) v4 u K ∨ v4.heap.size ≤ X2 := by
    rcases hX with hX | hX
    · exact Or.inl ⟨h1, fun b q => ⟨(h2 b q).1, fun r => by
        rcases (h2 b q).2 with s | s
        · have := s.1; omega
        · omega⟩⟩
    · exact Or.inr hX
  have hsl : Sl wx u K := by
    rcases hs with hs | hs
    · exact (hs.turn (F' := fun _ => False) t (fun _ q => q.elim)).1
    · exact h1.below (t.below (fun j q => by omega) (Nat.le_refl _))
  refine ⟨hsl, fun b q => ⟨Nat.lt_of_lt_of_le (h2 b q).1 t.size, fun r => ?_⟩⟩
  rcases (h2 b q).2 with s | s
  · exact s.2 r
  · have := hF b r; omega
/-- What holds at the loop's head. -/
structure PlRel (T : TabI) (w : World) (B X : Nat) (m : Int) (n : Nat) (i : Value) (wr : World) : Prop where
  out : ∃ (k : Nat) (K : List Int) (F : Nat → Prop) (u : Value), k ≤ n ∧ i = .int .i64 (k : Int) ∧ T.Rep wr B m K F ∧ Ow2 wr X u (.int .i64 m) ∧ SlO (fun j => F j ∨ j = X) wr u K ∧ ¬ F X ∧ Below w.heap.size w wr ∧ (∀ j, F j → w.heap.size ≤ j)

set_option maxHeartbeats 8000000 in
set_option maxRecDepth 100000 in
theorem plays8 (T : TabI) (hN : NilS) (m : Int) (a : Option Addr) (c : Nat) (l : List (Int × Int)) (w : World) (hl : ReadsP w a l) (hm : InR m) (hbig : (l.length : Int) ≤ 9223372036854775807) :
    Calls Try.prog 3 #[.int .i64 m, .slice a l.length c] w fun e w' => e = .returned (.bool true) ∧ Below w.heap.size w w' := by
  have haw := i_awake T hN
  by_cases h100 : 100 < l.length
  · clear hl hm hbig
    go_enter Try.func3, Try.ntmps3
    go_wp2_with fail
    refine (haw _).mono ?_; rintro e w1 ⟨rfl, hb1⟩
    go_wp2_with fail
    go_ret
    exact ⟨rfl, hb1⟩
  · by_cases ho : 1 ≤ m ∧ m ≤ 20000
    · have hnw := T.new_ok m w ho.1 ho.2
      have hrn := fun w => r8new m w
      rw [if_pos (show OkT m from ho), if_pos (show OkT m from ho)] at hrn
      have HL := Lib.hid hl; have HM := Lib.hid ho; have H1 := Lib.hid h100
      clear hl hm ho hbig
      go_enter Try.func3, Try.ntmps3
      go_wp2_with fail
      refine hnw.mono ?_; rintro e w1 ⟨B, F1, rfl, hR1, hb1, hF1⟩
      clear hnw
      go_wp2_with fail
      refine (hrn _).mono ?_; rintro e w2 ⟨rfl, hb2⟩
      clear hrn
      go_wp2_with fail
      have H0 : Hid (PlRel T w B w2.heap.size m l.length (.int .i64 0) (w2.alloc (.cells #[.slice none 0 0, .int .i64 m] 30))) :=
        ⟨⟨0, [], F1, .slice none 0 0, Nat.zero_le _, rfl, T.below (T.below hR1 hb2) (below1 _ _), Ow2.new _ _ _ _, ⟨Sl.nil _, fun b q => by (cases q)⟩, fun q => by
          have := T.foot (T.below hR1 hb2) _ q; omega, (hb1.trans (hb2.mono hb1.size)).trans ((below1 _ _).mono (Nat.le_trans hb1.size hb2.size)), hF1⟩⟩
      generalize w2.alloc (.cells #[.slice none 0 0, .int .i64 m] 30) = W at *
      have HXw : Hid (w.heap.size ≤ w2.heap.size) := Nat.le_trans hb1.size hb2.size
      generalize w2.heap.size = X at *
      clear hR1 hb1 hF1 hb2
      go_loopw [9] (fun i wr => PlRel T w B X m l.length i wr) (fun i _ => l.length - (intOf i).toNat)
      case atStart => exact H0.out
      case round =>
        clear H0
        obtain ⟨k, K, F, u, hk, rfl, hR, hX, hu, hFX, hB, hF⟩ := hrel.out
        clear hrel
        by_cases hlt : k < l.length
        · obtain ⟨b, off, rfl, hc1, hc2, r1, r2⟩ := HL.out k hlt
          have hbw : b < w.heap.size := World.block_lt_of_cell? w _ hc1
          generalize (l.getD k (0, 0)).1 = d at *
          generalize (l.getD k (0, 0)).2 = n at *
          have HC : Hid (∀ wy, Below w.heap.size w wy → wy.cell? ⟨b, off + k * 2, none⟩ = some (.int .i64 d) ∧ wy.cell? ⟨b, off + k * 2 + 1, none⟩ = some (.int .i64 n)) := fun wy h => ⟨(h.cell (p := ⟨b, _, none⟩) hbw).trans hc1, (h.cell (p := ⟨b, _, none⟩) hbw).trans hc2⟩
          have hinv := T.inv hR
          have hKl : K.length ≤ 900000000 := by omega
          obtain ⟨c1, c2⟩ := HC.out _ hB
          have i0 : (0 : Int) ≤ (k : Int) := by omega
          have i1 : (k : Int) < (l.length : Int) := by omega
          have hdo := do8 T d n m hR r2
          have HR := Lib.hid hR; have HX := Lib.hid hX; have HU := Lib.hid hu; have HFX := Lib.hid hFX; have HB := Lib.hid hB; have HF := Lib.hid hF; have HKL := Lib.hid hKl; have HR2 := Lib.hid r2; have HLT := Lib.hid hlt
          clear hc1 hc2 r1 r2 hR hX hu hFX hB hF hinv hKl hlt hk
          go_wp2_with fail
          refine hdo.mono ?_; rintro e w3 ⟨rfl, F', hR', ht, hF'⟩
          have HR' := Lib.hid hR'
          have HX' := Lib.hid (HX.out.turn ht HFX.out)
          have HU' : Hid (SlO (fun j => F' j ∨ j = X) w3 u K) := HU.out.turn (ht.mono (fun j q => Or.inl q)) (fun j q => q.elim (fun q => (hF' j q).elim (fun q => Or.inl (Or.inl q)) Or.inr) (fun q => Or.inl (Or.inr q)))
          have HB' := Lib.hid (HB.out.trans (ht.below HF.out HB.out.size))
          have HFX' : Hid (¬ F' X) := fun q => (hF' X q).elim HFX.out (fun q => by have := HX.out.1.2.2; omega)
          have HFF' : Hid (∀ j, F' j → w.heap.size ≤ j) := fun j q => (hF' j q).elim (HF.out j) (fun q => Nat.le_trans HB.out.size q)
          clear hR' ht hF' hdo HR HX HU HB HFX HF c1 c2
          obtain ⟨c1, c2⟩ := HC.out _ HB'.out
          obtain ⟨⟨x0, x1, x2⟩, x3, x4⟩ := HX'.out
          go_upto_region 11 with fail
          have HT := Lib.hid (HU'.out.tab m)
          have HFT : Hid (∀ j, (F' j ∨ j = X) → j < w3.heap.size) := fun j q => q.elim (T.foot HR'.out j) (fun q => by rw [q]; exact HX'.out.1.2.2)
          go_cut [13, 14, 15, 16] (fun s13 s14 s15 s16 wx => ∃ X2 u2, s13 = .pointer (some ⟨X2, 0, none⟩) ∧ s14 = .int .i64 (do1 K m d n) ∧ s15 = .int .i64 (do2 K m d n) ∧ s16 = .bool (do3 K d n) ∧ T.Rep wx B m (doK K m d n) F' ∧ Ow2 wx X u (.int .i64 m) ∧ At2 wx X2 u2 (.int .i64 m) ∧ SlO (fun j => F' j ∨ j = X) wx u2 (doK K m d n) ∧ Below w.heap.size w wx ∧ X ≠ X2)
          case first =>
            have hrf : ∀ wz, Below w3.heap.size w3 wz → Calls Try.prog 10 #[.agg #[u, .int .i64 m], .agg #[.int .i64 d, .int .i64 n]] wz fun e w' => ∃ u, e = .returned (.tuple #[u, .int .i64 (do1 K m d n), .int .i64 (do2 K m d n), .bool (do3 K d n)]) ∧ TabG (fun b => Out (fun j => F' j ∨ j = X) w3 b ∨ wz.heap.size ≤ b) w' u (doK K m d n) m ∧ Below wz.heap.size wz w' := fun wz hb => ref8 (Out (fun j => F' j ∨ j = X) w3) _ K m d n wz (HT.out.below hb) HR2.out HKL.out
            have HRF := Lib.hid hrf; clear hrf
            have CL : Hid (∀ wz, Below w3.heap.size w3 wz → wz.cell? ⟨X, 0, none⟩ = some u ∧ wz.cell? ⟨X, 1, none⟩ = some (.int .i64 m) ∧ wz.cell? ⟨b, off + k * 2, none⟩ = some (.int .i64 d) ∧ wz.cell? ⟨b, off + k * 2 + 1, none⟩ = some (.int .i64 n)) := fun wz h => ⟨(HX'.out.below h).1.1, (HX'.out.below h).1.2.1, (HC.out _ (HB'.out.trans (h.mono HB'.out.size))).1, (HC.out _ (HB'.out.trans (h.mono HB'.out.size))).2⟩
            have N0 := Lib.hid (Ow2.new w3 (.slice none 0 0) (.int .i64 0) 30)
            clear x0 x1 x2 x3 x4 c1 c2
            obtain ⟨x0, x1, c1, c2⟩ := CL.out w3 (Below.refl _ _)
            go_region_held3 (fun wz => wz.cell? ⟨X, 0, none⟩ = some u ∧ wz.cell? ⟨X, 1, none⟩ = some (.int .i64 m) ∧ wz.cell? ⟨b, off + k * 2, none⟩ = some (.int .i64 d) ∧ wz.cell? ⟨b, off + k * 2 + 1, none⟩ = some (.int .i64 n))
              ((refine CL.out _ ?_; repeat first | exact (Below.refl _ _) | exact J4.out | refine Below.drew ?_ | refine Below.setCell ?_ (by first | exact Nat.le_refl _ | exact J4.out.size) _ | refine Below.alloc ?_ (by first | exact Nat.le_refl _ | exact J4.out.size) _))
              (first
                | (go_at_call 10; (with_reducible first | refine (HRF.out _ (Below.refl _ _).drew).mono ?_ | refine (HRF.out _ ((Below.refl _ _).alloc (Nat.le_refl _) _).drew).mono ?_); rintro e v4 ⟨u2, rfl, hu2, hbn⟩
                   have J4' : Below w3.heap.size w3 v4 := by with_reducible first | exact below_drew_on hbn | exact below_alloc_on hbn
                   have J4 := Lib.hid J4'; clear J4'
                   obtain ⟨a2, q2, rfl⟩ := hu2.tab.form
                   have U2 := Lib.hid hu2; clear hu2
                   try (with_reducible have n1' := N0.out.drew.below hbn
                        have n1 := Lib.hid n1'
                        obtain ⟨⟨p0, p1, p2⟩, p3, p4⟩ := n1')
                   clear hbn))
            all_goals go_wp2_with fail
            all_goals go_meet
            all_goals
              first
              | (have JA := below_set2 (k := w3.heap.size) (p := .slice a2 (doK K m d n).length q2) (q := .int .i64 m) J4.out (Nat.le_refl _)
                 exact ⟨_, _, rfl, rfl, rfl, rfl, T.below HR'.out JA, HX'.out.below JA, At2.put n1.out.at, slo_fin U2.out HFT.out (by simp) (turn_one2 _ _ _ _) (Or.inl ⟨Nat.le_refl _, by simp⟩), HB'.out.trans (JA.mono HB'.out.size), Nat.ne_of_lt HX'.out.1.2.2⟩)
              | (have JA := J4.out.alloc J4.out.size (.cells #[.slice a2 (doK K m d n).length q2, .int .i64 m] 30)
                 exact ⟨_, _, rfl, rfl, rfl, rfl, T.below HR'.out JA, HX'.out.below JA, At2.new _ _ _ _, slo_fin (X2 := v4.heap.size) U2.out HFT.out (Nat.le_refl _) (Turn.of_below (below1 _ _)) (Or.inr (Nat.le_refl _)), HB'.out.trans (JA.mono HB'.out.size), Nat.ne_of_lt (Nat.lt_of_lt_of_le HX'.out.1.2.2 J4.out.size)⟩)
          case rest =>
            obtain ⟨X2, u2, rfl, rfl, rfl, rfl, hR, hX, hX2, hS, hB, hne⟩ := hcut
            obtain ⟨a2, q2, rfl⟩ := hS.1.form
            have t5 := turn_one2 wc X (.slice a2 (doK K m d n).length q2) (.int .i64 m)
            have HR5 := Lib.hid (T.turn hR t5 (fun j q r => HFX'.out (by rw [← r]; exact q)))
            have HX5 := Lib.hid (hX.put (a := .slice a2 (doK K m d n).length q2) (b := .int .i64 m))
            have HS5 := Lib.hid (hS.turn (t5.mono (fun j q => Or.inr q)) (fun j q => Or.inl q))
            have HB5 := Lib.hid (below_set2 (p := .slice a2 (doK K m d n).length q2) (q := .int .i64 m) hB HXw.out)
            obtain ⟨⟨x0, x1, x2⟩, x3, x4⟩ := hX
            obtain ⟨y0, y1, y2⟩ := hX2
            clear hR hS hB t5
            go_upto_region 13 with fail
            generalize (wc.setCell ⟨X, 0, none⟩ (.slice a2 (doK K m d n).length q2)).setCell ⟨X, 1, none⟩ (.int .i64 m) = W5 at *
            clear x0 x1 x2 x3 x4 y0 y1 y2
            obtain ⟨⟨x0, x1, x2⟩, x3, x4⟩ := HX5.out
            have hlen := T.len HR5.out
            have CX : Hid (∀ wz, Below W5.heap.size W5 wz → wz.cell? ⟨X, 0, none⟩ = some (.slice a2 (doK K m d n).length q2)) := fun wz h => (HX5.out.below h).1.1
            have hlen := fun wz (h : Below W5.heap.size W5 wz) => T.len (T.below HR5.out h)
            go_region_held3 (fun wz => wz.cell? ⟨X, 0, none⟩ = some (.slice a2 (doK K m d n).length q2))
              ((refine CX.out _ ?_; first | exact (Below.refl _ _) | exact (Below.refl _ _).drew | exact J6.out))
              ((go_at_call 11; with_reducible refine (hlen _ (Below.refl _ _).drew).mono ?_; rintro e w6 ⟨rfl, hb6⟩; have J6 := Lib.hid (below_drew_on hb6); clear hb6))
            all_goals go_wp2_with fail
            all_goals go_roundw
            · exact ⟨⟨k + 1, _, _, _, by have := HLT.out; omega, by go_num, T.below HR5.out J6.out, HX5.out.below J6.out, HS5.out.below J6.out, HFX'.out, HB5.out.trans (J6.out.mono HB5.out.size), HFF'.out⟩⟩
            · have := HLT.out; simp [intOf]; omega
        · obtain rfl : k = l.length := by omega
          clear hlt hR hX hu hFX hF hk
          have HB := Lib.hid hB; clear hB
          go_wp2_with fail
          refine (haw _).mono ?_; rintro e w5 ⟨rfl, hb5⟩
          go_wp2_with fail
          go_ret
          exact ⟨rfl, HB.out.trans (hb5.mono HB.out.size)⟩
    · have hnw := fun w => T.new_no m w ho
      have hrn := fun w => r8new m w
      rw [if_neg (show ¬ OkT m from ho), if_neg (show ¬ OkT m from ho)] at hrn
      clear hl hm ho hbig
      go_enter Try.func3, Try.ntmps3
      go_wp2_with fail
      refine (hnw _).mono ?_; rintro e w1 ⟨rfl, hb1⟩
      go_wp2_with fail
      refine (hrn _).mono ?_; rintro e w2 ⟨rfl, hb2⟩
      go_wp2_with fail
      have H0 : Hid (Below w.heap.size w (w2.alloc (.cells #[.slice none 0 0, .int .i64 0] 30))) := (hb1.trans (hb2.mono hb1.size)).trans ((below1 _ _).mono (Nat.le_trans hb1.size hb2.size))
      clear hb1 hb2 hnw hrn
      generalize w2.alloc (.cells #[.slice none 0 0, .int .i64 0] 30) = W at *
      generalize w2.heap.size = X at *
      go_loopw [9] (fun i wr => i = .int .i64 0 ∧ W = wr) (fun _ _ => 0)
      case atStart => exact ⟨rfl, rfl⟩
      case round =>
        obtain ⟨rfl, rfl⟩ := hrel
        go_wp2_with fail
        all_goals (refine (haw _).mono ?_; rintro e w5 ⟨rfl, hb5⟩)
        all_goals go_wp2_with fail
        all_goals go_ret
        all_goals exact ⟨rfl, H0.out.trans (hb5.mono H0.out.size)⟩
end Go.Proofs.Yteeonglebimnlaa
