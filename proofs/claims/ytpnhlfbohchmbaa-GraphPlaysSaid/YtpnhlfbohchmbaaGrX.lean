/-
  Layer 12's same, Made, GraphPlays. No conditions.
-/
import Derived.Test.YtpnhlfbohchmbaaRefIj
import Derived.Test.YtpnhlfbohchmbaaRefHs
import Derived.Test.YtpnhlfbohchmbaaGrL
namespace Go.Proofs.Ytpnhlfbohchmbaa
open Go.RowKit
set_option linter.unusedSimpArgs false
set_option linter.unusedVariables false

/-- A graph that was made behind w0, and the document's, of the same rows. -/
structure BothG (w0 w : World) (B : Nat) (R : List (List Int)) (F : Nat → Prop) (x : Value) : Prop where
  s : OneG w0 w B R F
  x : GRef w x R
theorem BothG.below {w0 w w' : World} {B : Nat} {R : List (List Int)} {F : Nat → Prop} {x : Value} (h : BothG w0 w B R F x) (hb : Below w.heap.size w w') : BothG w0 w' B R F x := ⟨h.s.below hb, h.x.below hb⟩
theorem BothG.hl {w0 w : World} {B : Nat} {R : List (List Int)} {F : Nat → Prop} {x : Value} (h : BothG w0 w B R F x) : R.length ≤ 20000 := h.s.r.1.hi
theorem BothG.hr {w0 w : World} {B : Nat} {R : List (List Int)} {F : Nat → Prop} {x : Value} (h : BothG w0 w B R F x) : ∀ v, (gR R v).length ≤ 20000 := fun v => Nat.le_trans (h.s.r.1.len v) h.s.r.1.hi
theorem inr_sl {w : World} {v : Value} {L : List Int} (h : Sl w v L) : ∃ a c, v = .slice a L.length c ∧ Reads w a L := by
  obtain ⟨a, c, e, _, _, hr⟩ := h
  exact ⟨a, c, e, hr⟩
theorem inr_own {w : World} {base : Nat} {v : Value} {L : List Int} (h : Own w base v L) (hL : ∀ z ∈ L, InR z) : ∃ a c, v = .slice a L.length c ∧ Reads w a L := by
  obtain ⟨a, c, e, _, hr⟩ := h.reads hL
  exact ⟨a, c, e, hr⟩
theorem greads_len {R : List (List Int)} (hr : ∀ v, (gR R v).length ≤ 20000) (v : Int) : (greads R v).length ≤ 20000 := by
  unfold greads; split
  · exact hr _
  · simp
/-- Both tell the same reads, readers. -/
theorem same_reads {w : World} {a a' : Option Addr} {L : List Int} {c c' : Nat} (h1 : Reads w a L) (h2 : Reads w a' L) (hn : L.length ≤ 20000) :
    Calls Try.prog 12 #[.slice a L.length c, .slice a' L.length c'] w fun e w' => e = .returned (.bool true) ∧ Below w.heap.size w w' := by
  have h := same_any a a' c c' L L w h1 h2 (by omega)
  rwa [decide_eq_true (rfl : L = L)] at h
set_option maxHeartbeats 8000000 in
set_option maxRecDepth 100000 in
theorem same_g {w0 w : World} {B : Nat} {R : List (List Int)} {F : Nat → Prop} {x : Value} (h : BothG w0 w B R F x) :
    Calls Try.prog 9 #[.pointer (some ⟨B, 0, none⟩), x] w fun e w' => e = .returned (.bool true) ∧ Below w.heap.size w w' := by
  have hx := h.x
  obtain ⟨a, c, us, rfl, _⟩ := hx
  have hb := below1 w (.cells #[.slice a R.length c] 29)
  have hbx : (w.alloc (.cells #[.slice a R.length c] 29)).cell? ⟨w.heap.size, 0, none⟩ = some (.slice a R.length c) := by simp
  have hsz : w.heap.size < (w.alloc (.cells #[.slice a R.length c] 29)).heap.size := by simp
  have hl := h.hl
  have HR := Lib.hid h.hr
  have HI := Lib.hid h.s.r.1
  have HE := Lib.hid HI.out.edges
  have hW := h.below hb
  have HB := Lib.hid hb
  clear hb h
  go_enter Try.func9, Try.ntmps9
  go_wp2_with fail
  generalize hWW : w.alloc (.cells #[.slice a R.length c] 29) = W at *
  clear hWW
  have q1 := nodes_o (hW.below (Below.refl _ _).drew).s
  have q2 := edges_o (hW.below (Below.refl _ _).drew).s
  have q3 := r12edges (hW.below (Below.refl _ _).drew).x HE.out hl
  have HW := Lib.hid hW
  clear hW
  refine wp_region_held_drew (S := fun wz => wz.cell? ⟨w.heap.size, 0, none⟩ = some (.slice a R.length c)) (by kernel_rfl) (hbx) (fun hHeld => ?_)
  refine wpAnyH_take (i := 0) (v := ?_) rfl (by kernel_rfl) (by kernel_rfl) (by kernel_rfl) (fun _ _ _ h => h) (Or.inl ⟨by rfl, ?y0⟩) (by assumption) ?_
  case y0 => intro w hSw; (try dsimp only at hSw); go_simp; (try with_reducible rfl)
  (try simp only [Act.put, List.setIfInBounds_toArray, List.set_cons_zero, List.set_cons_succ, List.getElem_toArray, List.getElem_cons_zero, List.getElem_cons_succ])
  refine wpAnyH_take (i := 2) (v := ?_) rfl (by kernel_rfl) (by kernel_rfl) (by kernel_rfl) (fun _ _ _ h => h) (Or.inl ⟨by rfl, ?y2⟩) (by assumption) ?_
  case y2 => intro w hSw; (try dsimp only at hSw); go_simp; (try with_reducible rfl)
  (try simp only [Act.put, List.setIfInBounds_toArray, List.set_cons_zero, List.set_cons_succ, List.getElem_toArray, List.getElem_cons_zero, List.getElem_cons_succ])
  refine wpAnyH_take (i := 3) (v := ?_) rfl (by kernel_rfl) (by kernel_rfl) (by kernel_rfl) (fun _ _ _ h => h) (Or.inl ⟨by rfl, ?y3⟩) (by assumption) ?_
  case y3 => intro w hSw; (try dsimp only at hSw); go_simp; (try with_reducible rfl)
  (try simp only [Act.put, List.setIfInBounds_toArray, List.set_cons_zero, List.set_cons_succ, List.getElem_toArray, List.getElem_cons_zero, List.getElem_cons_succ])
  refine wpAnyH_take (i := 4) (v := ?_) rfl (by kernel_rfl) (by kernel_rfl) (by kernel_rfl) (fun _ _ _ h => h) (Or.inl ⟨by rfl, ?y4⟩) (by assumption) ?_
  case y4 => intro w hSw; (try dsimp only at hSw); go_simp; (try with_reducible rfl)
  (try simp only [Act.put, List.setIfInBounds_toArray, List.set_cons_zero, List.set_cons_succ, List.getElem_toArray, List.getElem_cons_zero, List.getElem_cons_succ])
  refine wpAnyH_ready (rs := [1]) (by kernel_rfl) (by simp) ?_
  refine AllReadyH.cons rfl (fun K hK => ?_) AllReadyH.nil
  go_simp
  refine q1.mono ?_; clear q1; rintro e y1 ⟨rfl, rfl⟩
  refine hK.out _ _ (hbx) (fun hHeld => ?_)
  clear hK K
  (try simp only [Act.put, List.setIfInBounds_toArray, List.set_cons_zero, List.set_cons_succ, List.getElem_toArray, List.getElem_cons_zero, List.getElem_cons_succ])
  refine wpAnyH_take (i := 5) (v := ?_) rfl (by kernel_rfl) (by kernel_rfl) (by kernel_rfl) (fun _ _ _ h => h) (Or.inl ⟨by rfl, ?y5⟩) (by assumption) ?_
  case y5 => intro w hSw; (try dsimp only at hSw); go_simp; (try with_reducible rfl)
  (try simp only [Act.put, List.setIfInBounds_toArray, List.set_cons_zero, List.set_cons_succ, List.getElem_toArray, List.getElem_cons_zero, List.getElem_cons_succ])
  refine wpAnyH_take (i := 6) (v := ?_) rfl (by kernel_rfl) (by kernel_rfl) (by kernel_rfl) (fun _ _ _ h => h) (Or.inl ⟨by rfl, ?y6⟩) (by assumption) ?_
  case y6 => intro w hSw; (try dsimp only at hSw); go_simp; (try with_reducible rfl)
  (try simp only [Act.put, List.setIfInBounds_toArray, List.set_cons_zero, List.set_cons_succ, List.getElem_toArray, List.getElem_cons_zero, List.getElem_cons_succ])
  refine wpAnyH_take (i := 7) (v := ?_) rfl (by kernel_rfl) (by kernel_rfl) (by kernel_rfl) (fun _ _ _ h => h) (Or.inl ⟨by rfl, ?y7⟩) (by assumption) ?_
  case y7 => intro w hSw; (try dsimp only at hSw); go_simp; (try with_reducible rfl)
  (try simp only [Act.put, List.setIfInBounds_toArray, List.set_cons_zero, List.set_cons_succ, List.getElem_toArray, List.getElem_cons_zero, List.getElem_cons_succ])
  refine wpAnyH_take (i := 9) (v := ?_) rfl (by kernel_rfl) (by kernel_rfl) (by kernel_rfl) (fun _ _ _ h => h) (Or.inl ⟨by rfl, ?y9⟩) (by assumption) ?_
  case y9 => intro w hSw; (try dsimp only at hSw); go_simp; (try with_reducible rfl)
  (try simp only [Act.put, List.setIfInBounds_toArray, List.set_cons_zero, List.set_cons_succ, List.getElem_toArray, List.getElem_cons_zero, List.getElem_cons_succ])
  refine wpAnyH_ready (rs := [8]) (by kernel_rfl) (by simp) ?_
  refine AllReadyH.cons rfl (fun K hK => ?_) AllReadyH.nil
  go_simp
  refine q2.mono ?_; clear q2; rintro e y2 ⟨rfl, rfl⟩
  refine hK.out _ _ (hbx) (fun hHeld => ?_)
  clear hK K
  (try simp only [Act.put, List.setIfInBounds_toArray, List.set_cons_zero, List.set_cons_succ, List.getElem_toArray, List.getElem_cons_zero, List.getElem_cons_succ])
  refine wpAnyH_ready (rs := [10]) (by kernel_rfl) (by simp) ?_
  refine AllReadyH.cons rfl (fun K hK => ?_) AllReadyH.nil
  go_simp
  refine q3.mono ?_; clear q3; rintro e y3 ⟨rfl, hb3⟩
  have hb3 := ((Below.refl W.heap.size W).drew).trans hb3
  have hbx3 := (hb3.cell (p := ⟨w.heap.size, 0, none⟩) hsz).trans hbx
  have HW3 := Lib.hid (HW.out.below hb3); have HB3 := Lib.hid hb3
  clear hb3
  refine hK.out _ _ (hbx3) (fun hHeld => ?_)
  clear hK K
  (try simp only [Act.put, List.setIfInBounds_toArray, List.set_cons_zero, List.set_cons_succ, List.getElem_toArray, List.getElem_cons_zero, List.getElem_cons_succ])
  refine wpAnyH_take (i := 11) (v := ?_) rfl (by kernel_rfl) (by kernel_rfl) (by kernel_rfl) (fun _ _ _ h => h) (Or.inl ⟨by rfl, ?y11⟩) (by assumption) ?_
  case y11 => intro w hSw; (try dsimp only at hSw); go_simp; (try with_reducible rfl)
  (try simp only [Act.put, List.setIfInBounds_toArray, List.set_cons_zero, List.set_cons_succ, List.getElem_toArray, List.getElem_cons_zero, List.getElem_cons_succ])
  refine wpAnyH_take (i := 12) (v := ?_) rfl (by kernel_rfl) (by kernel_rfl) (by kernel_rfl) (fun _ _ _ h => h) (Or.inl ⟨by rfl, ?y12⟩) (by assumption) ?_
  case y12 => intro w hSw; (try dsimp only at hSw); go_simp; (try with_reducible rfl)
  (try simp only [Act.put, List.setIfInBounds_toArray, List.set_cons_zero, List.set_cons_succ, List.getElem_toArray, List.getElem_cons_zero, List.getElem_cons_succ])
  refine wpAnyH_done (by kernel_rfl) ?_ _
  go_wp2_with fail
  go_loopw [5] (fun i wr => ∃ k : Nat, k ≤ R.length ∧ i = .int .i64 (k : Int) ∧ BothG w0 wr B R F (.agg #[.slice a R.length c]) ∧ Below W.heap.size W wr) (fun i _ => R.length - (intOf i).toNat)
  case atStart => exact ⟨0, Nat.zero_le _, rfl, HW3.out, HB3.out⟩
  case round =>
    obtain ⟨k, hk, rfl, hG, hbw⟩ := hrel
    have hbxr := (hbw.cell (p := ⟨w.heap.size, 0, none⟩) hsz).trans hbx
    by_cases hlt : k < R.length
    · have dk : decide ((k : Int) < (R.length : Int)) = true := decide_eq_true (by omega)
      have HBW := Lib.hid hbw
      have hG := hG.below (Below.refl _ _).drew
      have q1 := reads_o hG.s (k : Int)
      rw [greads_nat hlt] at q1
      have hszr : w.heap.size < wr.drew.heap.size := Nat.lt_of_lt_of_le hsz hbw.size
      have HBR := Lib.hid ((Below.refl wr.heap.size wr).drew)
      clear hbw
      go_wp2_with fail
      refine wp_region_held_drew (S := fun wz => wz.cell? ⟨w.heap.size, 0, none⟩ = some (.slice a R.length c)) (by kernel_rfl) (hbxr) (fun hHeld => ?_)
      refine wpAnyH_take (i := 0) (v := ?_) rfl (by kernel_rfl) (by kernel_rfl) (by kernel_rfl) (fun _ _ _ h => h) (Or.inl ⟨by rfl, ?y0⟩) (by assumption) ?_
      case y0 => intro w hSw; (try dsimp only at hSw); go_simp; (try with_reducible rfl)
      (try simp only [Act.put, List.setIfInBounds_toArray, List.set_cons_zero, List.set_cons_succ, List.getElem_toArray, List.getElem_cons_zero, List.getElem_cons_succ])
      refine wpAnyH_take (i := 1) (v := ?_) rfl (by kernel_rfl) (by kernel_rfl) (by kernel_rfl) (fun _ _ _ h => h) (Or.inl ⟨by rfl, ?y1⟩) (by assumption) ?_
      case y1 => intro w hSw; (try dsimp only at hSw); go_simp; (try with_reducible rfl)
      (try simp only [Act.put, List.setIfInBounds_toArray, List.set_cons_zero, List.set_cons_succ, List.getElem_toArray, List.getElem_cons_zero, List.getElem_cons_succ])
      refine wpAnyH_take (i := 3) (v := ?_) rfl (by kernel_rfl) (by kernel_rfl) (by kernel_rfl) (fun _ _ _ h => h) (Or.inl ⟨by rfl, ?y3⟩) (by assumption) ?_
      case y3 => intro w hSw; (try dsimp only at hSw); go_simp; (try with_reducible rfl)
      (try simp only [Act.put, List.setIfInBounds_toArray, List.set_cons_zero, List.set_cons_succ, List.getElem_toArray, List.getElem_cons_zero, List.getElem_cons_succ])
      refine wpAnyH_take (i := 4) (v := ?_) rfl (by kernel_rfl) (by kernel_rfl) (by kernel_rfl) (fun _ _ _ h => h) (Or.inl ⟨by rfl, ?y4⟩) (by assumption) ?_
      case y4 => intro w hSw; (try dsimp only at hSw); go_simp; (try with_reducible rfl)
      (try simp only [Act.put, List.setIfInBounds_toArray, List.set_cons_zero, List.set_cons_succ, List.getElem_toArray, List.getElem_cons_zero, List.getElem_cons_succ])
      refine wpAnyH_ready (rs := [2]) (by kernel_rfl) (by simp) ?_
      refine AllReadyH.cons rfl (fun K hK => ?_) AllReadyH.nil
      go_simp
      refine q1.mono ?_; clear q1; rintro e y1 ⟨u1, rfl, ho1, _, hb1⟩
      obtain ⟨sa, sc, rfl, hr1⟩ := inr_own ho1 (inr_row HI.out k)
      have hG1 := hG.below hb1
      have hbx1 := (hb1.cell (p := ⟨w.heap.size, 0, none⟩) hszr).trans hbxr
      have hsz1 := Nat.lt_of_lt_of_le hszr hb1.size
      have HB1 := Lib.hid (HBW.out.trans ((HBR.out.trans hb1).mono HBW.out.size))
      have q2 := r12reads hG1.x hl (k : Int)
      rw [greads_nat hlt] at q2
      clear ho1 hb1 hG
      refine hK.out _ _ (hbx1) (fun hHeld => ?_)
      clear hK K
      (try simp only [Act.put, List.setIfInBounds_toArray, List.set_cons_zero, List.set_cons_succ, List.getElem_toArray, List.getElem_cons_zero, List.getElem_cons_succ])
      refine wpAnyH_ready (rs := [5]) (by kernel_rfl) (by simp) ?_
      refine AllReadyH.cons rfl (fun K hK => ?_) AllReadyH.nil
      go_simp
      refine q2.mono ?_; clear q2; rintro e y2 ⟨u2, rfl, ho2, hb2⟩
      obtain ⟨sb, sd, rfl, hr2⟩ := inr_sl ho2
      have hG2 := hG1.below hb2
      have hbx2 := (hb2.cell (p := ⟨w.heap.size, 0, none⟩) hsz1).trans hbx1
      have hsz2 := Nat.lt_of_lt_of_le hsz1 hb2.size
      have HB2 := Lib.hid (HB1.out.trans (hb2.mono HB1.out.size))
      have q3 := same_reads (c := sc) (c' := sd) (hr1.below hb2) hr2 (HR.out k)
      clear ho2 hb2 hr1 hr2 hG1
      refine hK.out _ _ (hbx2) (fun hHeld => ?_)
      clear hK K
      (try simp only [Act.put, List.setIfInBounds_toArray, List.set_cons_zero, List.set_cons_succ, List.getElem_toArray, List.getElem_cons_zero, List.getElem_cons_succ])
      refine wpAnyH_ready (rs := [6]) (by kernel_rfl) (by simp) ?_
      refine AllReadyH.cons rfl (fun K hK => ?_) AllReadyH.nil
      go_simp
      refine q3.mono ?_; clear q3; rintro e y3 ⟨rfl, hb3⟩
      have hG3 := hG2.below hb3
      have hbx3 := (hb3.cell (p := ⟨w.heap.size, 0, none⟩) hsz2).trans hbx2
      have hsz3 := Nat.lt_of_lt_of_le hsz2 hb3.size
      have HB3 := Lib.hid (HB2.out.trans (hb3.mono HB2.out.size))
      have q4 := readers_o hG3.s (k : Int)
      clear hb3 hG2
      refine hK.out _ _ (hbx3) (fun hHeld => ?_)
      clear hK K
      (try simp only [Act.put, List.setIfInBounds_toArray, List.set_cons_zero, List.set_cons_succ, List.getElem_toArray, List.getElem_cons_zero, List.getElem_cons_succ])
      refine wpAnyH_take (i := 7) (v := ?_) rfl (by kernel_rfl) (by kernel_rfl) (by kernel_rfl) (fun _ _ _ h => h) (Or.inl ⟨by rfl, ?y7⟩) (by assumption) ?_
      case y7 => intro w hSw; (try dsimp only at hSw); go_simp; (try with_reducible rfl)
      (try simp only [Act.put, List.setIfInBounds_toArray, List.set_cons_zero, List.set_cons_succ, List.getElem_toArray, List.getElem_cons_zero, List.getElem_cons_succ])
      refine wpAnyH_take (i := 8) (v := ?_) rfl (by kernel_rfl) (by kernel_rfl) (by kernel_rfl) (fun _ _ _ h => h) (Or.inl ⟨by rfl, ?y8⟩) (by assumption) ?_
      case y8 => intro w hSw; (try dsimp only at hSw); go_simp; (try with_reducible rfl)
      (try simp only [Act.put, List.setIfInBounds_toArray, List.set_cons_zero, List.set_cons_succ, List.getElem_toArray, List.getElem_cons_zero, List.getElem_cons_succ])
      refine wpAnyH_take (i := 9) (v := ?_) rfl (by kernel_rfl) (by kernel_rfl) (by kernel_rfl) (fun _ _ _ h => h) (Or.inl ⟨by rfl, ?y9⟩) (by assumption) ?_
      case y9 => intro w hSw; (try dsimp only at hSw); go_simp; (try with_reducible rfl)
      (try simp only [Act.put, List.setIfInBounds_toArray, List.set_cons_zero, List.set_cons_succ, List.getElem_toArray, List.getElem_cons_zero, List.getElem_cons_succ])
      refine wpAnyH_take (i := 10) (v := ?_) rfl (by kernel_rfl) (by kernel_rfl) (by kernel_rfl) (fun _ _ _ h => h) (Or.inl ⟨by rfl, ?y10⟩) (by assumption) ?_
      case y10 => intro w hSw; (try dsimp only at hSw); go_simp; (try with_reducible rfl)
      (try simp only [Act.put, List.setIfInBounds_toArray, List.set_cons_zero, List.set_cons_succ, List.getElem_toArray, List.getElem_cons_zero, List.getElem_cons_succ])
      refine wpAnyH_take (i := 12) (v := ?_) rfl (by kernel_rfl) (by kernel_rfl) (by kernel_rfl) (fun _ _ _ h => h) (Or.inl ⟨by rfl, ?y12⟩) (by assumption) ?_
      case y12 => intro w hSw; (try dsimp only at hSw); go_simp; (try with_reducible rfl)
      (try simp only [Act.put, List.setIfInBounds_toArray, List.set_cons_zero, List.set_cons_succ, List.getElem_toArray, List.getElem_cons_zero, List.getElem_cons_succ])
      refine wpAnyH_take (i := 13) (v := ?_) rfl (by kernel_rfl) (by kernel_rfl) (by kernel_rfl) (fun _ _ _ h => h) (Or.inl ⟨by rfl, ?y13⟩) (by assumption) ?_
      case y13 => intro w hSw; (try dsimp only at hSw); go_simp; (try with_reducible rfl)
      (try simp only [Act.put, List.setIfInBounds_toArray, List.set_cons_zero, List.set_cons_succ, List.getElem_toArray, List.getElem_cons_zero, List.getElem_cons_succ])
      refine wpAnyH_ready (rs := [11]) (by kernel_rfl) (by simp) ?_
      refine AllReadyH.cons rfl (fun K hK => ?_) AllReadyH.nil
      go_simp
      refine q4.mono ?_; clear q4; rintro e y4 ⟨u4, rfl, ho4, _, hb4⟩
      obtain ⟨sa, sc, rfl, hr4⟩ := inr_own ho4 (inr_rdrs HI.out (k : Int))
      have hG4 := hG3.below hb4
      have hbx4 := (hb4.cell (p := ⟨w.heap.size, 0, none⟩) hsz3).trans hbx3
      have hsz4 := Nat.lt_of_lt_of_le hsz3 hb4.size
      have HB4 := Lib.hid (HB3.out.trans (hb4.mono HB3.out.size))
      have q5 := r12readers hG4.x HR.out hl (k : Int)
      clear ho4 hb4 hG3
      refine hK.out _ _ (hbx4) (fun hHeld => ?_)
      clear hK K
      (try simp only [Act.put, List.setIfInBounds_toArray, List.set_cons_zero, List.set_cons_succ, List.getElem_toArray, List.getElem_cons_zero, List.getElem_cons_succ])
      refine wpAnyH_ready (rs := [14]) (by kernel_rfl) (by simp) ?_
      refine AllReadyH.cons rfl (fun K hK => ?_) AllReadyH.nil
      go_simp
      refine q5.mono ?_; clear q5; rintro e y5 ⟨u5, rfl, ho5, hb5⟩
      obtain ⟨sb, sd, rfl, hr5⟩ := inr_own ho5 (inr_rdrs HI.out (k : Int))
      have hG5 := hG4.below hb5
      have hbx5 := (hb5.cell (p := ⟨w.heap.size, 0, none⟩) hsz4).trans hbx4
      have hsz5 := Nat.lt_of_lt_of_le hsz4 hb5.size
      have HB5 := Lib.hid (HB4.out.trans (hb5.mono HB4.out.size))
      have q6 := same_reads (c := sc) (c' := sd) (hr4.below hb5) hr5 (Nat.le_trans (rdrs_len _) hl)
      clear ho5 hb5 hr4 hr5 hG4
      refine hK.out _ _ (hbx5) (fun hHeld => ?_)
      clear hK K
      (try simp only [Act.put, List.setIfInBounds_toArray, List.set_cons_zero, List.set_cons_succ, List.getElem_toArray, List.getElem_cons_zero, List.getElem_cons_succ])
      refine wpAnyH_ready (rs := [15]) (by kernel_rfl) (by simp) ?_
      refine AllReadyH.cons rfl (fun K hK => ?_) AllReadyH.nil
      go_simp
      refine q6.mono ?_; clear q6; rintro e y6 ⟨rfl, hb6⟩
      have HG6 := Lib.hid (hG5.below hb6)
      have hbx6 := (hb6.cell (p := ⟨w.heap.size, 0, none⟩) hsz5).trans hbx5
      have HB6 := Lib.hid (HB5.out.trans (hb6.mono HB5.out.size))
      clear hb6 hG5
      refine hK.out _ _ (hbx6) (fun hHeld => ?_)
      clear hK K
      (try simp only [Act.put, List.setIfInBounds_toArray, List.set_cons_zero, List.set_cons_succ, List.getElem_toArray, List.getElem_cons_zero, List.getElem_cons_succ])
      refine wpAnyH_take (i := 16) (v := ?_) rfl (by kernel_rfl) (by kernel_rfl) (by kernel_rfl) (fun _ _ _ h => h) (Or.inl ⟨by rfl, ?y16⟩) (by assumption) ?_
      case y16 => intro w hSw; (try dsimp only at hSw); go_simp; (try with_reducible rfl)
      (try simp only [Act.put, List.setIfInBounds_toArray, List.set_cons_zero, List.set_cons_succ, List.getElem_toArray, List.getElem_cons_zero, List.getElem_cons_succ])
      refine wpAnyH_take (i := 17) (v := ?_) rfl (by kernel_rfl) (by kernel_rfl) (by kernel_rfl) (fun _ _ _ h => h) (Or.inl ⟨by rfl, ?y17⟩) (by assumption) ?_
      case y17 => intro w hSw; (try dsimp only at hSw); go_simp; (try with_reducible rfl)
      (try simp only [Act.put, List.setIfInBounds_toArray, List.set_cons_zero, List.set_cons_succ, List.getElem_toArray, List.getElem_cons_zero, List.getElem_cons_succ])
      refine wpAnyH_done (by kernel_rfl) ?_ _
      go_wp2_with fail
      go_roundw
      · exact ⟨k + 1, by omega, by go_num, HG6.out, HB6.out⟩
      · simp [intOf]; omega
    · obtain rfl : k = R.length := by omega
      have hd0 : decide ((R.length : Int) < (R.length : Int)) = false := decide_eq_false (by omega)
      have HBW := Lib.hid hbw
      clear hbw hG
      go_wp2_with fail
      go_ret
      exact ⟨rfl, HB.out.trans (HBW.out.mono (Nat.le_of_lt hsz))⟩
end Go.Proofs.Ytpnhlfbohchmbaa
