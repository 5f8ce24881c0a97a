/-
  The landed graph's Set. The conditions: the graph's blocks; the row lies elsewhere.
-/
import Derived.Test.YtbaeanpdjdcheaaGreatGrF
namespace Go.Proofs.YtbaeanpdjdcheaaGreat
open Go.RowKit MapSets
set_option linter.unusedSimpArgs false
set_option linter.unusedVariables false

theorem cadd_is {R : List (List Int)} {v : Nat} {l : List Int} (hv : v < R.length) (hall : ∀ z ∈ l, gnd R.length z) : cadd (gq R) v l = gmiss l (gR R v) := by
  unfold cadd gmiss
  congr 1
  refine List.filter_congr fun z hz => ?_
  have h1 := hall z hz
  have h2 : ((z.toNat : Nat) : Int) = z := by unfold gnd at h1; omega
  have h3 : gnd R.length (v : Int) := by unfold gnd; omega
  unfold gq
  rw [h2, Int.toNat_natCast, ← decide_not]
  exact decide_eq_decide.2 ⟨fun q r => q ⟨h3, r⟩, fun q r => q r.2⟩
theorem q_is {R : List (List Int)} {v : Nat} {l : List Int} (hv : v < R.length) (y : Nat) (u : Int) : qdrop (qadd (gq R) v l) v l (gR R v) y u = gq (R.set v l) y u := by
  unfold qdrop qadd gq
  rw [List.length_set]
  by_cases hu : gnd R.length u
  · obtain ⟨k, rfl⟩ := Int.eq_ofNat_of_zero_le hu.1
    rw [Int.toNat_natCast, gR_set hv]
    by_cases e : k = v
    · subst e
      rw [if_pos rfl]
      by_cases h1 : (y : Int) ∈ gR R k <;> by_cases h2 : (y : Int) ∈ l <;> simp [h1, h2, hu]
    · rw [if_neg e]
      have : ¬ ((k : Int) = (v : Int)) := by omega
      simp [this, hu]
  · have : ¬ (u = (v : Int)) := fun e => hu (by unfold gnd; omega)
    simp [this, hu]
theorem set_n (v : Int) (w : World) : Calls Tryz.prog 21 #[.pointer none, .int .i64 v, .slice none 0 0] w fun e w' => e = .returned (.tuple #[.int .i64 0, .int .i64 0, .int .i64 1]) ∧ Below w.heap.size w w' := by
  go_enter Tryz.func21, Tryz.ntmps21
  go_wp2_with fail
  refine (fault_n v _).mono ?_; rintro e w1 ⟨rfl, hb⟩
  go_wp2_with fail
  exact bodyPost_ret (v := .tuple #[.int .i64 0, .int .i64 0, .int .i64 1]) (by simp [results, Tryz.results21, go_sem]) rfl ⟨rfl, hb⟩
set_option maxHeartbeats 4000000 in
set_option maxRecDepth 100000 in
theorem set_g {w : World} {B : Nat} {R : List (List Int)} {F : Nat → Prop} (hG : GrR w B R F) (v : Int) {x : Value} {l : List Int} (hl : SlX F w x l) (hn : l.length ≤ 1000000) :
    Calls Tryz.prog 21 #[.pointer (some ⟨B, 0, none⟩), .int .i64 v, x] w fun e w' => e = .returned (.tuple #[.int .i64 (gadd R v l), .int .i64 (gdrop R v l), .int .i64 (gfault R.length v l)]) ∧ ∃ F', GrR w' B (gset R v l) F' ∧ Turn F w w' ∧ ∀ j, F' j → F j ∨ w.heap.size ≤ j := by
  have hGR := hG
  obtain ⟨hI, A, S, V, M, h, hF⟩ := hG
  have hfa := fault_g h.b0 h.lo h.hi v hl.1 hn
  by_cases hf : gfault R.length v l = 0
  · obtain ⟨f1, f2, f3, f4⟩ := gfault_ok hf
    obtain ⟨k, rfl⟩ := Int.eq_ofNat_of_zero_le f1.1
    have hk : k < R.length := by have := f1.2; omega
    have hedges := Lib.hid (gedges_set hI hf)
    have hIs := Lib.hid (hI.set (k : Int) l)
    have hgs : gset R (k : Int) l = R.set k l := by unfold gset; rw [if_pos hf, Int.toNat_natCast]
    rw [hgs] at hedges hIs ⊢
    have hga : gadd R (k : Int) l = (gmiss l (gR R k) : Nat) := by unfold gadd; rw [if_pos hf, Int.toNat_natCast]
    have hgd : gdrop R (k : Int) l = (gmiss (gR R k) l : Nat) := by unfold gdrop; rw [if_pos hf, Int.toNat_natCast]
    rw [hga, hgd] at hedges ⊢
    rw [hf] at hfa ⊢
    rw [hF] at hl ⊢
    have HG := Lib.hid h; have HL := Lib.hid hl
    have HQ := Lib.hid (q_is (l := l) hk)
    have hmis1 := gmiss_le l (gR R k)
    have hmis2 := gmiss_le (gR R k) l
    have hlR := hI.len k
    have hRhi := hI.hi
    have hE0 := hI.edges
    have hE1 := hIs.out.edges
    have hAd := fun w (hh : GrP w B A S R.length V M R (gq R) (gedges R : Int)) (hx : SlX (grF B A S R.length V M) w x l) => add_g hh k hk hx f2 f4 hn
    rw [cadd_is hk f2] at hAd
    clear h hl hf hgs hga hgd hGR
    go_enter Tryz.func21, Tryz.ntmps21
    go_wp2_with fail
    refine hfa.mono ?_; rintro e w1 ⟨rfl, hb1⟩
    go_wp2_with fail
    refine (hAd w1 (HG.out.below hb1) (HL.out.below hb1)).mono ?_
    rintro e w2 ⟨M2, rfl, h2, t2, s2⟩
    have hx2 := (HL.out.below hb1).turn t2 s2
    go_wp2_with fail
    refine (drop_g h2 k hk hx2 f2 hn (fun z hz => ?_) (by omega) (hI.nd k)).mono ?_
    · have h1 := hI.nodes k z hz
      refine ⟨h1, ?_⟩
      unfold qadd gq
      have h2 : ((z.toNat : Nat) : Int) = z := by unfold gnd at h1; omega
      rw [h2, Int.toNat_natCast, decide_eq_true (show gnd R.length (k : Int) ∧ z ∈ gR R k from ⟨f1, hz⟩)]; rfl
    rintro e w3 ⟨rfl, h3, t3⟩
    have h3 := h3.same fun y _ u => HQ.out y u
    have hx3 := hx2.turn t3 fun j hj => Or.inl hj
    have hT3 : Turn (grF B A S R.length V M) w w3 := ((Turn.of_below hb1).trans t2 fun j hj => Or.inl hj).trans t3 fun j hj => by
      rcases s2 j hj with q | q
      · exact Or.inl q
      · exact Or.inr (Nat.le_trans hb1.size q)
    have b0 := h3.b0
    have i0 : (0 : Int) ≤ (k : Int) := by omega
    have i1 : (k : Int) < (R.length : Int) := by omega
    have hcl := fun wz (q : wz.heap = w3.heap) => clone_i (w := wz) (sl_keep hx3.1 fun b _ => by rw [q]) hn
    have H3 := Lib.hid h3; have HT3 := Lib.hid hT3
    have HS2 := Lib.hid s2
    have HLR : Hid (∀ z ∈ l, InR z) := fun z hz => by have h1 := f2 z hz; unfold gnd at h1; unfold InR; omega
    have HW := Lib.hid hb1.size
    clear h2 t2 s2 hx2 h3 t3 hx3 hT3 hb1 hfa hAd HG HQ
    go_wp2_with fail
    refine wp_region_held_drew (S := fun wz => wz.cell? ⟨B, 0, none⟩ = some (.slice (some ⟨A, 0, none⟩) R.length R.length)) (by kernel_rfl) (b0) (fun hHeld => ?_)
    refine wpAnyH_take (i := 0) (v := ?_) rfl (by kernel_rfl) (by kernel_rfl) (by kernel_rfl) (fun _ _ _ h => h) (Or.inl ⟨by rfl, ?y0⟩) (by assumption) ?_
    case y0 => intro w hSw; (try dsimp only at hSw); go_simp; (try with_reducible rfl)
    (try simp only [Act.put, List.setIfInBounds_toArray, List.set_cons_zero, List.set_cons_succ, List.getElem_toArray, List.getElem_cons_zero, List.getElem_cons_succ])
    refine wpAnyH_take (i := 1) (v := ?_) rfl (by kernel_rfl) (by kernel_rfl) (by kernel_rfl) (fun _ _ _ h => h) (Or.inl ⟨by rfl, ?y1⟩) (by assumption) ?_
    case y1 => intro w hSw; (try dsimp only at hSw); go_simp; (try with_reducible rfl)
    (try simp only [Act.put, List.setIfInBounds_toArray, List.set_cons_zero, List.set_cons_succ, List.getElem_toArray, List.getElem_cons_zero, List.getElem_cons_succ])
    refine wpAnyH_take (i := 2) (v := ?_) rfl (by kernel_rfl) (by kernel_rfl) (by kernel_rfl) (fun _ _ _ h => h) (Or.inl ⟨by rfl, ?y2⟩) (by assumption) ?_
    case y2 => intro w hSw; (try dsimp only at hSw); go_simp; (try with_reducible rfl)
    (try simp only [Act.put, List.setIfInBounds_toArray, List.set_cons_zero, List.set_cons_succ, List.getElem_toArray, List.getElem_cons_zero, List.getElem_cons_succ])
    refine wpAnyH_take (i := 3) (v := ?_) rfl (by kernel_rfl) (by kernel_rfl) (by kernel_rfl) (fun _ _ _ h => h) (Or.inl ⟨by rfl, ?y3⟩) (by assumption) ?_
    case y3 => intro w hSw; (try dsimp only at hSw); go_simp; (try with_reducible rfl)
    (try simp only [Act.put, List.setIfInBounds_toArray, List.set_cons_zero, List.set_cons_succ, List.getElem_toArray, List.getElem_cons_zero, List.getElem_cons_succ])
    refine wpAnyH_take (i := 4) (v := ?_) rfl (by kernel_rfl) (by kernel_rfl) (by kernel_rfl) (fun _ _ _ h => h) (Or.inl ⟨by rfl, ?y4⟩) (by assumption) ?_
    case y4 => intro w hSw; (try dsimp only at hSw); go_simp; (try with_reducible rfl)
    (try simp only [Act.put, List.setIfInBounds_toArray, List.set_cons_zero, List.set_cons_succ, List.getElem_toArray, List.getElem_cons_zero, List.getElem_cons_succ])
    refine wpAnyH_take (i := 5) (v := ?_) rfl (by kernel_rfl) (by kernel_rfl) (by kernel_rfl) (fun _ _ _ h => h) (Or.inl ⟨by rfl, ?y5⟩) (by assumption) ?_
    case y5 => intro w hSw; (try dsimp only at hSw); go_simp; (try with_reducible rfl)
    (try simp only [Act.put, List.setIfInBounds_toArray, List.set_cons_zero, List.set_cons_succ, List.getElem_toArray, List.getElem_cons_zero, List.getElem_cons_succ])
    refine wpAnyH_ready (rs := [6]) (by kernel_rfl) (by simp) ?_
    refine AllReadyH.cons rfl (fun K hK => ?_) AllReadyH.nil
    go_simp
    refine (hcl w3.drew rfl).mono ?_; rintro e w4 ⟨u, rfl, ho, hb4⟩
    have h4 := H3.out.drew.below hb4
    have b1 := h4.b0
    have sA := h4.hA.a k hk
    have zA := h4.hA.z k hk
    obtain ⟨ua, uc, rfl⟩ := (ownsRow_slc ho).form
    have hsl := Own.sl ho HLR.out
    have hnw : ∀ b, (Value.slice ua l.length uc).ownBlock = some b → b < w4.heap.size ∧ ¬ grF B A S R.length V M2 b := fun b hb => ⟨(World.ownsRow.lt ho b hb).2, fun hg => by have h5 := H3.out.foot b hg; have h6 : w3.heap.size ≤ b := (World.ownsRow.lt ho b hb).1; omega⟩
    have HLY := Lib.hid (h4.lay hk rfl hsl hnw)
    have HB4 := Lib.hid hb4
    have HOW := Lib.hid (fun b hb => (World.ownsRow.lt ho b hb).1)
    have HSZ3 : Hid (w.heap.size ≤ w3.heap.size) := HT3.out.size
    clear h4 hb4 ho hsl hnw
    refine hK.out _ _ (b1) (fun hHeld => ?_)
    clear hK K
    (try simp only [Act.put, List.setIfInBounds_toArray, List.set_cons_zero, List.set_cons_succ, List.getElem_toArray, List.getElem_cons_zero, List.getElem_cons_succ])
    refine wpAnyH_take (i := 7) (v := ?_) rfl (by kernel_rfl) (by kernel_rfl) (by kernel_rfl) (fun _ _ _ h => h) (Or.inl ⟨by rfl, ?y7⟩) (by assumption) ?_
    case y7 => intro w hSw; (try dsimp only at hSw); go_simp; (try with_reducible rfl)
    (try simp only [Act.put, List.setIfInBounds_toArray, List.set_cons_zero, List.set_cons_succ, List.getElem_toArray, List.getElem_cons_zero, List.getElem_cons_succ])
    refine wpAnyH_ready (rs := [8]) (by kernel_rfl) (by simp) ?_
    refine AllReadyH.cons rfl (fun K hK => ?_) AllReadyH.nil
    go_simp
    refine hK.out _ _ (HLY.out.1.b0) (fun hHeld => ?_)
    clear hK K
    (try simp only [Act.put, List.setIfInBounds_toArray, List.set_cons_zero, List.set_cons_succ, List.getElem_toArray, List.getElem_cons_zero, List.getElem_cons_succ])
    refine wpAnyH_done (by kernel_rfl) ?_ _
    have b2 := HLY.out.1.b2
    have z2 := HLY.out.1.z2
    have hwr1 : -9223372036854775808 ≤ ((gmiss l (gR R k) : Nat) : Int) - ((gmiss (gR R k) l : Nat) : Int) := by omega
    have hwr2 : ((gmiss l (gR R k) : Nat) : Int) - ((gmiss (gR R k) l : Nat) : Int) ≤ 9223372036854775807 := by omega
    go_wp2_with fail
    refine bodyPost_ret (v := .tuple #[.int .i64 (gmiss l (gR R k) : Nat), .int .i64 (gmiss (gR R k) l : Nat), .int .i64 0]) (by simp [results, Tryz.results21, go_sem]) rfl ⟨rfl, ?_⟩
    rw [← hedges.out]
    obtain ⟨l1, l2, l3⟩ := HLY.out
    obtain ⟨c1, c2⟩ := l1.count (gedges (R.set k l) : Int)
    have e3 : R.length = (R.set k l).length := List.length_set.symm
    refine ⟨_, ⟨hIs.out, A, S, fun x => if x = k then Value.slice ua l.length uc else V x, M2, ?_, rfl⟩, ?_, ?_⟩
    · rw [← e3]; exact c1
    · have t4 : Turn (grF B A S R.length V M) w w4 := HT3.out.trans (Turn.of_below (F := grF B A S R.length V M) (((Below.refl w3.heap.size w3).drew).trans HB4.out)) (fun j hj => Or.inl hj)
      have hF2 : ∀ j, grF B A S R.length V M2 j → grF B A S R.length V M j ∨ w.heap.size ≤ j := fun j hj => by
        rcases HS2.out j hj with q | q
        · exact Or.inl q
        · exact Or.inr (Nat.le_trans HW.out q)
      refine (t4.trans l2 hF2).trans c2 fun j hj => ?_
      rcases l3 j hj with q | q
      · exact hF2 j q
      · exact Or.inr (Nat.le_trans HSZ3.out (HOW.out j q))
    · intro j hj
      rw [← e3] at hj
      rcases l3 j hj with q | q
      · rcases HS2.out j q with q | q
        · exact Or.inl q
        · exact Or.inr (Nat.le_trans HW.out q)
      · exact Or.inr (Nat.le_trans HSZ3.out (HOW.out j q))
  · have hgs : gset R v l = R := by unfold gset; rw [if_neg hf]
    have hga : gadd R v l = 0 := by unfold gadd; rw [if_neg hf]
    have hgd : gdrop R v l = 0 := by unfold gdrop; rw [if_neg hf]
    rw [hgs, hga, hgd]
    have HG := Lib.hid hGR
    have hnz : (gfault R.length v l != 0) = true := by simpa using hf
    clear h hl hf hgs hga hgd hGR hI
    generalize gfault R.length v l = e0 at *
    go_enter Tryz.func21, Tryz.ntmps21
    go_wp2_with fail
    refine hfa.mono ?_; rintro e w1 ⟨rfl, hb1⟩
    go_wp2_with fail
    exact bodyPost_ret (v := .tuple #[.int .i64 0, .int .i64 0, .int .i64 e0]) (by simp [results, Tryz.results21, go_sem]) rfl ⟨rfl, F, HG.out.below hb1, Turn.of_below hb1, fun j hj => Or.inl hj⟩
end Go.Proofs.YtbaeanpdjdcheaaGreat
