/-
  The document's Changes and Plan of layer 15. The conditions: a graph as it is told; at most 10^6 numbers. What laws ask of two answers that are the same. No conditions. The document's Run of layer 15. The conditions: a graph as it is told; at most 10^6 numbers.
-/
import Derived.Test.YtbaeanpdjdcheaaGreatPlnM
import Derived.Test.YtbaeanpdjdcheaaGreatRf3
import Derived.Test.YtbaeanpdjdcheaaGreatRf4
import Derived.Test.YtbaeanpdjdcheaaGreatGrU
import Derived.Test.YtbaeanpdjdcheaaGreatOr1
import Derived.Test.YtbaeanpdjdcheaaGreatGrJ
import Derived.Test.YtbaeanpdjdcheaaGreatRfH
namespace Go.Proofs.YtbaeanpdjdcheaaGreat
open Go.RowKit
set_option linter.unusedSimpArgs false
set_option linter.unusedVariables false

/- The document's Changes and Plan of layer 15. The conditions: a graph as it is told; at most 10^6 numbers. -/
/-- Whether a node changes, by a row of truths. -/
def chv (T : List Bool) (v : Int) : Bool := decide (0 ≤ v) && decide (v < (T.length : Int)) && T.getD v.toNat false
theorem chv_nil (v : Int) : chv [] v = false := by unfold chv; simp
theorem ReadsB.below {w w' : World} {a : Option Addr} {I : List Bool} (h : ReadsB w a I) (hb : Below w.heap.size w w') : ReadsB w' a I := fun k hk => by
  obtain ⟨b, off, rfl, hc⟩ := h k hk
  exact ⟨b, off, rfl, (hb.cell (p := ⟨b, off + k, none⟩) (World.block_lt_of_cell? _ _ hc)).trans hc⟩
theorem r15ch {w : World} {a : Option Addr} {c : Nat} {T : List Bool} (h : ReadsB w a T) (v : Int) :
    Calls Tryz.prog 17 #[.slice a T.length c, .int .i64 v] w fun e w' => e = .returned (.bool (chv T v)) ∧ w' = w := by
  by_cases h0 : 0 ≤ v
  · have d0 : decide (0 ≤ v) = true := decide_eq_true h0
    by_cases h1 : v < (T.length : Int)
    · have d1 : decide (v < (T.length : Int)) = true := decide_eq_true h1
      obtain ⟨k, rfl⟩ := Int.eq_ofNat_of_zero_le h0
      obtain ⟨b, off, rfl, hc⟩ := h k (by omega)
      have he : chv T (k : Int) = T.getD k false := by unfold chv; rw [d0, d1, Int.toNat_natCast]; rfl
      rw [he]
      generalize T.getD k false = t at *
      clear he h
      go_enter Tryz.func17, Tryz.ntmps17
      go_wp2_with fail
      go_ret
      exact ⟨rfl, rfl⟩
    · have d1 : decide (v < (T.length : Int)) = false := decide_eq_false h1
      have he : chv T v = false := by unfold chv; rw [d1]; simp
      rw [he]
      clear he h
      go_enter Tryz.func17, Tryz.ntmps17
      go_wp2_with fail
      go_ret
      exact ⟨rfl, rfl⟩
  · have d0 : decide (0 ≤ v) = false := decide_eq_false h0
    have he : chv T v = false := by unfold chv; rw [d0]; simp
    rw [he]
    clear he h
    go_enter Tryz.func17, Tryz.ntmps17
    go_wp2_with fail
    go_ret
    exact ⟨rfl, rfl⟩
/-- What is told of a plan, or of what is done of it: f of the order, and its error. -/
def PlnAns (e : Ending) (w w' : World) (R : List (List Int)) (S : List Int) (f : List Int → List Int) : Prop := ∃ (u : Value) (l : List Int) (s : Bool), e = .returned (.tuple #[u, .int .i64 (ecir s)]) ∧
  Own w' w.heap.size u (f (if s then [] else l)) ∧ IsOrd R (sel R.length (fnd S)) l ∧ StkP s R (fnd S) l ∧ Below w.heap.size w w'
set_option maxHeartbeats 4000000 in
theorem r15plan {w : World} {x : Value} {R : List (List Int)} (h : GRef w x R) (hI : GrI R) (fa : Option Addr) (fc : Nat) (D : List Int) (hr : Reads w fa D) (hn : D.length ≤ 1000000) {S : List Int} (hS : IsSt R.length (nUp R) D S) :
    Calls Tryz.prog 10 #[x, .slice fa D.length fc] w fun e w' => PlnAns e w w' R S id := by
  have hx := h
  obtain ⟨xa, xc, us, rfl, _, _, _, _, _⟩ := hx
  have hb0 := below1 w (.cells #[.slice xa R.length xc] 32)
  have hc0 : (w.alloc (.cells #[.slice xa R.length xc] 32)).cell? ⟨w.heap.size, 0, none⟩ = some (.slice xa R.length xc) := by simp [go_sem]
  obtain ⟨bx, hbx⟩ : ∃ bx, bx = w.heap.size := ⟨_, rfl⟩
  have HB0 := Lib.hid hb0
  have HG := Lib.hid (h.below hb0)
  have HR := Lib.hid (hr.below hb0)
  have HI := Lib.hid hI
  have HS := Lib.hid hS
  have HX := Lib.hid hbx
  clear h hr hI hS hb0
  go_enter Tryz.func10, Tryz.ntmps10
  go_wp2_with fail
  rw [← hbx] at hc0 ⊢
  clear hbx
  generalize w.alloc (.cells #[.slice xa R.length xc] 32) = w1 at *
  have hC : Hid (∀ W', Below w1.heap.size w1 W' → W'.cell? ⟨bx, 0, none⟩ = some (.slice xa R.length xc)) := fun W' q => (q.cell (p := ⟨bx, 0, none⟩) (World.block_lt_of_cell? _ _ hc0)).trans hc0
  clear hc0
  refine wp_region_held_drew (S := fun wz => wz.cell? ⟨bx, 0, none⟩ = some (.slice xa R.length xc)) (by kernel_rfl) (hC.out _ (Below.drew (Below.refl w1.heap.size w1))) (fun hHeld => ?_)
  refine wpAnyH_take (i := 0) (v := ?_) rfl (by kernel_rfl) (by kernel_rfl) (by kernel_rfl) (fun _ _ _ h => h) (Or.inl ⟨by rfl, ?y0⟩) (by assumption) ?_
  case y0 => intro w hSw; (try dsimp only at hSw); go_simp; (try with_reducible rfl)
  (try simp only [Act.put, List.setIfInBounds_toArray, List.set_cons_zero, List.set_cons_succ, List.getElem_toArray, List.getElem_cons_zero, List.getElem_cons_succ])
  refine wpAnyH_take (i := 1) (v := ?_) rfl (by kernel_rfl) (by kernel_rfl) (by kernel_rfl) (fun _ _ _ h => h) (Or.inl ⟨by rfl, ?y1⟩) (by assumption) ?_
  case y1 => intro w hSw; (try dsimp only at hSw); go_simp; (try with_reducible rfl)
  (try simp only [Act.put, List.setIfInBounds_toArray, List.set_cons_zero, List.set_cons_succ, List.getElem_toArray, List.getElem_cons_zero, List.getElem_cons_succ])
  refine wpAnyH_take (i := 2) (v := ?_) rfl (by kernel_rfl) (by kernel_rfl) (by kernel_rfl) (fun _ _ _ h => h) (Or.inl ⟨by rfl, ?y2⟩) (by assumption) ?_
  case y2 => intro w hSw; (try dsimp only at hSw); go_simp; (try with_reducible rfl)
  (try simp only [Act.put, List.setIfInBounds_toArray, List.set_cons_zero, List.set_cons_succ, List.getElem_toArray, List.getElem_cons_zero, List.getElem_cons_succ])
  refine wpAnyH_ready (rs := [3]) (by kernel_rfl) (by simp) ?_
  refine AllReadyH.cons rfl (fun K hK => ?_) AllReadyH.nil
  go_simp
  have q3 := r13reach (HG.out.below (Below.drew (Below.refl w1.heap.size w1))) HI.out fa fc D (HR.out.below (Below.drew (Below.refl w1.heap.size w1))) hn
  refine q3.mono ?_; clear q3; rintro e y3 ⟨u2, I2, rfl, ho2, hIl, hI2, hq⟩
  rw [← fnd_lst HS.out hIl hI2] at ho2
  obtain ⟨sb, sd, rfl, hr2⟩ := inr_own ho2 (fnd_inr HS.out HI.out.hi)
  have hb3 := (Below.drew (Below.refl w1.heap.size w1)).trans hq
  have hfl := fnd_le HS.out HI.out.hi
  have q4 := r14order (HG.out.below hb3) HI.out sb sd (fnd S) hr2 (by omega)
  have HB3 := Lib.hid hb3
  clear ho2 hq hr2 hIl hI2 hb3 hfl
  refine hK.out _ _ (hC.out _ HB3.out) (fun hHeld => ?_)
  clear hK K
  (try simp only [Act.put, List.setIfInBounds_toArray, List.set_cons_zero, List.set_cons_succ, List.getElem_toArray, List.getElem_cons_zero, List.getElem_cons_succ])
  refine wpAnyH_ready (rs := [4]) (by kernel_rfl) (by simp) ?_
  refine AllReadyH.cons rfl (fun K hK => ?_) AllReadyH.nil
  go_simp
  refine q4.mono ?_; clear q4; rintro e y4 ⟨u, l, s, rfl, ho, hO, hs, hb⟩
  have HF := Lib.hid (And.intro (own_low ho (Nat.le_trans HB0.out.size HB3.out.size)) (And.intro hO (And.intro hs (HB0.out.trans ((HB3.out.trans (hb.mono HB3.out.size)).mono HB0.out.size)))))
  have HB4 := Lib.hid (HB3.out.trans (hb.mono HB3.out.size))
  clear ho hO hs hb
  refine hK.out _ _ (hC.out _ HB4.out) (fun hHeld => ?_)
  clear hK K
  (try simp only [Act.put, List.setIfInBounds_toArray, List.set_cons_zero, List.set_cons_succ, List.getElem_toArray, List.getElem_cons_zero, List.getElem_cons_succ])
  refine wpAnyH_take (i := 5) (v := ?_) rfl (by kernel_rfl) (by kernel_rfl) (by kernel_rfl) (fun _ _ _ h => h) (Or.inl ⟨by rfl, ?y5⟩) (by assumption) ?_
  case y5 => intro w hSw; (try dsimp only at hSw); go_simp; (try with_reducible rfl)
  (try simp only [Act.put, List.setIfInBounds_toArray, List.set_cons_zero, List.set_cons_succ, List.getElem_toArray, List.getElem_cons_zero, List.getElem_cons_succ])
  refine wpAnyH_take (i := 6) (v := ?_) rfl (by kernel_rfl) (by kernel_rfl) (by kernel_rfl) (fun _ _ _ h => h) (Or.inl ⟨by rfl, ?y6⟩) (by assumption) ?_
  case y6 => intro w hSw; (try dsimp only at hSw); go_simp; (try with_reducible rfl)
  (try simp only [Act.put, List.setIfInBounds_toArray, List.set_cons_zero, List.set_cons_succ, List.getElem_toArray, List.getElem_cons_zero, List.getElem_cons_succ])
  refine wpAnyH_take (i := 7) (v := ?_) rfl (by kernel_rfl) (by kernel_rfl) (by kernel_rfl) (fun _ _ _ h => h) (Or.inl ⟨by rfl, ?y7⟩) (by assumption) ?_
  case y7 => intro w hSw; (try dsimp only at hSw); go_simp; (try with_reducible rfl)
  (try simp only [Act.put, List.setIfInBounds_toArray, List.set_cons_zero, List.set_cons_succ, List.getElem_toArray, List.getElem_cons_zero, List.getElem_cons_succ])
  refine wpAnyH_take (i := 8) (v := ?_) rfl (by kernel_rfl) (by kernel_rfl) (by kernel_rfl) (fun _ _ _ h => h) (Or.inl ⟨by rfl, ?y8⟩) (by assumption) ?_
  case y8 => intro w hSw; (try dsimp only at hSw); go_simp; (try with_reducible rfl)
  (try simp only [Act.put, List.setIfInBounds_toArray, List.set_cons_zero, List.set_cons_succ, List.getElem_toArray, List.getElem_cons_zero, List.getElem_cons_succ])
  refine wpAnyH_done (by kernel_rfl) ?_ _
  go_wp2_with fail
  go_ret2
  exact ⟨u, l, s, rfl, HF.out.1, HF.out.2.1, HF.out.2.2.1, HF.out.2.2.2⟩
/- What laws ask of two answers that are the same. No conditions. -/
theorem same_self {a a' : Option Addr} {c c' : Nat} {L : List Int} {w : World} (hL : Reads w a L) (hM : Reads w a' L) (hn : L.length ≤ 20000) :
    Calls Tryz.prog 13 #[.slice a L.length c, .slice a' L.length c'] w fun e w' => e = .returned (.bool true) ∧ Below w.heap.size w w' :=
  (same_any a a' c c' L L w hL hM (by omega)).mono fun e w' ⟨h, hb⟩ => ⟨by rw [h, decide_eq_true (show L = L from rfl)], hb⟩
theorem s_same {s t : Bool} {P : Prop} (h : s = true ↔ P) (k : t = true ↔ P) : s = t := Bool.eq_iff_iff.2 (h.trans k.symm)
theorem ord_inr {R : List (List Int)} {A l : List Int} (hA : ∀ z ∈ A, InR z) (h : IsOrd R A l) (s : Bool) : ∀ z ∈ (if s = true then [] else l), InR z := fun z hz => by
  split at hz
  · cases hz
  · exact hA z (h.step.sub z hz)
theorem ord_le {R : List (List Int)} {L l : List Int} (hI : GrI R) (h : IsOrd R (sel R.length L) l) (s : Bool) : (if s = true then [] else l).length ≤ 20000 := by
  split
  · simp
  · have := nodup_len (n := R.length) h.step.nodup fun x hx => (mem_sel.1 (h.step.sub x hx)).1
    have := hI.hi
    omega
/- The document's Run of layer 15. The conditions: a graph as it is told; at most 10^6 numbers. -/
/-- Whether a node is dirty, or reads one of the first j that was done and changed. -/
def isk (D out L : List Int) (T : List Bool) (v : Int) (j : Nat) : Bool := decide (v ∈ D) || (L.take j).any fun w => decide (w ∈ out) && chv T w
theorem isk_zero (D out L : List Int) (T : List Bool) (v : Int) : isk D out L T v 0 = decide (v ∈ D) := by simp [isk]
theorem isk_step {D out L : List Int} {T : List Bool} {v : Int} {j : Nat} (hj : j < L.length) : isk D out L T v (j + 1) = (isk D out L T v j || (decide (L.getD j 0 ∈ out) && chv T (L.getD j 0))) := by
  unfold isk
  rw [take_getD hj, List.any_append]
  simp [Bool.or_assoc]
theorem isk_all {R : List (List Int)} {D out : List Int} {T : List Bool} {v : Int} : isk D out (greads R v) T v (greads R v).length = mst R D (chv T) out v := by
  unfold isk mst; rw [List.take_length]
theorem pl_gnd {R : List (List Int)} {L l : List Int} (h : IsOrd R (sel R.length L) l) (s : Bool) : ∀ z ∈ (if s = true then [] else l), gnd R.length z := fun z hz => by
  split at hz
  · cases hz
  · exact (mem_sel.1 (h.step.sub z hz)).1
set_option maxHeartbeats 8000000 in
set_option maxRecDepth 100000 in
theorem r15run {w : World} {x : Value} {R : List (List Int)} (h : GRef w x R) (hI : GrI R) (fa : Option Addr) (fc : Nat) (D : List Int) (hr : Reads w fa D) (hn : D.length ≤ 1000000) {S : List Int} (hS : IsSt R.length (nUp R) D S)
    (ta : Option Addr) (tc : Nat) (T : List Bool) (hT : ReadsB w ta T) :
    Calls Tryz.prog 12 #[x, .slice fa D.length fc, .slice ta T.length tc] w fun e w' => PlnAns e w w' R S (don R D (chv T)) := by
  have hx := h
  obtain ⟨xa, xc, us, rfl, _, _, h4, h5, h6⟩ := hx
  have hIh := hI.hi
  have hb0 := below1 w (.cells #[.slice xa R.length xc] 32)
  have hc0 : (w.alloc (.cells #[.slice xa R.length xc] 32)).cell? ⟨w.heap.size, 0, none⟩ = some (.slice xa R.length xc) := by simp [go_sem]
  have hpl := r15plan (h.below hb0) hI fa fc D (hr.below hb0) hn hS
  obtain ⟨bx, hbx⟩ : ∃ bx, bx = w.heap.size := ⟨_, rfl⟩
  have HB0 := Lib.hid hb0
  have HG := Lib.hid (h.below hb0)
  have HR := Lib.hid (hr.below hb0)
  have HT := Lib.hid (hT.below hb0)
  have HI := Lib.hid hI
  have HX := Lib.hid hbx
  clear h hr hI hS hT hb0 h4 h5 h6
  go_enter Tryz.func12, Tryz.ntmps12
  go_wp2_with fail
  rw [← hbx] at hc0 ⊢
  clear hbx
  generalize w.alloc (.cells #[.slice xa R.length xc] 32) = w1 at *
  refine hpl.mono ?_; clear hpl; rintro e w2 ⟨u, l, s, rfl, ho, hO, hs, hb⟩
  have hpin := pl_gnd hO s
  have hple := ord_le HI.out hO s
  have HO := Lib.hid (And.intro hO hs)
  clear hO hs
  rw [id_eq] at ho
  obtain ⟨p, hp⟩ : ∃ p, p = (if s = true then [] else l) := ⟨_, rfl⟩
  have HP := Lib.hid hp
  rw [← hp] at ho hpin hple
  clear hp
  have hpr : ∀ z ∈ p, InR z := fun z hz => by have := hpin z hz; unfold gnd at this; unfold InR; omega
  obtain ⟨pa, pc, rfl, hpR⟩ := inr_own ho hpr
  have hB2 := HB0.out.trans (hb.mono HB0.out.size)
  have hc2 := (hb.cell (p := ⟨bx, 0, none⟩) (World.block_lt_of_cell? _ _ hc0)).trans hc0
  have HG2 := Lib.hid (HG.out.below hb)
  have HR2 := Lib.hid (HR.out.below hb)
  have HT2 := Lib.hid (HT.out.below hb)
  have HB2 := Lib.hid hB2
  have HU := Lib.hid hpR
  have HC := Lib.hid hc2
  have HPI := Lib.hid hpin
  obtain ⟨ee, hee⟩ : ∃ ee, ee = ecir s := ⟨_, rfl⟩
  have HE := Lib.hid hee
  rw [← hee]
  clear hee
  clear ho hb hB2 hc2 hc0 hpR hpr hpin HG HR HT HB0
  go_wp2_with fail
  go_loopw [10, 11] (fun ov i wr => ∃ k : Nat, k ≤ p.length ∧ i = .int .i64 (k : Int) ∧ Own wr w2.heap.size ov (don R D (chv T) (p.take k)) ∧ Below w2.heap.size w2 wr) (fun _ i _ => p.length - (RowKit.intOf i).toNat)
  case atStart => exact ⟨0, Nat.zero_le _, rfl, by rw [List.take_zero]; exact Own.nil _ _, Below.refl _ _⟩
  case round =>
    obtain ⟨k, hk, rfl, hown, hb⟩ := hrel
    by_cases hlt : k < p.length
    · obtain ⟨pb, po, rfl, hcp⟩ := (HU.out.below hb).2 k hlt
      have hg := HPI.out (p.getD k 0) (by rw [getD_lt _ _ hlt]; exact List.getElem_mem hlt)
      obtain ⟨v, hv⟩ : ∃ v : Nat, p.getD k 0 = ((v : Nat) : Int) := ⟨(p.getD k 0).toNat, by unfold gnd at hg; omega⟩
      have hvl : v < R.length := by unfold gnd at hg; omega
      have i0 : (0 : Int) ≤ (k : Int) := by omega
      have i1 : (k : Int) < (p.length : Int) := by omega
      have HY := Lib.hid (fun (q : mst R D (chv T) (don R D (chv T) (p.take k)) ((v : Nat) : Int) = true) => don_yes (R := R) (D := D) (ch := chv T) hlt (by rw [hv]; exact q))
      have HN := Lib.hid (fun (q : mst R D (chv T) (don R D (chv T) (p.take k)) ((v : Nat) : Int) = false) => don_no (R := R) (D := D) (ch := chv T) hlt (by rw [hv]; exact q))
      have HV := Lib.hid hv
      have hdl := don_lenk (R := R) (D := D) (ch := chv T) hk
      rw [hv] at hcp
      have hdin : ∀ z ∈ don R D (chv T) (p.take k), InR z := fun z hz => by
        have := HPI.out z (List.mem_of_mem_take (don_of hz)); unfold gnd at this; unfold InR; omega
      obtain ⟨out, hout⟩ : ∃ out, out = don R D (chv T) (p.take k) := ⟨_, rfl⟩
      have HOUT := Lib.hid hout
      rw [← hout] at hown hdl hdin
      clear hout hv
      obtain ⟨oa, oc, rfl, hor⟩ := inr_own hown hdin
      have hhas := has_any fa fc D ((v : Nat) : Int) wr (HR2.out.below hb) (by omega)
      have HOW := Lib.hid hown
      have HOR := Lib.hid hor
      have HBW := Lib.hid hb
      have HLT := Lib.hid hlt
      have hcb := (hb.cell (p := ⟨bx, 0, none⟩) (World.block_lt_of_cell? _ _ HC.out)).trans HC.out
      obtain ⟨ya, yc, us2, hyx, _, _, g4, g5, g6⟩ := HG2.out.below hb
      simp only [Value.agg.injEq, Array.mk.injEq, List.cons.injEq, and_true, Value.slice.injEq, true_and] at hyx
      obtain ⟨rfl, rfl⟩ := hyx
      have hat := GRef.at g4 g5 g6 hvl
      clear hown hor hb hg hdin g4 g5 g6 hlt
      go_wp2_with fail
      refine hhas.mono ?_; clear hhas; rintro e w3 ⟨rfl, hw⟩
      subst hw
      obtain ⟨gb, go, sa, sc, rfl, hgc, _, _, hsr⟩ := hat
      have hLe : gR R v = greads R ((v : Nat) : Int) := (greads_nat hvl).symm
      have hLl : (gR R v).length ≤ 1000000 := Nat.le_trans (HI.out.len v) (by omega)
      have HRW := Lib.hid hsr
      obtain ⟨L, hL⟩ : ∃ L, L = gR R v := ⟨_, rfl⟩
      rw [← hL] at HRW hgc hLl
      rw [← hL] at hLe
      have HL := Lib.hid hLe
      have HGC := Lib.hid hgc
      have hz0 := isk_zero D out L T ((v : Nat) : Int)
      rw [← hz0]
      clear hsr hL hLe hgc hz0
      have j0 : (0 : Int) ≤ (v : Int) := by omega
      have j1 : (v : Int) < (R.length : Int) := by omega
      go_wp2_with fail
      go_loopw [13, 14] (fun bv jv wy => ∃ j : Nat, j ≤ L.length ∧ jv = .int .i64 (j : Int) ∧ bv = .bool (isk D out L T ((v : Nat) : Int) j) ∧ wy = wr) (fun _ i _ => L.length - (RowKit.intOf i).toNat)
      case atStart => exact ⟨0, Nat.zero_le _, rfl, rfl, rfl⟩
      case round =>
        obtain ⟨j, hj, rfl, rfl, hwy⟩ := hrel
        subst hwy
        have hgc := HGC.out
        by_cases hjl : j < L.length
        · obtain ⟨sb, so, rfl, hcs⟩ := HRW.out.2 j hjl
          have i2 : (0 : Int) ≤ (j : Int) := by omega
          have i3 : (j : Int) < (L.length : Int) := by omega
          have hst := isk_step (D := D) (out := out) (T := T) (v := ((v : Nat) : Int)) hjl
          have hho := has_any oa oc out (L.getD j 0) wr HOR.out (by omega)
          have hch := r15ch (HT2.out.below HBW.out) (c := tc) (L.getD j 0)
          generalize L.getD j 0 = z at *
          cases hi : isk D out L T ((v : Nat) : Int) j with
          | true =>
            rw [hi, Bool.true_or] at hst
            have HST := Lib.hid hst
            clear hst hi hho hch
            go_wp2_with fail
            go_roundw
            · exact ⟨j + 1, by omega, by go_num, by rw [HST.out], by first | rfl | trivial⟩
            · simp [RowKit.intOf]; omega
          | false =>
            rw [hi, Bool.false_or] at hst
            cases hm : decide (z ∈ out) with
            | false =>
              rw [hm, Bool.false_and] at hst
              rw [hm] at hho
              have HST := Lib.hid hst
              clear hst hi hch hm
              go_wp2_with fail
              refine hho.mono ?_; clear hho; rintro e w4 ⟨rfl, hw⟩
              subst hw
              go_wp2_with fail
              go_roundw
              · exact ⟨j + 1, by omega, by go_num, by rw [HST.out], by first | rfl | trivial⟩
              · simp [RowKit.intOf]; omega
            | true =>
              rw [hm, Bool.true_and] at hst
              rw [hm] at hho
              have HST := Lib.hid hst
              generalize chv T z = cz at *
              clear hst hi hm
              go_wp2_with fail
              refine hho.mono ?_; clear hho; rintro e w4 ⟨rfl, hw⟩
              subst hw
              go_wp2_with fail
              refine hch.mono ?_; clear hch; rintro e w5 ⟨rfl, hw⟩
              replace hw := hw.symm
              subst hw
              go_wp2_with fail
              go_roundw
              · exact ⟨j + 1, by omega, by go_num, by rw [HST.out], by first | rfl | trivial⟩
              · simp [RowKit.intOf]; omega
        · obtain rfl : j = L.length := by omega
          have hd1 : decide ((L.length : Int) < (L.length : Int)) = false := decide_eq_false (by omega)
          have hall : isk D out L T ((v : Nat) : Int) L.length = mst R D (chv T) out ((v : Nat) : Int) := by rw [HL.out]; exact isk_all
          have hsz := HBW.out.size
          rw [hall]
          clear hall
          rw [← HOUT.out] at HY HN
          cases hm : mst R D (chv T) out ((v : Nat) : Int) with
          | false =>
            have HQ := Lib.hid (HN.out hm)
            clear hm HY HN
            go_wp2_with fail
            go_roundw
            · exact ⟨k + 1, HLT.out, by go_num, by rw [HQ.out]; exact HOW.out, HBW.out⟩
            · have := HLT.out; simp [RowKit.intOf]; omega
          | true =>
            have HQ := Lib.hid (HY.out hm)
            clear hm HY HN
            go_wp2_with
              (at_builtin
               refine wp_push wr rfl (.tmp 65) (.tmp 67) rfl w2.heap.size _ out ((v : Nat) : Int) rfl HOW.out rfl (by omega) hsz ?_
               intro v4 w4 o4 b4
               have O4 := Lib.hid o4; have B4 := Lib.hid (HBW.out.trans b4)
               clear o4 b4)
            go_roundw
            · exact ⟨k + 1, HLT.out, by go_num, by rw [HQ.out, HV.out]; exact O4.out, B4.out⟩
            · have := HLT.out; simp [RowKit.intOf]; omega
    · obtain rfl : k = p.length := by omega
      have hd0 : decide ((p.length : Int) < (p.length : Int)) = false := decide_eq_false (by omega)
      rw [List.take_length] at hown
      have HF := Lib.hid (And.intro (own_low hown HB2.out.size) (HB2.out.trans (hb.mono HB2.out.size)))
      clear hown hb hk
      go_wp2_with fail
      go_ret2
      exact ⟨_, l, s, by rw [← HE.out]; rfl, by rw [← HP.out]; exact HF.out.1, HO.out.1, HO.out.2, HF.out.2⟩
end Go.Proofs.YtbaeanpdjdcheaaGreat
