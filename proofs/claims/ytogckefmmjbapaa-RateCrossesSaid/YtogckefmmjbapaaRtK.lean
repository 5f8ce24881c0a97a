/-
  The landed Known: the periods of which a rate is known, sorted, each once. The condition: at most 100000 rates.
-/
import Derived.Test.YtogckefmmjbapaaRtF
import Derived.Test.YtogckefmmjbapaaCmp
namespace Go.Proofs.Ytogckefmmjbapaa
open Go.RowKit
set_option linter.unusedSimpArgs false
set_option linter.unusedVariables false

/-- The periods of the rates of one kind between two currencies. -/
def prds (L : List RtT) (k : RtT) : List Int := (L.filter fun r => decide (anT r = anT k)).map fun r => r.2.2.2.1
def knw (L : List RtT) (k : RtT) : List Int := Lib.compact ((prds L k).mergeSort fun x y => decide (x ≤ y))
set_option maxHeartbeats 4000000 in
set_option maxRecDepth 100000 in
theorem known_r (a : Option Addr) (c : Nat) (L : List RtT) (k : RtT) (w : World) (hL : RdR w a L) (hn : L.length ≤ 100000) :
    Calls Try.prog 19 #[.slice a L.length c, encR k] w fun e w' => ∃ v, e = .returned v ∧ Sl w' v (knw L k) ∧ Below w.heap.size w w' := by
  have hA0 := alike_r 32 (fun _ _ => rfl) anT (fun r w => anyTime_c r.1 r.2.1 r.2.2.1 r.2.2.2.1 r.2.2.2.2.1 r.2.2.2.2.2 w) a c L k (w.alloc (objR k)) (hL.below (below1 _ _)) hn
  have HB0 := Lib.hid (below1 w (objR k))
  obtain ⟨c0, c1, c2, c3, c4, c5⟩ := (Ow6.new w k).cells
  have HNI : Hid ((∀ s ∈ L.filter (fun r => decide (anT r = anT k)), okT s) ∧ (L.filter fun r => decide (anT r = anT k)).length ≤ 100000) := ⟨fun s hs => hL.1 s (List.mem_filter.1 hs).1, Nat.le_trans (List.length_filter_le _ _) hn⟩
  have HKN : Hid (∀ N, L.filter (fun r => decide (anT r = anT k)) = N → knw L k = Lib.compact ((N.map fun r => r.2.2.2.1).mergeSort fun x y => decide (x ≤ y))) := fun N h => by unfold knw prds; rw [h]
  obtain ⟨N, hN⟩ : ∃ N, L.filter (fun r => decide (anT r = anT k)) = N := ⟨_, rfl⟩
  have HF0 := Lib.hid (HKN.out N hN)
  rw [hN] at hA0 HNI
  obtain ⟨F0, hF0⟩ : ∃ F, knw L k = F := ⟨_, rfl⟩
  rw [hF0] at HF0 ⊢
  clear hN hF0 hL HKN
  go_enter Try.func19, Try.ntmps19
  go_wp2_with fail
  refine hA0.mono ?_; clear hA0; rintro e w1 ⟨v, rfl, hv, hb1⟩
  obtain ⟨an, cn, rfl, -, -, hNR⟩ := hv.reads HNI.out.1
  have HL := Lib.hid hNR
  have HB1 := Lib.hid (HB0.out.trans (hb1.mono HB0.out.size))
  clear hv hb1 hNR c0 c1 c2 c3 c4 c5
  go_wp2_with fail
  go_loopw [5, 12] (fun u i wr => ∃ j : Nat, j ≤ N.length ∧ i = .int .i64 (j : Int) ∧ Own wr w1.heap.size u ((N.take j).map fun r => r.2.2.2.1) ∧ Below w1.heap.size w1 wr) (fun _ i _ => N.length - (RowKit.intOf i).toNat)
  case atStart => exact ⟨0, Nat.zero_le _, rfl, Own.nil _ _, Below.refl _ _⟩
  case round =>
    obtain ⟨j, hj, rfl, ho, hb⟩ := hrel
    by_cases hlt : j < N.length
    · obtain ⟨b, off, rfl, e0, e1, e2, e3, e4, e5⟩ := (HL.out.below hb).2 j hlt
      have i0 : (0 : Int) ≤ (j : Int) := by omega
      have i1 : (j : Int) < (N.length : Int) := by omega
      have g1 := wrapR hlt (show N.length ≤ 1000000 by have := HNI.out.2; omega)
      have HM := Lib.hid (And.intro (show j + 1 ≤ N.length from hlt) (measR hlt))
      have HT : Hid ((N.take (j + 1)).map (fun r => r.2.2.2.1) = (N.take j).map (fun r => r.2.2.2.1) ++ [(N.getD j zR).2.2.2.1]) := by show _ = _; rw [takeR hlt, List.map_append]; rfl
      have HLEN : Hid (((N.take j).map fun r => r.2.2.2.1).length ≤ 100000) := by show _ ≤ _; rw [List.length_map, List.length_take]; exact Nat.le_trans (Nat.min_le_right _ _) HNI.out.2
      have HIN : Hid (∀ z ∈ (N.take j).map (fun r => r.2.2.2.1), InR z) := fun z hz => by
        obtain ⟨s, hs, rfl⟩ := List.mem_map.1 hz
        exact (HNI.out.1 s (List.mem_of_mem_take hs)).2.2.2.1
      generalize (N.take j).map (fun r => r.2.2.2.1) = M at *
      generalize N.getD j zR = s at *
      obtain ⟨W, hW⟩ : ∃ W, wr.alloc (objR s) = W := ⟨_, rfl⟩
      have hbS : Below wr.heap.size wr W := by rw [← hW]; exact below1 _ _
      have HXO : Hid (Ow6 W wr.heap.size s) := by rw [← hW]; exact Ow6.new wr s
      have HW := Lib.hid hW
      have HOS := Lib.hid (ho.below hbS)
      have HBS := Lib.hid (hb.trans (hbS.mono hb.size))
      have hsz := HBS.out.size
      have hlen : M.length ≤ 1000000000 := by have := HLEN.out; omega
      obtain ⟨a3, c3, hu⟩ := (ho.sl HIN.out).form
      subst hu
      clear hb ho hbS hlt hj hW
      go_upto_region 5 with fail
      rw [HW.out]
      clear HW e0 e1 e2 e3 e4 e5
      generalize wr.heap.size = bs at *
      obtain ⟨x0, x1, x2, x3, x4, x5⟩ := HXO.out.cells
      go_wp2_with (at_builtin; refine wp_push W rfl (.tmp 16) (.tmp 19) rfl w1.heap.size _ M s.2.2.2.1 rfl HOS.out rfl hlen hsz ?_; intro v5 w5 ho5 hb5)
      go_roundw
      · exact ⟨j + 1, HM.out.1, by go_num, by rw [HT.out]; exact ho5, HBS.out.trans hb5⟩
      · first | exact HM.out.2 | (rw [g1]; exact HM.out.2)
    · obtain rfl : j = N.length := by omega
      have HIN : Hid (∀ z ∈ N.map (fun r => r.2.2.2.1), InR z) := fun z hz => by
        obtain ⟨s, hs, rfl⟩ := List.mem_map.1 hz
        exact (HNI.out.1 s hs).2.2.2.1
      have HLEN : Hid ((N.map fun r => r.2.2.2.1).length ≤ 1000000) := by show _ ≤ _; rw [List.length_map]; have := HNI.out.2; omega
      rw [List.take_length] at ho
      have hd0 : decide ((N.length : Int) < (N.length : Int)) = false := decide_eq_false (by omega)
      have hst := sort_own ho HLEN.out hb.size
      have HSI : Hid (∀ z ∈ (N.map fun r => r.2.2.2.1).mergeSort (fun x y => decide (x ≤ y)), InR z) := fun z hz => HIN.out z ((perm_sort _).mem_iff.1 hz)
      have HSL : Hid (((N.map fun r => r.2.2.2.1).mergeSort fun x y => decide (x ≤ y)).length ≤ 1000000) := by show _ ≤ _; rw [(perm_sort _).length_eq]; exact HLEN.out
      have HSS : Hid (((N.map fun r => r.2.2.2.1).mergeSort fun x y => decide (x ≤ y)).Pairwise (· ≤ ·)) := sorted_sort _
      obtain ⟨a3, c3, rfl⟩ := (ho.sl HIN.out).form
      generalize (N.map fun r => r.2.2.2.1).mergeSort (fun x y => decide (x ≤ y)) = S at *
      generalize N.map (fun r => r.2.2.2.1) = M at *
      have HB := Lib.hid hb
      clear hb ho
      go_wp2_with fail
      refine hst.mono ?_; clear hst; rintro e w4 ⟨rfl, ho4, hb4⟩
      have HB4 : Hid (Below w1.heap.size w1 w4) := HB.out.trans hb4
      have hcp := compact_own ho4 HSL.out HSI.out HSS.out HB4.out.size
      rw [← HF0.out] at hcp
      clear ho4 hb4
      go_wp2_with fail
      refine hcp.mono ?_; clear hcp; rintro e w5 ⟨v5, rfl, hs5, hb5⟩
      have HS5 := Lib.hid hs5
      have HB5 : Hid (Below w1.heap.size w1 w5) := HB4.out.trans hb5
      obtain ⟨a5, c5, rfl⟩ := hs5.form
      clear hs5 hb5
      go_wp2_with fail
      go_ret
      exact ⟨_, rfl, HS5.out, HB1.out.trans (HB5.out.mono HB1.out.size)⟩
end Go.Proofs.Ytogckefmmjbapaa
