/-
  What the document's own New, Find, Key, Cut and Id (gavelkindref08) answer, for whatever table and number. The condition: at most 10^9 keys.
-/
import Derived.Test.YteeonglebimnlaaIntM
import Derived.Test.YteeonglebimnlaaRefHs0
import Derived.Test.YteeonglebimnlaaRatK
namespace Go.Proofs.Yteeonglebimnlaa
open Go.RowKit
set_option linter.unusedSimpArgs false
set_option linter.unusedVariables false

set_option maxHeartbeats 1000000 in
theorem r8new (m : Int) (w : World) :
    Calls Try.prog 8 #[.int .i64 m] w fun e w' => e = .returned (.tuple #[.agg #[.slice none 0 0, .int .i64 (if OkT m then m else 0)], .int .i64 (if OkT m then 0 else 2)]) ∧ Below w.heap.size w w' := by
  by_cases h : OkT m
  · rw [if_pos h, if_pos h]
    have d1 : decide (m < 1) = false := decide_eq_false (by unfold OkT at h; omega)
    have d2 : decide (20000 < m) = false := decide_eq_false (by unfold OkT at h; omega)
    clear h
    go_enter Try.func8, Try.ntmps8
    go_wp2_with fail
    refine bodyPost_ret (v := .tuple #[.agg #[.slice none 0 0, .int .i64 m], .int .i64 0]) (by simp [results, Try.results8, go_sem]) rfl ⟨rfl, below1 _ _⟩
  · rw [if_neg h, if_neg h]
    by_cases h1 : m < 1
    · clear h
      go_enter Try.func8, Try.ntmps8
      go_wp2_with fail
      refine bodyPost_ret (v := .tuple #[.agg #[.slice none 0 0, .int .i64 0], .int .i64 2]) (by simp [results, Try.results8, go_sem]) rfl ⟨rfl, below1 _ _⟩
    · have h2 : 20000 < m := by unfold OkT at h; omega
      clear h
      go_enter Try.func8, Try.ntmps8
      go_wp2_with fail
      refine bodyPost_ret (v := .tuple #[.agg #[.slice none 0 0, .int .i64 0], .int .i64 2]) (by simp [results, Try.results8, go_sem]) rfl ⟨rfl, below1 _ _⟩

theorem idx_at {K : List Int} {n : Nat} (hn : n < K.length) (h : ∀ s ∈ K.take n, s ≠ K.getD n 0) : K.idxOf (K.getD n 0) = n := by
  have e : K = K.take n ++ (K.getD n 0 :: K.drop (n + 1)) := by
    rw [getD_lt _ _ hn, ← List.drop_eq_getElem_cons hn, List.take_append_drop]
  generalize hz : K.getD n 0 = z at *
  rw [e, List.idxOf_append, if_neg (fun q => h _ q rfl), List.idxOf_cons_self, List.length_take]
  omega

set_option maxHeartbeats 1000000 in
theorem r8find (v : Value) (K : List Int) (m k : Int) (w : World) (hv : Tab w v K m) (hn : (K.length : Int) ≤ 9223372036854775807) :
    Calls Try.prog 26 #[v, .int .i64 k] w fun e w' => e = .returned (.tuple #[.int .i64 (fndi K k), .bool (decide (k ∈ K))]) ∧ Below w.heap.size w w' := by
  obtain ⟨u, rfl, a, c, rfl, hcap, hc0, hL⟩ := hv
  have HL := Lib.hid (hL.alloc (.cells #[.slice a K.length c, .int .i64 m] 30)); clear hL
  obtain ⟨r, hr⟩ : ∃ r, r = decide (k ∈ K) := ⟨_, rfl⟩
  obtain ⟨j, hj⟩ : ∃ j, j = fndi K k := ⟨_, rfl⟩
  rw [← hr, ← hj]
  have HR := Lib.hid hr; have HJ := Lib.hid hj; clear hr hj hcap hc0
  have K1 := Lib.hid (below1 w (.cells #[.slice a K.length c, .int .i64 m] 30))
  go_enter Try.func26, Try.ntmps26
  go_wp2_with fail
  obtain ⟨x0, x1, x2⟩ := At2.new w (.slice a K.length c) (.int .i64 m) 30
  generalize w.alloc (.cells #[.slice a K.length c, .int .i64 m] 30) = W at *
  go_loopw [6] (fun i wr => ∃ n : Nat, n ≤ K.length ∧ i = .int .i64 (n : Int) ∧ (∀ s ∈ K.take n, s ≠ k) ∧ W = wr) (fun i _ => K.length - (intOf i).toNat)
  case atStart => exact ⟨0, Nat.zero_le _, rfl, by simp, rfl⟩
  case round =>
    obtain ⟨n, hk, rfl, hok, rfl⟩ := hrel
    by_cases hlt : n < K.length
    · obtain ⟨b, off, rfl, hc⟩ := HL.out.2 n hlt
      have i0 : (0 : Int) ≤ (n : Int) := by omega
      have i1 : (n : Int) < (K.length : Int) := by omega
      have HM := Lib.hid (take_step hlt (· ≠ k))
      have HK := Lib.hid hok; clear hok
      have HI : Hid (k = K.getD n 0 → K.idxOf k = n) := fun q => by rw [q]; exact idx_at hlt (by rw [← q]; exact HK.out)
      have HZ : Hid (K.getD n 0 ∈ K) := by show _ ∈ _; rw [getD_lt _ _ hlt]; exact List.getElem_mem hlt
      generalize K.getD n 0 = z at *
      by_cases hs : z = k
      · subst hs
        have hr : r = true := by rw [HR.out]; exact decide_eq_true HZ.out
        have hj : j = (n : Int) := by rw [HJ.out]; unfold fndi; rw [if_pos HZ.out, HI.out rfl]
        subst hr hj
        go_wp2_with fail
        go_ret2
        exact ⟨rfl, K1.out⟩
      · have he : (z == k) = false := by simpa using hs
        have HS := Lib.hid hs; clear hs
        go_wp2_with fail
        go_roundw
        · exact ⟨n + 1, by omega, by go_num, HM.out.mpr ⟨HK.out, HS.out⟩, by first | rfl | trivial⟩
        · simp [intOf]; omega
    · obtain rfl : n = K.length := by omega
      rw [List.take_length] at hok
      have hk : ¬ k ∈ K := fun q => hok _ q rfl
      have hr : r = false := by rw [HR.out]; exact decide_eq_false hk
      have hj : j = 0 := by rw [HJ.out]; unfold fndi; rw [if_neg hk]
      subst hr hj
      clear hok hk
      have hd0 : decide ((K.length : Int) < (K.length : Int)) = false := decide_eq_false (by omega)
      go_wp2_with fail
      go_ret2
      exact ⟨rfl, K1.out⟩

set_option maxHeartbeats 1000000 in
theorem r8key (v : Value) (K : List Int) (m i : Int) (w : World) (hv : Tab w v K m) :
    Calls Try.prog 27 #[v, .int .i64 i] w fun e w' => e = .returned (.tuple #[.int .i64 (tkey K i), .bool (decide (OkI K i))]) ∧ Below w.heap.size w w' := by
  obtain ⟨u, rfl, a, c, rfl, hcap, hc0, hL⟩ := hv
  replace hL := hL.alloc (.cells #[.slice a K.length c, .int .i64 m] 30)
  have K1 := Lib.hid (below1 w (.cells #[.slice a K.length c, .int .i64 m] 30))
  obtain ⟨x0, x1, x2⟩ := At2.new w (.slice a K.length c) (.int .i64 m) 30
  by_cases h : OkI K i
  · obtain ⟨n, rfl⟩ := Int.eq_ofNat_of_zero_le h.1
    have hlt : n < K.length := by unfold OkI at h; omega
    unfold tkey
    rw [if_pos h, decide_eq_true h, Int.toNat_natCast]
    obtain ⟨b, off, rfl, hc⟩ := hL.2 n hlt
    have i0 : (0 : Int) ≤ (n : Int) := by omega
    have i1 : (n : Int) < (K.length : Int) := by omega
    have d1 : decide ((n : Int) < 0) = false := decide_eq_false (by omega)
    have d2 : decide ((K.length : Int) ≤ (n : Int)) = false := decide_eq_false (by omega)
    generalize K.getD n 0 = z at *
    clear h hL hcap hc0
    go_enter Try.func27, Try.ntmps27
    go_wp2_with fail
    go_ret2
    exact ⟨rfl, K1.out⟩
  · unfold tkey
    rw [if_neg h, decide_eq_false h]
    by_cases h1 : i < 0
    · clear h hL hcap hc0
      go_enter Try.func27, Try.ntmps27
      go_wp2_with fail
      go_ret2
      exact ⟨rfl, K1.out⟩
    · have d2 : decide ((K.length : Int) ≤ i) = true := decide_eq_true (by unfold OkI at h; omega)
      clear h hL hcap hc0
      go_enter Try.func27, Try.ntmps27
      go_wp2_with fail
      go_ret2
      exact ⟨rfl, K1.out⟩

theorem sl_take {w w' : World} {a : Option Addr} {cap n : Nat} {L : List Int} (h : Reads w a L) (hc : L.length ≤ cap) (hc0 : a = none → cap = 0) (hn : n ≤ L.length) (hb : Below w.heap.size w w') : Sl w' (.slice a n cap) (L.take n) := by
  have hl : (L.take n).length = n := by rw [List.length_take]; omega
  refine Sl.below (w := w) ⟨a, cap, by rw [hl], by omega, hc0, fun z hz => h.1 z (List.mem_of_mem_take hz), fun i hi => ?_⟩ hb
  obtain ⟨b, off, ha, hcell⟩ := h.2 i (by omega)
  refine ⟨b, off, ha, ?_⟩
  rw [hcell, getD_lt _ _ hi, getD_lt _ _ (by omega), List.getElem_take]
theorem below2s (w : World) (a b : Obj) (x y z : Value) : Below w.heap.size w (((((w.alloc a).alloc b).setCell ⟨w.heap.size, 0, none⟩ x).setCell ⟨w.heap.size + 1, 0, none⟩ y).setCell ⟨w.heap.size + 1, 1, none⟩ z) :=
  (((below2 w a b).setCell (by simp) _).setCell (by simp) _).setCell (by simp) _

set_option maxHeartbeats 1000000 in
theorem r8cut (G : Nat → Prop) (v : Value) (K : List Int) (m n : Int) (w : World) (hv : TabG G w v K m) :
    Calls Try.prog 28 #[v, .int .i64 n] w fun e w' => ∃ u, e = .returned u ∧ TabG G w' u (tcut K n) m ∧ Below w.heap.size w w' := by
  obtain ⟨u, rfl, ⟨a, c, rfl, hcap, hc0, hL⟩, hG⟩ := hv
  have HG := Lib.hid hG; clear hG
  have HB := Lib.hid (below2 w (.cells #[.slice a K.length c, .int .i64 m] 30) (.cells #[.slice none 0 0, .int .i64 0] 30))
  by_cases h : n < (K.length : Int) ∧ 0 < K.length
  · obtain ⟨q, hq, hq2⟩ : ∃ q : Nat, q = n.toNat ∧ q < K.length := ⟨n.toNat, rfl, by omega⟩
    have HS := Lib.hid (fun w' hb => sl_take (w' := w') (n := q) hL hcap hc0 (by omega) hb)
    obtain ⟨b, off, rfl, _⟩ := hL.2 0 h.2
    unfold tcut
    rw [← hq]
    have i1 : (q : Int) ≤ (c : Int) := by omega
    have i1' : q ≤ c := by omega
    have i2 : 0 < K.length := by omega
    have i3 : q < K.length := by omega
    by_cases h1 : n < 0
    · obtain rfl : q = 0 := by omega
      clear h hL hcap hc0 hq hq2
      go_enter Try.func28, Try.ntmps28
      go_wp2_with fail
      refine bodyPost_ret (v := .agg #[.slice (some ⟨b, off, none⟩) 0 c, .int .i64 m]) (by simp [results, Try.results28, go_sem]) rfl ⟨_, rfl, ⟨_, rfl, ?_, fun j q => ⟨Nat.lt_of_lt_of_le (HG.out j q).1 (below2 _ _ _).size, (HG.out j q).2⟩⟩, ?_⟩
      · exact HS.out _ (below2 _ _ _)
      · exact below2 _ _ _
    · have hn : n = (q : Int) := by omega
      subst hn
      clear h hL hcap hc0 hq hq2
      go_enter Try.func28, Try.ntmps28
      go_wp2_with fail
      refine bodyPost_ret (v := .agg #[.slice (some ⟨b, off, none⟩) q c, .int .i64 m]) (by simp [results, Try.results28, go_sem]) rfl ⟨_, rfl, ⟨_, rfl, ?_, fun j q => ⟨Nat.lt_of_lt_of_le (HG.out j q).1 (below2 _ _ _).size, (HG.out j q).2⟩⟩, ?_⟩
      · exact HS.out _ (below2 _ _ _)
      · exact below2 _ _ _
  · have hr : tcut K n = K := by
      unfold tcut; rw [List.take_of_length_le (by omega)]
    rw [hr]
    have HS := Lib.hid (show Sl w (.slice a K.length c) K from ⟨a, c, rfl, hcap, hc0, hL⟩)
    by_cases h1 : n < 0
    · have h2 : ¬ 0 < K.length := by omega
      clear h hL hcap hc0
      go_enter Try.func28, Try.ntmps28
      go_wp2_with fail
      refine bodyPost_ret (v := .agg #[.slice a K.length c, .int .i64 m]) (by simp [results, Try.results28, go_sem]) rfl ⟨_, rfl, ⟨_, rfl, ?_, fun j q => ⟨Nat.lt_of_lt_of_le (HG.out j q).1 (below2 _ _ _).size, (HG.out j q).2⟩⟩, ?_⟩
      · exact HS.out.below (below2 _ _ _)
      · exact below2 _ _ _
    · have h2 : decide (n < (K.length : Int)) = false := decide_eq_false (by omega)
      clear h hL hcap hc0
      go_enter Try.func28, Try.ntmps28
      go_wp2_with fail
      refine bodyPost_ret (v := .agg #[.slice a K.length c, .int .i64 m]) (by simp [results, Try.results28, go_sem]) rfl ⟨_, rfl, ⟨_, rfl, ?_, fun j q => ⟨Nat.lt_of_lt_of_le (HG.out j q).1 (below2 _ _ _).size, (HG.out j q).2⟩⟩, ?_⟩
      · exact HS.out.below (below2 _ _ _)
      · exact below2 _ _ _

set_option maxHeartbeats 1000000 in
theorem r8id (G : Nat → Prop) (v : Value) (K : List Int) (m k : Int) (w : World) (hv : TabG G w v K m) (hk : InR k) (hn : K.length ≤ 900000000) :
    Calls Try.prog 25 #[v, .int .i64 k] w fun e w' => ∃ u, e = .returned (.tuple #[u, .int .i64 (tidN K m k), .int .i64 (tidE K m k)]) ∧ TabG (fun b => G b ∨ w.heap.size ≤ b) w' u (tidK K m k) m ∧ Below w.heap.size w w' := by
  have hv0 := Lib.hid (hv.tab.below (below2 w (.cells #[.slice none 0 0, .int .i64 m] 30) (.cells #[.slice none 0 0, .int .i64 0] 30)))
  obtain ⟨u, rfl, ⟨a, c, rfl, hcap, hc0, hL⟩, hG⟩ := hv
  have HV : Hid (TabG (fun b => G b ∨ w.heap.size ≤ b) w (.agg #[.slice a K.length c, .int .i64 m]) K m) := ⟨_, rfl, ⟨_, _, rfl, hcap, hc0, hL⟩, fun j q => ⟨(hG j q).1, Or.inl (hG j q).2⟩⟩
  clear hG
  have HB := Lib.hid (below2 w (.cells #[.slice a K.length c, .int .i64 m] 30) (.cells #[.slice none 0 0, .int .i64 0] 30))
  have hf := r8find (.agg #[.slice a K.length c, .int .i64 m]) K m k _ (HV.out.tab.below HB.out) (by omega)
  have H1 := Lib.hid ((Ow2.new w (.slice a K.length c) (.int .i64 m) 30).alloc (.cells #[.slice none 0 0, .int .i64 0] 30))
  have H2 := Lib.hid (Ow2.new2 w (.cells #[.slice a K.length c, .int .i64 m] 30) (.slice none 0 0) (.int .i64 0) 30)
  clear hv0
  by_cases h : k ∈ K
  · unfold tidN tidE tidK
    rw [if_pos h, if_pos h, if_pos h]
    unfold fndi at hf
    rw [if_pos h, decide_eq_true h] at hf
    clear h hL hcap hc0
    go_enter Try.func25, Try.ntmps25
    go_wp2_with fail
    refine hf.mono ?_; rintro e w1 ⟨rfl, hb1⟩
    obtain ⟨⟨x0, x1, x2⟩, x3, x4⟩ := H1.out.below hb1
    obtain ⟨⟨o0, o1, o2⟩, o3, o4⟩ := H2.out.below hb1
    have HB1 := HB.out.trans (hb1.mono HB.out.size)
    go_wp2_with fail
    refine bodyPost_ret (v := .tuple #[.agg #[.slice a K.length c, .int .i64 m], .int .i64 (K.idxOf k), .int .i64 0]) (by simp [results, Try.results25, go_sem, o0, o1]) rfl ⟨_, rfl, HV.out.below (below_set2 HB1 (by omega)), below_set2 HB1 (by omega)⟩
  · unfold tidN tidE tidK
    rw [if_neg h, if_neg h, if_neg h]
    unfold fndi at hf
    rw [if_neg h, decide_eq_false h] at hf
    by_cases hm : m ≤ (K.length : Int)
    · rw [if_pos hm, if_pos hm, if_pos hm]
      clear h hL hcap hc0
      go_enter Try.func25, Try.ntmps25
      go_wp2_with fail
      refine hf.mono ?_; rintro e w1 ⟨rfl, hb1⟩
      obtain ⟨⟨x0, x1, x2⟩, x3, x4⟩ := H1.out.below hb1
      obtain ⟨⟨o0, o1, o2⟩, o3, o4⟩ := H2.out.below hb1
      have HB1 := HB.out.trans (hb1.mono HB.out.size)
      go_wp2_with fail
      refine bodyPost_ret (v := .tuple #[.agg #[.slice a K.length c, .int .i64 m], .int .i64 0, .int .i64 3]) (by simp [results, Try.results25, go_sem, o0, o1]) rfl ⟨_, rfl, HV.out.below (below_set2 HB1 (by omega)), below_set2 HB1 (by omega)⟩
    · rw [if_neg hm, if_neg hm, if_neg hm]
      have hd : decide (m ≤ (K.length : Int)) = false := decide_eq_false hm
      clear hm
      have HC := Lib.hid hc0; have HL := Lib.hid hL
      clear h hL hcap hc0
      go_enter Try.func25, Try.ntmps25
      go_wp2_with fail
      refine hf.mono ?_; rintro e w1 ⟨rfl, hb1⟩
      obtain ⟨⟨x0, x1, x2⟩, x3, x4⟩ := H1.out.below hb1
      have H2' := Lib.hid (H2.out.below hb1)
      have HB1 := HB.out.trans (hb1.mono HB.out.size)
      have HI : Hid (∀ z ∈ K ++ [k], InR z) := fun z hz => by
        rcases List.mem_append.mp hz with q | q
        · exact HL.out.1 z q
        · simp at q; rw [q]; exact hk
      have HN := Lib.hid hn
      clear hn
      go_wp2_with (first
        | (at_builtin; refine wp_cat (w1.alloc (.cells #[] 3)) rfl (.tmp 25) (.tmp 27) rfl w1.heap.size _ [] K a c rfl (Own.lit w1) rfl ((HL.out.below HB1).alloc _) HC.out (by have := HN.out; simp; omega) (by simp) ?_; intro v7 w7 hown7 hb7; simp only [List.nil_append] at hown7; have hb17 := ((Below.refl _ w1).alloc (Nat.le_refl _) (.cells #[] 3)).trans hb7)
        | (at_builtin; refine wp_push w7 rfl (.tmp 28) (.tmp 30) rfl w1.heap.size _ K k rfl hown7 rfl (by have := HN.out; omega) hb17.size ?_; intro v8 w8 hown8 hb8; have hb18 := hb17.trans hb8; obtain ⟨a8, c8, rfl, hc8, hr8⟩ := hown8.reads HI.out; clear x0 x1 x2 x3 x4; obtain ⟨⟨x0, x1, x2⟩, x3, x4⟩ := (H1.out.below hb1).below hb18))
      obtain ⟨⟨o0, o1, o2⟩, o3, o4⟩ := H2'.out.below hb18
      have hl0 : (-9223372036854775808 : Int) ≤ ((K.length + 1 : Nat) : Int) - 1 := by omega
      have hl1 : ((K.length + 1 : Nat) : Int) - 1 < 9223372036854775808 := by have := HN.out; omega
      go_region
      go_wp2_with fail
      have hbase : w.heap.size + 1 < w1.heap.size := H2'.out.at.2.2
      have HB8 := HB1.trans (hb18.mono HB1.size)
      refine bodyPost_ret (v := .tuple #[.agg #[.slice a8 (K.length + 1) c8, .int .i64 m], .int .i64 K.length, .int .i64 0]) (by simp [results, Try.results25, go_sem, o0, o1]) rfl ⟨_, rfl, ⟨_, rfl, ?_, ?_⟩, ?_⟩
      · have h8 := (ownsRow_setCell_below (ownsRow_setCell_below (ownsRow_setCell_below hown8 (a := ⟨w.heap.size, 0, none⟩) (by simp; omega) (.slice a8 (K.length + 1) c8)) (a := ⟨w.heap.size + 1, 0, none⟩) (by simp; omega) (.slice a8 (K.length + 1) c8)) (a := ⟨w.heap.size + 1, 1, none⟩) (by simp; omega) (.int .i64 m))
        have h9 := (Own.sl h8 HI.out).drew
        rw [show (K ++ [k]).length = K.length + 1 by simp] at h9
        exact h9
      · have h8 := (ownsRow_setCell_below (ownsRow_setCell_below (ownsRow_setCell_below hown8 (a := ⟨w.heap.size, 0, none⟩) (by simp; omega) (.slice a8 (K.length + 1) c8)) (a := ⟨w.heap.size + 1, 0, none⟩) (by simp; omega) (.slice a8 (K.length + 1) c8)) (a := ⟨w.heap.size + 1, 1, none⟩) (by simp; omega) (.int .i64 m))
        have hlt := World.ownsRow.lt h8
        intro j q
        have := hlt j (by simpa [Value.ownBlock] using q)
        exact ⟨this.2, Or.inr (by omega)⟩
      · exact (below_set2 (HB8.setCell (Nat.le_refl _) _) (by omega)).drew
end Go.Proofs.Yteeonglebimnlaa
