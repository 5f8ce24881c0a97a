/-
  What the document's own New, Put and Take (gavelkindref10) answer, for whatever queue and number. The condition: at most 9 * 10^8 things.
-/
import Derived.Test.YtjljjbfeefcnkaaIntM
import Derived.Test.YtjljjbfeefcnkaaRatK
import Derived.Deep.DeepCutAuto
import Derived.Deep.RegionWith
namespace Go.Proofs.Ytjljjbfeefcnkaa
open Go.RowKit
set_option linter.unusedSimpArgs false
set_option linter.unusedVariables false

/-- How much room there may be. -/
def OkQ (m : Int) : Prop := 1 ≤ m ∧ m ≤ 1000
instance instDecOkQ (m : Int) : Decidable (OkQ m) := by unfold OkQ; infer_instance
/-- A thing is put in. -/
def qputK (K : List Int) (m x : Int) : List Int := if m ≤ (K.length : Int) then K else K ++ [x]
def qputE (K : List Int) (m : Int) : Int := if m ≤ (K.length : Int) then 3 else 0

set_option maxHeartbeats 1000000 in
theorem r10new (m : Int) (w : World) :
    Calls Try.prog 8 #[.int .i64 m] w fun e w' => e = .returned (.tuple #[.agg #[.slice none 0 0, .int .i64 (if OkQ m then m else 0)], .int .i64 (if OkQ m then 0 else 2)]) ∧ Below w.heap.size w w' := by
  by_cases h : OkQ m
  · rw [if_pos h, if_pos h]
    have d1 : decide (m < 1) = false := decide_eq_false (by unfold OkQ at h; omega)
    have d2 : decide (1000 < m) = false := decide_eq_false (by unfold OkQ at h; omega)
    clear h
    go_enter Try.func8, Try.ntmps8
    go_wp2_with fail
    refine bodyPost_ret (v := .tuple #[.agg #[.slice none 0 0, .int .i64 m], .int .i64 0]) (by simp [results, Try.results8, go_sem]) rfl ⟨rfl, below1 _ _⟩
  · rw [if_neg h, if_neg h]
    by_cases h1 : m < 1
    · clear h
      go_enter Try.func8, Try.ntmps8
      go_wp2_with fail
      refine bodyPost_ret (v := .tuple #[.agg #[.slice none 0 0, .int .i64 0], .int .i64 2]) (by simp [results, Try.results8, go_sem]) rfl ⟨rfl, below1 _ _⟩
    · have h2 : 1000 < m := by unfold OkQ at h; omega
      clear h
      go_enter Try.func8, Try.ntmps8
      go_wp2_with fail
      refine bodyPost_ret (v := .tuple #[.agg #[.slice none 0 0, .int .i64 0], .int .i64 2]) (by simp [results, Try.results8, go_sem]) rfl ⟨rfl, below1 _ _⟩


set_option maxHeartbeats 1000000 in
theorem r10put (G : Nat → Prop) (v : Value) (K : List Int) (m k : Int) (w : World) (hv : TabG G w v K m) (hk : InR k) (hn : K.length ≤ 900000000) :
    Calls Try.prog 22 #[v, .int .i64 k] w fun e w' => ∃ u, e = .returned (.tuple #[u, .int .i64 (qputE K m)]) ∧ TabG (fun b => G b ∨ w.heap.size ≤ b) w' u (qputK K m k) m ∧ Below w.heap.size w w' := by
  obtain ⟨u, rfl, ⟨a, c, rfl, hcap, hc0, hL⟩, hG⟩ := hv
  have HV : Hid (TabG (fun b => G b ∨ w.heap.size ≤ b) w (.agg #[.slice a K.length c, .int .i64 m]) K m) := ⟨_, rfl, ⟨_, _, rfl, hcap, hc0, hL⟩, fun j q => ⟨(hG j q).1, Or.inl (hG j q).2⟩⟩
  clear hG
  have HB := Lib.hid (below2 w (.cells #[.slice a K.length c, .int .i64 m] 31) (.cells #[.slice none 0 0, .int .i64 0] 31))
  have H1 := (Ow2.new w (.slice a K.length c) (.int .i64 m) 31).alloc (.cells #[.slice none 0 0, .int .i64 0] 31)
  have H2 := (Ow2.new2 w (.cells #[.slice a K.length c, .int .i64 m] 31) (.slice none 0 0) (.int .i64 0) 31)
  unfold qputE qputK
  by_cases hm : m ≤ (K.length : Int)
  · rw [if_pos hm, if_pos hm]
    have hd : decide (m ≤ (K.length : Int)) = true := decide_eq_true hm
    clear hm hL hcap hc0 H1 H2
    go_enter Try.func22, Try.ntmps22
    go_wp2_with fail
    refine bodyPost_ret (v := .tuple #[.agg #[.slice a K.length c, .int .i64 m], .int .i64 3]) (by simp [results, Try.results22, go_sem]) rfl ⟨_, rfl, HV.out.below (below2 _ _ _), below2 _ _ _⟩
  · rw [if_neg hm, if_neg hm]
    have hd : decide (m ≤ (K.length : Int)) = false := decide_eq_false hm
    clear hm
    have HC := Lib.hid hc0; have HL := Lib.hid hL; have HN := Lib.hid hn
    have HI : Hid (∀ z ∈ K ++ [k], InR z) := fun z hz => by
      rcases List.mem_append.mp hz with q | q
      · exact HL.out.1 z q
      · simp at q; rw [q]; exact hk
    clear hL hcap hc0 hn
    have H1' := Lib.hid H1; have H2' := Lib.hid H2
    clear H1 H2
    go_enter Try.func22, Try.ntmps22
    obtain ⟨w1, hw1⟩ : ∃ w1, w1 = (w.alloc (.cells #[.slice a K.length c, .int .i64 m] 31)).alloc (.cells #[.slice none 0 0, .int .i64 0] 31) := ⟨_, rfl⟩
    rw [← hw1] at H1' H2' HB
    go_upto_region 1 with fail
    rw [← hw1]
    clear hw1
    obtain ⟨⟨x0, x1, x2⟩, x3, x4⟩ := H1'.out
    have HB1 := HB.out
    go_wp2_with (first
      | (at_builtin; refine wp_cat (w1.alloc (.cells #[] 3)) rfl (.tmp 13) (.tmp 15) rfl w1.heap.size _ [] K a c rfl (Own.lit w1) rfl ((HL.out.below HB1).alloc _) HC.out (by have := HN.out; simp; omega) (by simp) ?_; intro v7 w7 hown7 hb7; simp only [List.nil_append] at hown7; have hb17 := ((Below.refl _ w1).alloc (Nat.le_refl _) (.cells #[] 3)).trans hb7)
      | (at_builtin; refine wp_push w7 rfl (.tmp 16) (.tmp 18) rfl w1.heap.size _ K k rfl hown7 rfl (by have := HN.out; omega) hb17.size ?_; intro v8 w8 hown8 hb8; have hb18 := hb17.trans hb8; obtain ⟨a8, c8, rfl, hc8, hr8⟩ := hown8.reads HI.out; clear x0 x1 x2 x3 x4; obtain ⟨⟨x0, x1, x2⟩, x3, x4⟩ := H1'.out.below hb18; obtain ⟨⟨o0, o1, o2⟩, o3, o4⟩ := H2'.out.below hb18))
    have hbase : w.heap.size + 1 < w1.heap.size := H2'.out.at.2.2
    have HB8 := HB1.trans (hb18.mono HB1.size)
    refine bodyPost_ret (v := .tuple #[.agg #[.slice a8 (K.length + 1) c8, .int .i64 m], .int .i64 0]) (by simp [results, Try.results22, go_sem, o0, o1]) rfl ⟨_, rfl, ⟨_, rfl, ?_, ?_⟩, ?_⟩
    · have h8 := (ownsRow_setCell_below (ownsRow_setCell_below (ownsRow_setCell_below hown8 (a := ⟨w.heap.size, 0, none⟩) (by simp; omega) (.slice a8 (K.length + 1) c8)) (a := ⟨w.heap.size + 1, 0, none⟩) (by simp; omega) (.slice a8 (K.length + 1) c8)) (a := ⟨w.heap.size + 1, 1, none⟩) (by simp; omega) (.int .i64 m))
      have h9 := Own.sl h8 HI.out
      rw [show (K ++ [k]).length = K.length + 1 by simp] at h9
      exact h9
    · intro b q
      have h8 := (ownsRow_setCell_below (ownsRow_setCell_below (ownsRow_setCell_below hown8 (a := ⟨w.heap.size, 0, none⟩) (by simp; omega) (.slice a8 (K.length + 1) c8)) (a := ⟨w.heap.size + 1, 0, none⟩) (by simp; omega) (.slice a8 (K.length + 1) c8)) (a := ⟨w.heap.size + 1, 1, none⟩) (by simp; omega) (.int .i64 m))
      have := World.ownsRow.lt h8 b (by cases a8 <;> exact q)
      exact ⟨this.2, Or.inr (by omega)⟩
    · exact below_set2 (HB8.setCell (Nat.le_refl _) _) (by omega)

theorem sl_tail {w w' : World} {b : Nat} {off cap : Nat} {x : Int} {L : List Int} (h : Reads w (some ⟨b, off, none⟩) (x :: L)) (hc : L.length + 1 ≤ cap) (hb : Below w.heap.size w w') : Sl w' (.slice (some ⟨b, off + 1, none⟩) L.length (cap - 1)) L := by
  refine Sl.below (w := w) ⟨_, _, rfl, by omega, fun q => by (cases q), fun z hz => h.1 z (List.mem_cons_of_mem _ hz), fun i hi => ?_⟩ hb
  obtain ⟨b', off', ha, hcell⟩ := h.2 (i + 1) (by simp; omega)
  cases ha
  refine ⟨b, off + 1, rfl, ?_⟩
  rw [show off + 1 + i = off + (i + 1) by omega, hcell]
  simp [List.getD]

set_option maxHeartbeats 1000000 in
theorem r10take (G : Nat → Prop) (v : Value) (K : List Int) (m : Int) (w : World) (hv : TabG G w v K m) :
    Calls Try.prog 23 #[v] w fun e w' => ∃ u, e = .returned (.tuple #[u, .int .i64 (K.headD 0), .bool (! K.isEmpty)]) ∧ TabG G w' u (K.drop 1) m ∧ Below w.heap.size w w' := by
  obtain ⟨u, rfl, ⟨a, c, rfl, hcap, hc0, hL⟩, hG⟩ := hv
  have HV : Hid (TabG G w (.agg #[.slice a K.length c, .int .i64 m]) K m) := ⟨_, rfl, ⟨_, _, rfl, hcap, hc0, hL⟩, hG⟩
  have HG := Lib.hid hG; clear hG
  cases K with
  | nil =>
    clear hL hcap hc0
    go_enter Try.func23, Try.ntmps23
    go_wp2_with fail
    refine bodyPost_ret (v := .tuple #[.agg #[.slice a 0 c, .int .i64 m], .int .i64 0, .bool false]) (by simp [results, Try.results23, go_sem]) rfl ⟨_, rfl, HV.out.below (below2 _ _ _), below2 _ _ _⟩
  | cons x L =>
    obtain ⟨b, off, rfl, hc⟩ := hL.2 0 (by simp)
    have HS := Lib.hid (fun w' hb => sl_tail (w' := w') (cap := c) hL (by simpa using hcap) hb)
    have i1 : L.length + 1 ≤ c := by simpa using hcap
    have HB1 := (below2 w (.cells #[.slice (some ⟨b, off, none⟩) (L.length + 1) c, .int .i64 m] 31) (.cells #[.slice none 0 0, .int .i64 0] 31))
    have hlb := World.block_lt_of_cell? w _ hc
    have hcc := (HB1.cell (p := ⟨b, off, none⟩) hlb).trans hc
    simp only [List.length_cons, List.headD_cons, List.isEmpty_cons, Bool.not_false, List.drop_succ_cons, List.drop_zero]
    have e0 : (((L.length + 1 : Nat) : Int) == 0) = false := by simp; omega
    clear hL hcap hc0 hc hlb HB1
    by_cases hc1 : c = 1
    · subst hc1
      have hL0 : L = [] := List.length_eq_zero_iff.mp (by omega)
      subst hL0
      simp only [List.length_nil, Nat.zero_add, List.getD_cons_zero] at hcc
      go_enter Try.func23, Try.ntmps23
      go_wp2_with fail
      refine bodyPost_ret (v := .tuple #[.agg #[.slice (some ⟨b, off, none⟩) 0 0, .int .i64 m], .int .i64 x, .bool true]) (by simp [results, Try.results23, go_sem]) rfl ⟨_, rfl, ⟨_, rfl, ?_, fun j q => ⟨Nat.lt_of_lt_of_le (HG.out j q).1 (below2 _ _ _).size, (HG.out j q).2⟩⟩, ?_⟩
      · exact ⟨_, _, rfl, Nat.le_refl _, fun q => by (cases q), fun z hz => by (cases hz), fun i hi => by (cases hi)⟩
      · exact below2 _ _ _
    · go_enter Try.func23, Try.ntmps23
      go_wp2_with fail
      refine bodyPost_ret (v := .tuple #[.agg #[.slice (some ⟨b, off + 1, none⟩) L.length (c - 1), .int .i64 m], .int .i64 x, .bool true]) (by simp [results, Try.results23, go_sem]) rfl ⟨_, rfl, ⟨_, rfl, ?_, fun j q => ⟨Nat.lt_of_lt_of_le (HG.out j q).1 (below2 _ _ _).size, (HG.out j q).2⟩⟩, ?_⟩
      · exact HS.out _ (below2 _ _ _)
      · exact below2 _ _ _
end Go.Proofs.Ytjljjbfeefcnkaa
