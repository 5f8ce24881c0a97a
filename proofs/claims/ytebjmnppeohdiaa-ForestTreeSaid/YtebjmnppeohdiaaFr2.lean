/-
  What the landed Children, Up, Under, Roots, Meet and Held answer, of a forest in its block. The conditions: nobody comes back to itself; shares that fit. What the landed Held answers, of a forest in its block. The conditions: nobody comes back to itself; shares that fit.
-/
import Derived.Test.YtebjmnppeohdiaaFr1
import Derived.Test.YtebjmnppeohdiaaShaC
namespace Go.Proofs.Ytebjmnppeohdiaa
open Go.RowKit
set_option linter.unusedSimpArgs false
set_option linter.unusedVariables false

/- What the landed Children, Up, Under, Roots, Meet and Held answer, of a forest in its block. The conditions: nobody comes back to itself; shares that fit. -/
theorem Own.down {w : World} {base base' : Nat} {v : Value} {L : List Int} (h : Own w base v L) (hb : base' ≤ base) : Own w base' v L := by
  refine ⟨h.1, ?_⟩
  rcases h.2 with q | ⟨g, cap, cur, rfl, h2, h3⟩
  · exact Or.inl q
  · exact Or.inr ⟨g, cap, cur, rfl, Nat.le_trans hb h2, h3⟩
/-- Whom an entity holds. -/
def chl (n : Int) (f : Int → Int) (x : Int) : List Int := if Ent n x then flt n.toNat (fun i => f i == x) else []
def und (n : Int) (f : Int → Int) (x : Int) : List Int := flt n.toNat fun i => decide (x ∈ up n f i)
def rts (n : Int) (f : Int → Int) : List Int := flt n.toNat fun i => f i == 0
/-- The share of a share by which one is held. -/
def hdv (n : Int) (f s : Int → Int) (t x : Int) : Int × Int × Int := if t ∈ up n f x then chainv ((pth n f t x).map s) else (0, 0, 20)

set_option maxHeartbeats 1000000 in
set_option maxRecDepth 100000 in
theorem children_c {w : World} {B : Nat} {n : Int} {f s : Int → Int} (h : FrB w B n f s) (x : Int) :
    Calls Try.prog 15 #[ptr B, .int .i64 x] w fun e w' => ∃ v, e = .returned v ∧ Own w' w.heap.size v (chl n f x) ∧ Below w.heap.size w w' := by
  have hmf : ∀ (fn : Fn) (first cap : Array Value) (w : World), (Instr.makeFunc fn first cap).run Try.prog w = .ok (.func fn first cap) w := fun _ _ _ _ => rfl
  have hh := has_c h x
  have ht := those_c 38 (fun _ _ => rfl) (.agg #[ptr B, .int .i64 x]) (fun i => f i == x) h (fun i wr hb => holds_c (h.below hb) x i)
  by_cases hx : Ent n x
  · rw [decide_eq_true hx] at hh
    have HE : Hid (chl n f x = flt n.toNat (fun i => f i == x)) := if_pos hx
    clear h hx
    generalize flt n.toNat (fun i => f i == x) = L at *
    go_enter Try.func15, Try.ntmps15
    go_wp2_with fail
    refine hh.mono ?_; clear hh; rintro e w0 ⟨rfl, rfl⟩
    go_wp2_with fail
    refine ht.mono ?_; clear ht; rintro e w1 ⟨v, rfl, ho, hb⟩
    have HO := Lib.hid (And.intro ho hb)
    clear ho hb
    go_wp2_with fail
    go_ret
    exact ⟨_, rfl, by rw [HE.out]; exact HO.out.1, HO.out.2⟩
  · rw [decide_eq_false hx] at hh
    have HE : Hid (chl n f x = []) := if_neg hx
    clear h hx ht
    go_enter Try.func15, Try.ntmps15
    go_wp2_with fail
    refine hh.mono ?_; clear hh; rintro e w0 ⟨rfl, rfl⟩
    go_wp2_with fail
    go_ret
    exact ⟨_, rfl, by rw [HE.out]; exact Own.nil _ _, Below.refl _ _⟩
set_option maxHeartbeats 1000000 in
set_option maxRecDepth 100000 in
theorem up_c {w : World} {B : Nat} {n : Int} {f s : Int → Int} (h : FrB w B n f s) (hf : FOk n f) (x : Int) :
    Calls Try.prog 17 #[ptr B, .int .i64 x] w fun e w' => ∃ v, e = .returned v ∧ Own w' w.heap.size v (up n f (f x)) ∧ Below w.heap.size w w' := by
  have hp := parent_c h x
  have HL : Hid (∀ wr, Below w.heap.size w wr → Calls Try.prog 39 #[ptr B, .int .i64 (f x)] wr fun e w' => ∃ v, e = .returned v ∧ Own w' wr.heap.size v (up n f (f x)) ∧ Below wr.heap.size wr w') := fun wr hb => line_c (h.below hb) hf (f x)
  have HLO : Hid (∀ (wr w' : World) v, Below w.heap.size w wr → Own w' wr.heap.size v (up n f (f x)) → Own w' w.heap.size v (up n f (f x))) := fun wr w' v hb ho => ho.down hb.size
  clear h hf
  generalize up n f (f x) = L at *
  generalize f x = z at *
  go_enter Try.func17, Try.ntmps17
  go_wp2_with fail
  refine hp.mono ?_; clear hp; rintro e w1 ⟨rfl, hb1⟩
  have HB1 := Lib.hid hb1
  have hl := HL.out w1 hb1
  clear hb1
  go_wp2_with fail
  refine hl.mono ?_; clear hl; rintro e w2 ⟨v, rfl, ho, hb2⟩
  have HO := Lib.hid (HLO.out _ _ _ HB1.out ho)
  have HB2 : Hid (Below w.heap.size w w2) := HB1.out.trans (hb2.mono HB1.out.size)
  clear ho hb2
  go_wp2_with fail
  go_ret
  exact ⟨_, rfl, HO.out, HB2.out⟩
set_option maxHeartbeats 1000000 in
set_option maxRecDepth 100000 in
theorem unders_c {w : World} {B : Nat} {n : Int} {f s : Int → Int} (h : FrB w B n f s) (hf : FOk n f) (x : Int) :
    Calls Try.prog 19 #[ptr B, .int .i64 x] w fun e w' => ∃ v, e = .returned v ∧ Own w' w.heap.size v (und n f x) ∧ Below w.heap.size w w' := by
  have hmf : ∀ (fn : Fn) (first cap : Array Value) (w : World), (Instr.makeFunc fn first cap).run Try.prog w = .ok (.func fn first cap) w := fun _ _ _ _ => rfl
  have ht := those_c 41 (fun _ _ => rfl) (.agg #[ptr B, .int .i64 x]) (fun i => decide (x ∈ up n f i)) h (fun i wr hb => over_c (h.below hb) hf x i)
  have HE : Hid (und n f x = flt n.toNat (fun i => decide (x ∈ up n f i))) := rfl
  clear h hf
  generalize flt n.toNat (fun i => decide (x ∈ up n f i)) = L at *
  go_enter Try.func19, Try.ntmps19
  go_wp2_with fail
  refine ht.mono ?_; clear ht; rintro e w1 ⟨v, rfl, ho, hb⟩
  have HO := Lib.hid (And.intro ho hb)
  clear ho hb
  go_wp2_with fail
  go_ret
  exact ⟨_, rfl, by rw [HE.out]; exact HO.out.1, HO.out.2⟩
set_option maxHeartbeats 1000000 in
set_option maxRecDepth 100000 in
theorem roots_c {w : World} {B : Nat} {n : Int} {f s : Int → Int} (h : FrB w B n f s) :
    Calls Try.prog 21 #[ptr B] w fun e w' => ∃ v, e = .returned v ∧ Own w' w.heap.size v (rts n f) ∧ Below w.heap.size w w' := by
  have hmf : ∀ (fn : Fn) (first cap : Array Value) (w : World), (Instr.makeFunc fn first cap).run Try.prog w = .ok (.func fn first cap) w := fun _ _ _ _ => rfl
  have ht := those_c 38 (fun _ _ => rfl) (.agg #[ptr B, .int .i64 0]) (fun i => f i == 0) h (fun i wr hb => holds_c (h.below hb) 0 i)
  have HE : Hid (rts n f = flt n.toNat (fun i => f i == 0)) := rfl
  clear h
  generalize flt n.toNat (fun i => f i == 0) = L at *
  go_enter Try.func21, Try.ntmps21
  go_wp2_with fail
  refine ht.mono ?_; clear ht; rintro e w1 ⟨v, rfl, ho, hb⟩
  have HO := Lib.hid (And.intro ho hb)
  clear ho hb
  go_wp2_with fail
  go_ret
  exact ⟨_, rfl, by rw [HE.out]; exact HO.out.1, HO.out.2⟩
set_option maxHeartbeats 2000000 in
set_option maxRecDepth 100000 in
theorem meet_c {w : World} {B : Nat} {n : Int} {f s : Int → Int} (h : FrB w B n f s) (hf : FOk n f) (a b : Int) :
    Calls Try.prog 26 #[ptr B, .int .i64 a, .int .i64 b] w fun e w' => e = .returned (.int .i64 (mt n f a b)) ∧ Below w.heap.size w w' := by
  have hmf : ∀ (fn : Fn) (first cap : Array Value) (w : World), (Instr.makeFunc fn first cap).run Try.prog w = .ok (.func fn first cap) w := fun _ _ _ _ => rfl
  have hl := line_c h hf a
  have HI : Hid (∀ z ∈ up n f a, InR z) := up_inR hf (by have := h.top; omega) a
  have HLE : Hid ((up n f a).length ≤ 1000000) := by have := ups_len hf a; have := h.top; show _ ≤ _; omega
  have HX : Hid (∀ (ra : Option Addr) (rc : Nat) wr, Below w.heap.size w wr → Reads wr ra (up n f a) → Calls Try.prog 46 #[.slice ra (up n f a).length rc, .func (.func 47) #[.agg #[ptr B, .int .i64 b]] #[]] wr fun e w' => (∃ i : Int, e = .returned (.int .i64 i) ∧ IdxG (up n f a) (fun x => decide (x ∈ up n f b)) i) ∧ Below wr.heap.size wr w') := fun ra rc wr hb hr =>
    idxf_any 47 (fun _ _ => rfl) (.agg #[ptr B, .int .i64 b]) (fun x => decide (x ∈ up n f b)) ra rc (up n f a) wr hr HLE.out (fun x w1 hb1 => under_c (h.below (hb.trans (hb1.mono hb.size))) hf b x)
  have HM : Hid (∀ i, IdxG (up n f a) (fun x => decide (x ∈ up n f b)) i → (∃ k : Nat, i = (k : Int) ∧ k < (up n f a).length ∧ (up n f a).getD k 0 = mt n f a b) ∨ (i = -1 ∧ mt n f a b = 0)) := fun i hi => by
    rcases hi with ⟨k, rfl, h1, h2, h3⟩ | ⟨rfl, h2⟩
    · exact Or.inl ⟨k, rfl, h1, (mt_eq hf (isM_at hf a k h1 (by simpa using h2) (fun j hj => by simpa using h3 j hj))).symm⟩
    · exact Or.inr ⟨rfl, mt_eq hf (isM_none (fun j hj => by simpa using h2 j hj))⟩
  clear h hf
  generalize (fun x => decide (x ∈ up n f b)) = g at *
  generalize up n f a = L at *
  generalize mt n f a b = m at *
  go_enter Try.func26, Try.ntmps26
  go_wp2_with fail
  refine hl.mono ?_; clear hl; rintro e w1 ⟨v, rfl, ho, hb1⟩
  have HB1 := Lib.hid hb1
  obtain ⟨ra, rc, rfl, -, hR⟩ := ho.reads HI.out
  have HR := Lib.hid hR
  have hx := HX.out ra rc w1 hb1 hR
  clear hb1 ho hR
  go_wp2_with fail
  refine hx.mono ?_; clear hx; rintro e w2 ⟨⟨i, rfl, hi⟩, hb2⟩
  have HB2 : Hid (Below w.heap.size w w2) := HB1.out.trans (hb2.mono HB1.out.size)
  have HR2 := Lib.hid (HR.out.below hb2)
  rcases HM.out i hi with ⟨k, rfl, hk, hm⟩ | ⟨rfl, rfl⟩
  · obtain ⟨b', off, rfl, hc⟩ := HR2.out.2 k hk
    rw [hm] at hc
    have i0 : (0 : Int) ≤ (k : Int) := by omega
    have i1 : (k : Int) < (L.length : Int) := by omega
    have i2 : decide ((k : Int) < 0) = false := decide_eq_false (by omega)
    clear hi hb2 hm
    go_wp2_with fail
    go_ret
    exact ⟨rfl, HB2.out⟩
  · clear hi hb2
    go_wp2_with fail
    go_ret
    exact ⟨rfl, HB2.out⟩
/- What the landed Held answers, of a forest in its block. The conditions: nobody comes back to itself; shares that fit. -/
theorem pth_take {n : Int} {f : Int → Int} {t x : Int} {k : Nat} (hk : k < (up n f x).length) (h1 : (up n f x).getD k 0 = t) (h2 : ∀ j, j < k → (up n f x).getD j 0 ≠ t) : pth n f t x = (up n f x).take k := by
  refine pth_eq (B := (up n f x).drop (k + 1)) ?_ (fun q => ?_)
  · rw [← h1, getD_lt _ _ hk, ← List.drop_eq_getElem_cons hk, List.take_append_drop]
  · obtain ⟨j, hj, e⟩ := List.getElem_of_mem q
    rw [List.length_take] at hj
    have := h2 j (by omega)
    rw [getD_lt _ _ (by omega)] at this
    rw [List.getElem_take] at e
    exact this e
theorem wrap_nat {j : Nat} (h : j < 1000000) : wrap64 ((j : Int) + 1) = (j : Int) + 1 := by unfold wrap64; omega
theorem map_take {L : List Int} {k : Nat} (s : Int → Int) (h : k < L.length) : (L.take (k + 1)).map s = (L.take k).map s ++ [s (L.getD k 0)] := by
  rw [List.take_succ_eq_append_getElem h, List.map_append, getD_lt _ _ h]; rfl
set_option maxHeartbeats 4000000 in
set_option maxRecDepth 100000 in
theorem held_c {w : World} {B : Nat} {n : Int} {f s : Int → Int} (h : FrB w B n f s) (hf : FOk n f) (hs : ∀ x, 0 ≤ s x ∧ s x ≤ 10000) (t x : Int) :
    Calls Try.prog 24 #[ptr B, .int .i64 t, .int .i64 x] w fun e w' => e = .returned (.tuple #[.agg #[.int .i64 (hdv n f s t x).1, .int .i64 (hdv n f s t x).2.1], .int .i64 (hdv n f s t x).2.2]) ∧ Below w.heap.size w w' := by
  have hb0 := below1 w (.cells #[.int .i64 0, .int .i64 0] 43)
  have HB0 := Lib.hid hb0
  have HO0 := Lib.hid (Ow2.new w (.int .i64 0) (.int .i64 0) 43)
  have hl := line_c (h.below hb0) hf x
  have HI : Hid (∀ z ∈ up n f x, InR z) := up_inR hf (by have := h.top; omega) x
  have HLE : Hid ((up n f x).length ≤ 1000) := by have := ups_len hf x; have := h.top; show _ ≤ _; omega
  have HSH : Hid (∀ z wr, Below w.heap.size w wr → Calls Try.prog 12 #[ptr B, .int .i64 z] wr fun e w' => e = .returned (.int .i64 (s z)) ∧ Below wr.heap.size wr w') := fun z wr hb => share_c (h.below hb) z
  have HSI : Hid (∀ z, InR (s z)) := fun z => by have := hs z; unfold InR; omega
  have HV : Hid ((∀ i, IdxV (up n f x) t i → (∃ k : Nat, i = (k : Int) ∧ k < (up n f x).length ∧ hdv n f s t x = chainv (((up n f x).take k).map s)) ∨ (i = -1 ∧ hdv n f s t x = (0, 0, 20)))) := fun i hi => by
    rcases hi with ⟨k, rfl, h1, h2, h3⟩ | ⟨rfl, h2⟩
    · refine Or.inl ⟨k, rfl, h1, ?_⟩
      unfold hdv
      rw [if_pos, pth_take h1 h2 h3]
      rw [getD_lt _ _ h1] at h2
      exact h2 ▸ List.getElem_mem h1
    · refine Or.inr ⟨rfl, if_neg fun q => ?_⟩
      obtain ⟨j, hj, e⟩ := List.getElem_of_mem q
      exact h2 j hj ((getD_lt _ _ hj).trans e)
  have HQ : Hid (hdv n f s t x = ((hdv n f s t x).1, (hdv n f s t x).2.1, (hdv n f s t x).2.2)) := rfl
  clear h hf hs hb0
  generalize (hdv n f s t x).1 = q1 at *; generalize (hdv n f s t x).2.1 = q2 at *; generalize (hdv n f s t x).2.2 = q3 at *
  generalize hdv n f s t x = q at *
  generalize up n f x = L at *
  go_enter Try.func24, Try.ntmps24
  go_wp2_with fail
  refine hl.mono ?_; clear hl; rintro e w1 ⟨v, rfl, ho, hb1⟩
  have HB1 : Hid (Below w.heap.size w w1) := HB0.out.trans (hb1.mono HB0.out.size)
  have HO1 := Lib.hid (HO0.out.below hb1)
  obtain ⟨ra, rc, rfl, hlc, -, hR⟩ := ho.sl HI.out
  have HR := Lib.hid hR
  have hi := idx_any ra rc L t w1 hR (by have := HLE.out; omega)
  clear hb1 ho hR HO0 HB0
  go_wp2_with fail
  refine hi.mono ?_; clear hi; rintro e w2 ⟨⟨i, rfl, hi⟩, rfl⟩
  rcases HV.out i hi with ⟨k, rfl, hk, hq⟩ | ⟨rfl, hq⟩
  · have i0 : (0 : Int) ≤ (k : Int) := by omega
    have i1 : (k : Int) ≤ (rc : Int) := by omega
    have i3 : k ≤ rc := by omega
    have i2 : decide ((k : Int) < 0) = false := decide_eq_false (by omega)
    have HKL := Lib.hid hk
    have HQQ := Lib.hid hq
    clear hi hq hk
    go_wp2_with fail
    clear i1 i2 i3 hlc
    go_loopw [10, 26] (fun vs vj wr => ∃ j : Nat, j ≤ k ∧ vj = .int .i64 (j : Int) ∧ Own wr w1.heap.size vs ((L.take j).map s) ∧ Below w1.heap.size w1 wr) (fun _ vj _ => k - (RowKit.intOf vj).toNat)
    case atStart => exact ⟨0, Nat.zero_le _, rfl, Own.nil _ _, Below.refl _ _⟩
    case round =>
      obtain ⟨j, hj, rfl, hos, hb⟩ := hrel
      have HOS := Lib.hid hos
      have HB := Lib.hid hb
      by_cases hlt : j < k
      · have hjl : j < L.length := by have := HKL.out; omega
        obtain ⟨b', off, rfl, hc⟩ := (HR.out.below hb).2 j hjl
        have j0 : (0 : Int) ≤ (j : Int) := by omega
        have j1 : (j : Int) < (k : Int) := by omega
        have hlen : ((L.take j).map s).length ≤ 1000 := by rw [List.length_map, List.length_take]; have := HLE.out; omega
        have hjb : j < 1000000 := by have := HLE.out; omega
        have e1 := wrap_nat hjb
        have HMT : Hid ((L.take (j + 1)).map s = (L.take j).map s ++ [s (L.getD j 0)]) := map_take s hjl
        have hsh := HSH.out (L.getD j 0) wr (HB1.out.trans (HB.out.mono HB1.out.size))
        generalize L.getD j 0 = z at *
        generalize s z = sz at *
        generalize (L.take j).map s = M at *
        clear hos hb
        go_wp2_with fail
        refine hsh.mono ?_; clear hsh; rintro e w3 ⟨rfl, hb3⟩
        have HOS3 := Lib.hid (HOS.out.below hb3)
        have HB3 : Hid (Below w1.heap.size w1 w3) := HB.out.trans (hb3.mono HB.out.size)
        have hsz := HB3.out.size
        clear hb3 hc
        go_wp2_with (at_builtin; refine wp_push w3 rfl (.tmp 30) (.tmp 34) rfl w1.heap.size _ M sz rfl HOS3.out rfl (by omega) hsz ?_; intro v5 w5 ho5 hb5)
        rw [← HMT.out] at ho5
        have HO5 := Lib.hid ho5
        have HB5 : Hid (Below w1.heap.size w1 w5) := HB3.out.trans hb5
        clear ho5 hb5 hsz
        go_wp2_with fail
        go_roundw
        · exact ⟨j + 1, by omega, by go_num, HO5.out, HB5.out⟩
        · simp [RowKit.intOf]; omega
      · obtain rfl : j = k := by omega
        have hd0 : decide ((j : Int) < (j : Int)) = false := decide_eq_false (by omega)
        have hlen : ((L.take j).map s).length ≤ 1000 := by rw [List.length_map, List.length_take]; have := HLE.out; omega
        obtain ⟨sa, sc, rfl, -, hRs⟩ := hos.reads (fun z hz => by obtain ⟨y, -, rfl⟩ := List.mem_map.1 hz; exact HSI.out y)
        have hch := h_chain sa sc _ wr hRs (by omega)
        have HE : Hid (q1 = (chainv ((L.take j).map s)).1 ∧ q2 = (chainv ((L.take j).map s)).2.1 ∧ q3 = (chainv ((L.take j).map s)).2.2) := by rw [← HQQ.out, HQ.out]; exact ⟨rfl, rfl, rfl⟩
        generalize (chainv ((L.take j).map s)).1 = c1 at *; generalize (chainv ((L.take j).map s)).2.1 = c2 at *; generalize (chainv ((L.take j).map s)).2.2 = c3 at *
        generalize ((L.take j).map s).length = ls at *
        obtain ⟨rfl, rfl, rfl⟩ := HE.out
        have HO := Lib.hid (HO1.out.below hb)
        clear hb hRs hlen HE
        go_wp2_with fail
        refine hch.mono ?_; clear hch; rintro e w6 ⟨rfl, hb6⟩
        have HB6 : Hid (Below w.heap.size w w6) := HB1.out.trans ((HB.out.trans (hb6.mono HB.out.size)).mono HB1.out.size)
        obtain ⟨⟨o0, o1, o2⟩, f1, f2⟩ := HO.out.below hb6
        clear hb6
        go_wp2_with fail
        refine bodyPost_ret (v := .tuple #[.agg #[.int .i64 q1, .int .i64 q2], .int .i64 q3]) (by simp [results, Try.results24, go_sem, o0, o1]) rfl ⟨rfl, ?_⟩
        exact below_set2 HB6.out (Nat.le_refl _)
  · have HE : Hid (q1 = 0 ∧ q2 = 0 ∧ q3 = 20) := by
      have e := hq.symm.trans HQ.out
      simp at e
      exact ⟨e.1.symm, e.2.1.symm, e.2.2.symm⟩
    obtain ⟨rfl, rfl, rfl⟩ := HE.out
    obtain ⟨⟨o0, o1, o2⟩, f1, f2⟩ := HO1.out
    clear hi hq HE HQ HV
    go_wp2_with fail
    refine bodyPost_ret (v := .tuple #[.agg #[.int .i64 0, .int .i64 0], .int .i64 20]) (by simp [results, Try.results24, go_sem, o0, o1]) rfl ⟨rfl, ?_⟩
    first | exact HB1.out | exact below_set2 HB1.out (Nat.le_refl _)
end Go.Proofs.Ytebjmnppeohdiaa
