/-
  The landed those, over a function value that only tells; Children; Leaf with the library's IndexFunc and ContainsFunc over accounts. The condition: a row of at most 1000.
-/
import Derived.Test.YteendpdidkekkaaAccB
import Derived.Test.YteendpdidkekkaaFrsB0
namespace Go.Proofs.Yteendpdidkekkaa
open Go.RowKit
set_option linter.unusedSimpArgs false
set_option linter.unusedVariables false

set_option maxHeartbeats 2000000 in
set_option maxRecDepth 100000 in
/-- those, over a letter for what is asked, with what it has captured. -/
theorem those_a (F : FuncId) (he : ∀ args w, (callFunc F args).run Try.prog w = .ok (.enter F args) w) (cap : Array Value) (g : Int → Bool) (a : Option Addr) (n c : Nat) (hn : n ≤ 1000) (w : World)
    (hF : ∀ x wr, Ent (n : Int) x → Below w.heap.size w wr → Calls Try.prog F (#[.int .i64 x] ++ cap) wr fun e w' => e = .returned (.bool (g x)) ∧ Below wr.heap.size wr w') :
    Calls Try.prog 39 #[.slice a n c, .func (.func F) #[] cap] w fun e w' => ∃ v, e = .returned v ∧ Own w' w.heap.size v (flt n g) ∧ Below w.heap.size w w' := by
  have HF := Lib.hid hF
  clear hF
  go_enter Try.func39, Try.ntmps39
  go_wp2_with fail
  go_loopw [5, 6] (fun vl vi wr => ∃ k : Nat, k ≤ n ∧ vi = .int .i64 ((k : Int) + 1) ∧ Own wr w.heap.size vl (flt k g) ∧ Below w.heap.size w wr) (fun _ vi _ => (n + 1 - RowKit.intOf vi).toNat)
  case atStart => exact ⟨0, Nat.zero_le _, rfl, Own.nil _ _, Below.refl _ _⟩
  case round =>
    obtain ⟨k, hk, rfl, ho, hb⟩ := hrel
    have HO := Lib.hid ho
    have HB := Lib.hid hb
    have hh := isone_c a n c ((k : Int) + 1) wr
    by_cases hlt : k < n
    · have hy : Ent (n : Int) ((k : Int) + 1) := by unfold Ent; omega
      rw [decide_eq_true hy] at hh
      have e1 : wrap64 ((k : Int) + 1 + 1) = (k : Int) + 1 + 1 := by unfold wrap64; omega
      have hcall := HF.out ((k : Int) + 1) wr hy HB.out
      have HY : Hid (g ((k : Int) + 1) = true → flt (k + 1) g = flt k g ++ [(k : Int) + 1]) := flt_yes
      have HN : Hid (g ((k : Int) + 1) = false → flt (k + 1) g = flt k g) := flt_no
      have hl : (flt k g).length ≤ 1000 := by have := flt_len k g; omega
      have HR : Hid (∀ vl w', Own w' w.heap.size vl (flt (k + 1) g) → Below w.heap.size w w' → ∃ k' : Nat, k' ≤ n ∧ Value.int .i64 ((k : Int) + 1 + 1) = .int .i64 ((k' : Int) + 1) ∧ Own w' w.heap.size vl (flt k' g) ∧ Below w.heap.size w w') := fun vl w' h1 h2 => ⟨k + 1, by omega, rfl, h1, h2⟩
      have HM : Hid (((n : Int) + 1 - ((k : Int) + 1 + 1)).toNat < ((n : Int) + 1 - ((k : Int) + 1)).toNat) := by show _ < _; omega
      generalize flt k g = L at *
      generalize flt (k + 1) g = M at *
      generalize g ((k : Int) + 1) = t at *
      generalize (k : Int) + 1 = j at *
      clear ho hb hy hk hlt
      cases t with
      | true =>
        have HM2 := Lib.hid (HY.out rfl)
        clear HY HN
        go_wp2_with fail
        refine hh.mono ?_; clear hh; rintro e w4 ⟨rfl, rfl⟩
        go_wp2_with fail
        refine hcall.mono ?_; clear hcall; rintro e w1 ⟨rfl, hb1⟩
        have HO1 := Lib.hid (HO.out.below hb1)
        have HB1 : Hid (Below w.heap.size w w1) := HB.out.trans (hb1.mono HB.out.size)
        have hsz := HB1.out.size
        clear hb1
        go_wp2_with (at_builtin; refine wp_push w1 rfl (.tmp 15) (.tmp 17) rfl w.heap.size _ L j rfl HO1.out rfl (by omega) hsz ?_; intro v5 w5 ho5 hb5)
        have HO5 : Hid (Own w5 w.heap.size v5 M) := by rw [HM2.out]; exact ho5
        have HB5 : Hid (Below w.heap.size w w5) := HB1.out.trans hb5
        clear ho5 hb5 hsz
        go_wp2_with fail
        go_roundw
        · rw [e1]; exact HR.out _ _ HO5.out HB5.out
        · rw [e1]; exact HM.out
      | false =>
        have HM2 := Lib.hid (HN.out rfl)
        clear HY HN
        go_wp2_with fail
        refine hh.mono ?_; clear hh; rintro e w4 ⟨rfl, rfl⟩
        go_wp2_with fail
        refine hcall.mono ?_; clear hcall; rintro e w1 ⟨rfl, hb1⟩
        have h2 := HO.out.below hb1
        rw [← HM2.out] at h2
        have HO1 := Lib.hid h2
        clear h2
        have HB1 : Hid (Below w.heap.size w w1) := HB.out.trans (hb1.mono HB.out.size)
        clear hb1
        go_wp2_with fail
        go_roundw
        · (first | exact HR.out _ _ HO1.out HB1.out | (rw [e1]; exact HR.out _ _ HO1.out HB1.out))
        · (first | exact HM.out | (rw [e1]; exact HM.out))
    · obtain rfl : k = n := by omega
      have hy : ¬ Ent ((k : Nat) : Int) ((k : Int) + 1) := by unfold Ent; omega
      rw [decide_eq_false hy] at hh
      generalize ((k : Nat) : Int) + 1 = j at *
      clear ho hb hy hk hlt
      go_wp2_with fail
      refine hh.mono ?_; clear hh; rintro e w4 ⟨rfl, rfl⟩
      go_wp2_with fail
      go_ret
      exact ⟨_, rfl, HO.out, HB.out⟩
set_option maxRecDepth 100000 in
theorem child1_c {w : World} {b0 b1 : Nat} (a : Option Addr) (c : Nat) (L : List AcT) (y x : Int) (hL : RdA w a L) (hn : L.length ≤ 1000) (hx : Ent (L.length : Int) x) (h0 : w.cell? ⟨b0, 0, none⟩ = some (.slice a L.length c)) (h1 : w.cell? ⟨b1, 0, none⟩ = some (.int .i64 y)) :
    Calls Try.prog 40 #[.int .i64 x, .pointer (some ⟨b0, 0, none⟩), .pointer (some ⟨b1, 0, none⟩)] w fun e w' => e = .returned (.bool (decide (pa L x = y))) ∧ Below w.heap.size w w' := by
  have hp : ∀ wr, Below w.heap.size w wr → Calls Try.prog 41 #[.slice a L.length c, .int .i64 x] wr fun e w' => e = .returned (.int .i64 (pa L x)) ∧ w' = wr := fun wr q => (par_c a c L x wr (hL.below q) hx (by omega)).mono (fun _ _ h => ⟨h.1, h.2.symm⟩)
  have HP := Lib.hid hp
  have hd : decide (pa L x = y) = (pa L x == y) := rfl
  rw [hd]
  clear hd
  generalize pa L x = z at *
  have HB : Hid (∀ k, Below w.heap.size w (w.drewN k)) := fun k => below_drewN (Below.refl _ _) k
  clear hL hx hp
  go_enter Try.func40, Try.ntmps40
  go_upto_region 1 with fail
  go_quiet ((go_at_call 41; exact Calls.quiet_of_same (HP.out _ (HB.out _))))
  go_wp2_with fail
  go_ret
  exact ⟨rfl, HB.out _⟩
set_option maxHeartbeats 1000000 in
set_option maxRecDepth 100000 in
theorem children_a (a : Option Addr) (c : Nat) (L : List AcT) (y : Int) (w : World) (hL : RdA w a L) (hn : L.length ≤ 1000) :
    Calls Try.prog 12 #[.slice a L.length c, .int .i64 y] w fun e w' => ∃ v, e = .returned v ∧ Own w' w.heap.size v (chs L.length (pa L) y) ∧ Below w.heap.size w w' := by
  have hmf : ∀ (fn : Fn) (first cap : Array Value) (w : World), (Instr.makeFunc fn first cap).run Try.prog w = .ok (.func fn first cap) w := fun _ _ _ _ => rfl
  have hb := below2 w (.cells #[.slice a L.length c] 22) (.cells #[.int .i64 y] 3)
  have HB := Lib.hid hb
  obtain ⟨W, hW⟩ : ∃ W, W = (w.alloc (.cells #[.slice a L.length c] 22)).alloc (.cells #[.int .i64 y] 3) := ⟨_, rfl⟩
  have c0 : W.cell? ⟨w.heap.size, 0, none⟩ = some (.slice a L.length c) := by rw [hW]; simp
  have c1 : W.cell? ⟨w.heap.size + 1, 0, none⟩ = some (.int .i64 y) := by rw [hW]; simp
  have hsz : w.heap.size ≤ W.heap.size := by rw [hW]; exact hb.size
  have hLW : RdA W a L := by rw [hW]; exact hL.below hb
  have HBW : Hid (Below w.heap.size w W) := by show Below _ _ _; rw [hW]; exact hb
  have hi := isone_c a L.length c y W
  have ht := those_a 40 (fun _ _ => rfl) #[.pointer (some ⟨w.heap.size, 0, none⟩), .pointer (some ⟨w.heap.size + 1, 0, none⟩)] (fun x => decide (pa L x = y)) a L.length c hn W (fun x wr hx q =>
    child1_c a c L y x (hLW.below q) hn hx ((q.cell (p := ⟨w.heap.size, 0, none⟩) (World.block_lt_of_cell? _ _ c0)).trans c0) ((q.cell (p := ⟨w.heap.size + 1, 0, none⟩) (World.block_lt_of_cell? _ _ c1)).trans c1))
  by_cases hy : Ent (L.length : Int) y
  · rw [decide_eq_true hy] at hi
    have HE : Hid (chs L.length (pa L) y = flt L.length (fun x => decide (pa L x = y))) := if_pos hy
    generalize flt L.length (fun x => decide (pa L x = y)) = M at *
    have HS := Lib.hid hsz
    clear hL hLW hb hsz hy
    go_enter Try.func12, Try.ntmps12
    go_wp2_with fail
    rw [← hW]
    refine hi.mono ?_; clear hi; rintro e w0 ⟨rfl, rfl⟩
    have HW := Lib.hid hW
    clear hW
    go_wp2_with fail
    refine ht.mono ?_; clear ht; rintro e w1 ⟨v, rfl, ho, hb1⟩
    have HO := Lib.hid (ho.down HS.out)
    have HB1 : Hid (Below w.heap.size w w1) := HBW.out.trans (hb1.mono HS.out)
    clear ho hb1 c0 c1
    go_wp2_with fail
    go_ret
    exact ⟨_, rfl, by rw [HE.out]; exact HO.out, HB1.out⟩
  · rw [decide_eq_false hy] at hi
    have HE : Hid (chs L.length (pa L) y = []) := if_neg hy
    clear hL hLW hb hsz hy ht
    go_enter Try.func12, Try.ntmps12
    go_wp2_with fail
    rw [← hW]
    refine hi.mono ?_; clear hi; rintro e w0 ⟨rfl, rfl⟩
    clear hW c0 c1
    go_wp2_with fail
    go_ret
    exact ⟨_, rfl, by rw [HE.out]; exact Own.nil _ _, HBW.out⟩
/-- The first place. -/
def IdxP (L : List AcT) (g : AcT → Bool) (i : Int) : Prop := (∃ k : Nat, i = (k : Int) ∧ k < L.length ∧ g (L.getD k zA) = true ∧ ∀ j, j < k → g (L.getD j zA) = false) ∨ (i = -1 ∧ ∀ j, j < L.length → g (L.getD j zA) = false)
theorem IdxP.any {L : List AcT} {g : AcT → Bool} {i : Int} (h : IdxP L g i) : decide (0 ≤ i) = L.any g := by
  rcases h with ⟨k, rfl, h1, h2, _⟩ | ⟨rfl, h2⟩
  · rw [decide_eq_true (by omega : (0 : Int) ≤ (k : Int))]
    symm
    rw [List.any_eq_true]
    rw [getA h1] at h2
    exact ⟨_, List.getElem_mem h1, h2⟩
  · rw [decide_eq_false (by omega : ¬ (0 : Int) ≤ -1)]
    symm
    rw [List.any_eq_false]
    intro s hs
    obtain ⟨j, hj, rfl⟩ := List.getElem_of_mem hs
    have := h2 j hj
    rw [getA hj] at this
    rw [this]; decide
set_option maxHeartbeats 2000000 in
set_option maxRecDepth 100000 in
theorem idxfA (F : FuncId) (he : ∀ args w, (callFunc F args).run Try.prog w = .ok (.enter F args) w) (cap : Array Value) (g : AcT → Bool) (a : Option Addr) (c : Nat) (L : List AcT) (w : World) (hL : RdA w a L) (hn : L.length ≤ 1000000)
    (hF : ∀ s wr, Below w.heap.size w wr → Calls Try.prog F (#[.agg #[.int .i64 s.1, .int .i64 s.2.1, .bool s.2.2.1, .bool s.2.2.2]] ++ cap) wr fun e w' => e = .returned (.bool (g s)) ∧ Below wr.heap.size wr w') :
    Calls Try.prog 60 #[.slice a L.length c, .func (.func F) #[] cap] w fun e w' => (∃ i : Int, e = .returned (.int .i64 i) ∧ IdxP L g i) ∧ Below w.heap.size w w' := by
  have HL := Lib.hid hL; clear hL
  have HF := Lib.hid hF; clear hF
  go_enter Try.func60, Try.ntmps60
  go_wp2_with fail
  go_loopw [8] (fun i wr => ∃ k : Nat, k ≤ L.length ∧ i = .int .i64 (k : Int) ∧ (∀ j, j < k → g (L.getD j zA) = false) ∧ Below w.heap.size w wr) (fun i _ => L.length - (intOf i).toNat)
  case atStart => exact ⟨0, Nat.zero_le _, rfl, fun j hj => (by cases hj), Below.refl _ _⟩
  case round =>
    obtain ⟨k, hk, rfl, hok, hb⟩ := hrel
    have HK := Lib.hid hok; clear hok
    have HB := Lib.hid hb
    by_cases hlt : k < L.length
    · obtain ⟨b, off, rfl, hc, hc1, hc2, hc3⟩ := (HL.out.below hb).2 k hlt
      have i0 : (0 : Int) ≤ (k : Int) := by omega
      have i1 : (k : Int) < (L.length : Int) := by omega
      have HY : Hid (g (L.getD k zA) = true → IdxP L g (k : Int)) := fun q => Or.inl ⟨k, rfl, hlt, q, HK.out⟩
      have HN : Hid (g (L.getD k zA) = false → ∀ j, j < k + 1 → g (L.getD j zA) = false) := fun q j hj => by
        rcases Nat.lt_or_ge j k with r | r
        · exact HK.out j r
        · rw [show j = k by omega]; exact q
      have hcall := HF.out (L.getD k zA) wr HB.out
      generalize L.getD k zA = z at *
      generalize g z = t at *
      clear hb
      cases t with
      | true =>
        have HY2 := Lib.hid (HY.out rfl)
        clear HY HN
        go_wp2_with fail
        refine hcall.mono ?_; clear hcall; rintro e w1 ⟨rfl, hb1⟩
        have HB1 : Hid (Below w.heap.size w w1) := HB.out.trans (hb1.mono HB.out.size)
        clear hb1
        go_wp2_with fail
        go_ret
        exact ⟨⟨(k : Int), rfl, HY2.out⟩, HB1.out⟩
      | false =>
        have HS := Lib.hid (HN.out rfl)
        clear HY HN
        go_wp2_with fail
        refine hcall.mono ?_; clear hcall; rintro e w1 ⟨rfl, hb1⟩
        have HB1 : Hid (Below w.heap.size w w1) := HB.out.trans (hb1.mono HB.out.size)
        clear hb1
        go_wp2_with fail
        go_roundw
        · exact ⟨k + 1, by omega, by go_num, HS.out, HB1.out⟩
        · simp [intOf]; omega
    · obtain rfl : k = L.length := by omega
      have hd0 : decide ((L.length : Int) < (L.length : Int)) = false := decide_eq_false (by omega)
      clear hb
      go_wp2_with fail
      go_ret
      exact ⟨⟨-1, rfl, Or.inr ⟨rfl, HK.out⟩⟩, HB.out⟩
set_option maxHeartbeats 1000000 in
theorem contfA (F : FuncId) (he : ∀ args w, (callFunc F args).run Try.prog w = .ok (.enter F args) w) (cap : Array Value) (g : AcT → Bool) (a : Option Addr) (c : Nat) (L : List AcT) (w : World) (hL : RdA w a L) (hn : L.length ≤ 1000000)
    (hF : ∀ s wr, Below w.heap.size w wr → Calls Try.prog F (#[.agg #[.int .i64 s.1, .int .i64 s.2.1, .bool s.2.2.1, .bool s.2.2.2]] ++ cap) wr fun e w' => e = .returned (.bool (g s)) ∧ Below wr.heap.size wr w') :
    Calls Try.prog 44 #[.slice a L.length c, .func (.func F) #[] cap] w fun e w' => e = .returned (.bool (L.any g)) ∧ Below w.heap.size w w' := by
  have hi := idxfA F he cap g a c L w hL hn hF
  have HE : Hid (∀ i, IdxP L g i → decide (0 ≤ i) = L.any g) := fun i h => h.any
  generalize L.any g = t at *
  clear hL hF
  go_enter Try.func44, Try.ntmps44
  go_wp2_with fail
  refine hi.mono ?_; clear hi; rintro e w0 ⟨⟨i, rfl, hv⟩, hb⟩
  have e1 := HE.out i hv
  have HB := Lib.hid hb
  clear hv hb
  go_wp2_with fail
  go_ret
  exact ⟨rfl, HB.out⟩
set_option maxRecDepth 100000 in
theorem leaf1_c {w : World} {b0 : Nat} (s : AcT) (y : Int) (h0 : w.cell? ⟨b0, 0, none⟩ = some (.int .i64 y)) :
    Calls Try.prog 43 #[.agg #[.int .i64 s.1, .int .i64 s.2.1, .bool s.2.2.1, .bool s.2.2.2], .pointer (some ⟨b0, 0, none⟩)] w fun e w' => e = .returned (.bool (decide (s.1 = y))) ∧ Below w.heap.size w w' := by
  have hb := below1 w (objA s)
  have HB := Lib.hid hb
  have f0 := (hb.cell (p := ⟨b0, 0, none⟩) (World.block_lt_of_cell? w _ h0)).trans h0
  obtain ⟨g0, g1, g2, g3, -⟩ := newA w s
  have hd : decide (s.1 = y) = (s.1 == y) := rfl
  rw [hd]
  clear hd h0 hb
  go_enter Try.func43, Try.ntmps43
  go_wp2_with fail
  go_ret
  exact ⟨rfl, HB.out⟩
theorem any_fam {L : List AcT} {y : Int} : (!L.any fun s => decide (s.1 = y)) = decide (fam L.length (pa L) y = []) := by
  rw [Bool.eq_iff_iff, Bool.not_eq_true', List.any_eq_false, decide_eq_true_eq, List.eq_nil_iff_forall_not_mem]
  constructor
  · intro h x hx
    obtain ⟨h1, h2⟩ := mem_fam.1 hx
    obtain ⟨k, rfl⟩ : ∃ k : Nat, x = (k : Int) + 1 := ⟨(x - 1).toNat, by unfold Ent at h1; omega⟩
    have hk : k < L.length := by unfold Ent at h1; omega
    rw [pa_at hk, getA hk] at h2
    exact h _ (List.getElem_mem hk) (by simpa using h2)
  · intro h s hs q
    obtain ⟨k, hk, rfl⟩ := List.getElem_of_mem hs
    refine h ((k : Int) + 1) (mem_fam.2 ⟨⟨by omega, by omega⟩, ?_⟩)
    rw [pa_at hk, getA hk]; simpa using q
set_option maxHeartbeats 1000000 in
set_option maxRecDepth 100000 in
theorem leaf_a (a : Option Addr) (c : Nat) (L : List AcT) (y : Int) (w : World) (hL : RdA w a L) (hn : L.length ≤ 1000) :
    Calls Try.prog 14 #[.slice a L.length c, .int .i64 y] w fun e w' => e = .returned (.bool (lfa L.length (pa L) y)) ∧ Below w.heap.size w w' := by
  have hmf : ∀ (fn : Fn) (first cap : Array Value) (w : World), (Instr.makeFunc fn first cap).run Try.prog w = .ok (.func fn first cap) w := fun _ _ _ _ => rfl
  have hb := below1 w (.cells #[.int .i64 y] 3)
  have c0 : (w.alloc (.cells #[.int .i64 y] 3)).cell? ⟨w.heap.size, 0, none⟩ = some (.int .i64 y) := by simp
  have hi := isone_c a L.length c y (w.alloc (.cells #[.int .i64 y] 3))
  have hlt := World.block_lt_of_cell? _ _ c0
  have ht := contfA 43 (fun _ _ => rfl) #[.pointer (some ⟨w.heap.size, 0, none⟩)] (fun s => decide (s.1 = y)) a c L (w.alloc (.cells #[.int .i64 y] 3)) (hL.below hb) (by omega) (fun s wr q => leaf1_c s y ((q.cell (p := ⟨w.heap.size, 0, none⟩) hlt).trans c0))
  have HB := Lib.hid hb
  by_cases hy : Ent (L.length : Int) y
  · rw [decide_eq_true hy] at hi
    have HE : Hid (∀ t, (L.any fun s => decide (s.1 = y)) = t → lfa L.length (pa L) y = !t) := fun t h => by
      unfold lfa; rw [decide_eq_true hy, ← any_fam, h]; rfl
    obtain ⟨t, htt⟩ : ∃ t, (L.any fun s => decide (s.1 = y)) = t := ⟨_, rfl⟩
    rw [HE.out t htt]
    rw [htt] at ht
    clear hL hb hy hlt HE htt
    go_enter Try.func14, Try.ntmps14
    go_wp2_with fail
    refine hi.mono ?_; clear hi; rintro e w0 ⟨rfl, rfl⟩
    go_wp2_with fail
    refine ht.mono ?_; clear ht; rintro e w1 ⟨rfl, hb1⟩
    have HB1 : Hid (Below w.heap.size w w1) := HB.out.trans (hb1.mono HB.out.size)
    clear hb1 c0
    go_wp2_with fail
    go_ret
    exact ⟨rfl, HB1.out⟩
  · rw [decide_eq_false hy] at hi
    have HE : lfa L.length (pa L) y = false := by unfold lfa; rw [decide_eq_false hy]; rfl
    rw [HE]
    clear hL hb hy hlt HE ht
    go_enter Try.func14, Try.ntmps14
    go_wp2_with fail
    refine hi.mono ?_; clear hi; rintro e w0 ⟨rfl, rfl⟩
    clear c0
    go_wp2_with fail
    go_ret
    exact ⟨rfl, HB.out⟩
end Go.Proofs.Yteendpdidkekkaa
