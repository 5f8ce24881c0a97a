/-
  The document's nodes that count, and whether all that a node reads stands in a row (gavelkindref14). The conditions: the document's graph; at most 10^6 numbers. The document's own Order (gavelkindref14). The conditions: the document's graph; at most 10^6 numbers. The document's own Waves, and whether two lists of lists are the same (gavelkindref14). The conditions: the document's graph; at most 10^6 numbers.
-/
import Derived.Test.YthaepdkeakmfaaaOr4
import Derived.Test.YthaepdkeakmfaaaRefIg
import Derived.Test.YthaepdkeakmfaaaRefId0
namespace Go.Proofs.Ythaepdkeakmfaaa
open Go.RowKit
set_option linter.unusedSimpArgs false
set_option linter.unusedVariables false

/- The document's nodes that count, and whether all that a node reads stands in a row (gavelkindref14). The conditions: the document's graph; at most 10^6 numbers. -/
theorem sel_take {n : Nat} {S : List Int} {k : Nat} (h : k < S.length) : (S.take (k + 1)).filter (fun x => decide (gnd n x)) = if gnd n (S.getD k 0) then (S.take k).filter (fun x => decide (gnd n x)) ++ [S.getD k 0] else (S.take k).filter (fun x => decide (gnd n x)) := by
  rw [List.take_succ_eq_append_getElem h, List.filter_append, getD_lt _ _ h]
  by_cases q : gnd n S[k]
  · rw [if_pos q]; simp [q]
  · rw [if_neg q]; simp [q]
set_option maxHeartbeats 2000000 in
set_option maxRecDepth 100000 in
theorem r14nodes {w : World} {x : Value} {R : List (List Int)} (h : GRef w x R) (hR : R.length ≤ 20000) (fa : Option Addr) (fc : Nat) (L : List Int) (hr : Reads w fa L) (hn : L.length ≤ 1000000) :
    Calls Try.prog 25 #[x, .slice fa L.length fc] w fun e w' => ∃ u, e = .returned u ∧ Own w' w.heap.size u (sel R.length L) ∧ Below w.heap.size w w' := by
  obtain ⟨xa, xc, us, rfl, _, _, _, _, _⟩ := h
  have hb0 := below1 w (.cells #[.slice xa R.length xc] 29)
  have hc0 : (w.alloc (.cells #[.slice xa R.length xc] 29)).cell? ⟨w.heap.size, 0, none⟩ = some (.slice xa R.length xc) := by simp [go_sem]
  have hri := r11rise fa fc L _ (hr.below hb0) (by omega)
  have hs0 : w.heap.size < (w.alloc (.cells #[.slice xa R.length xc] 29)).heap.size := by simp
  have hll : (rise L).length ≤ 1000000 := by
    have := rise_len L []
    unfold rise; simp at this ⊢; omega
  have HB0 := Lib.hid hb0
  clear hr hb0
  go_enter Try.func25, Try.ntmps25
  go_wp2_with fail
  generalize w.alloc (.cells #[.slice xa R.length xc] 29) = w1 at *
  refine hri.mono ?_; clear hri; rintro e w2 ⟨u, rfl, hu, hb2⟩
  have hc2 := (hb2.cell (p := ⟨w.heap.size, 0, none⟩) hs0).trans hc0
  obtain ⟨ua, uc, rfl, _, _, hur⟩ := hu
  have hB2 := HB0.out.trans (hb2.mono HB0.out.size)
  have HB2 := Lib.hid hB2
  have HU := Lib.hid hur
  have HC := Lib.hid hc2
  have hlt2 : w.heap.size < w2.heap.size := World.block_lt_of_cell? _ _ hc2
  have HE := Lib.hid (sel_rise R.length L)
  clear hc0 hb2 hur hB2 hc2 hs0 HB0
  generalize rise L = S at *
  go_wp2_with fail
  go_loopw [6, 7] (fun ov i wr => ∃ k : Nat, k ≤ S.length ∧ i = .int .i64 (k : Int) ∧ Own wr w2.heap.size ov ((S.take k).filter fun x => decide (gnd R.length x)) ∧ Below w2.heap.size w2 wr) (fun _ i _ => S.length - (RowKit.intOf i).toNat)
  case atStart => exact ⟨0, Nat.zero_le _, rfl, Own.nil _ _, Below.refl _ _⟩
  case round =>
    obtain ⟨k, hk, rfl, ho, hb⟩ := hrel
    have hc2 := (hb.cell (p := ⟨w.heap.size, 0, none⟩) hlt2).trans HC.out
    by_cases hlt : k < S.length
    · obtain ⟨b, off, rfl, hcx⟩ := (HU.out.below hb).2 k hlt
      have i0 : (0 : Int) ≤ (k : Int) := by omega
      have i1 : (k : Int) < (S.length : Int) := by omega
      have hst := sel_take (n := R.length) hlt
      have hlen : ((S.take k).filter fun x => decide (gnd R.length x)).length ≤ 1000000 := Nat.le_trans (List.length_filter_le _ _) (by rw [List.length_take]; omega)
      generalize (S.take k).filter (fun x => decide (gnd R.length x)) = Q at *
      generalize hQ2 : (S.take (k + 1)).filter (fun x => decide (gnd R.length x)) = Q2 at hst
      have HQ2 := Lib.hid hQ2
      clear hQ2
      have hsz := hb.size
      have HO := Lib.hid ho; have HB := Lib.hid hb
      generalize S.getD k 0 = z at *
      by_cases hg : gnd R.length z
      · rw [if_pos hg] at hst
        have d0 : decide ((0 : Int) ≤ z) = true := decide_eq_true hg.1
        have d1 : decide (z < (R.length : Int)) = true := decide_eq_true hg.2
        have HST := Lib.hid hst
        have HLT := Lib.hid hlt
        clear hst hg ho hb hlt hk
        go_wp2_with fail
        go_quiet (fail)
        go_wp2_with
          (at_builtin
           refine wp_push (wr.drewN nq) rfl (.tmp 31) (.tmp 36) rfl w2.heap.size _ Q z rfl (HO.out.below (below_drewN (Below.refl _ _) _)) rfl (by omega) hsz ?_
           intro v4 w4 o4 b4
           have O4 := Lib.hid o4; have B4 := Lib.hid ((below_drewN HB.out _).trans b4)
           clear o4 b4)
        go_roundw
        · exact ⟨k + 1, HLT.out, by go_num, by rw [HQ2.out, HST.out]; exact O4.out, B4.out⟩
        · have := HLT.out; simp [RowKit.intOf]; omega
      · rw [if_neg hg] at hst
        have HST := Lib.hid hst
        have HLT := Lib.hid hlt
        by_cases h0 : 0 ≤ z
        · have d0 : decide ((0 : Int) ≤ z) = true := decide_eq_true h0
          have d1 : decide (z < (R.length : Int)) = false := decide_eq_false fun q => hg ⟨h0, q⟩
          clear hst hg ho hb hlt hk h0
          go_wp2_with fail
          go_quiet (fail)
          go_wp2_with fail
          go_roundw
          · exact ⟨k + 1, HLT.out, by go_num, by rw [HQ2.out, HST.out]; exact HO.out.below (below_drewN (Below.refl _ _) _), below_drewN HB.out _⟩
          · have := HLT.out; simp [RowKit.intOf]; omega
        · have d0 : decide ((0 : Int) ≤ z) = false := decide_eq_false h0
          clear hst hg ho hb hlt hk h0
          go_wp2_with fail
          go_quiet (fail)
          go_wp2_with fail
          go_roundw
          · exact ⟨k + 1, HLT.out, by go_num, by rw [HQ2.out, HST.out]; exact HO.out.below (below_drewN (Below.refl _ _) _), below_drewN HB.out _⟩
          · have := HLT.out; simp [RowKit.intOf]; omega
    · obtain rfl : k = S.length := by omega
      rw [List.take_length] at ho
      rw [HE.out] at ho
      have hd0 : decide ((S.length : Int) < (S.length : Int)) = false := decide_eq_false (by omega)
      have HF := Lib.hid (And.intro (own_low ho HB2.out.size) (HB2.out.trans (hb.mono HB2.out.size)))
      clear ho hb hk hlt
      go_wp2_with fail
      go_ret
      exact ⟨_, rfl, HF.out.1, HF.out.2⟩
/-- Do the first k of a row of reads stand there? -/
theorem free_step {G A row : List Int} {k : Nat} (h : k < G.length) (h1 : ∀ x ∈ G.take k, x ∈ A → x ∈ row) (h2 : G.getD k 0 ∈ A → G.getD k 0 ∈ row) : ∀ x ∈ G.take (k + 1), x ∈ A → x ∈ row := fun x hx ha => by
  rw [List.take_succ_eq_append_getElem h] at hx
  rw [getD_lt _ _ h] at h2
  rcases List.mem_append.1 hx with q | q
  · exact h1 x q ha
  · rw [List.mem_singleton.1 q] at ha ⊢; exact h2 ha
set_option maxHeartbeats 2000000 in
set_option maxRecDepth 100000 in
theorem r14free {w : World} {x : Value} {R : List (List Int)} (h : GRef w x R) (hI : GrI R) {v : Nat} (hv : v < R.length) (aa ra : Option Addr) (ac rc : Nat) (A row : List Int) (hA : Reads w aa A) (hr : Reads w ra row) (hnA : A.length ≤ 1000000) (hnr : row.length ≤ 1000000) :
    Calls Try.prog 26 #[x, .int .i64 (v : Int), .slice aa A.length ac, .slice ra row.length rc] w fun e w' => e = .returned (.bool (fre R A row (v : Int))) ∧ Below w.heap.size w w' := by
  obtain ⟨xa, xc, us, rfl, h2, h3, h4, h5, h6⟩ := h
  obtain ⟨b, off, sa, sc, rfl, hcv, _, _, hrv⟩ := GRef.at h4 h5 h6 hv
  have hb0 := below1 w (.cells #[.slice (some ⟨b, off, none⟩) R.length xc] 29)
  have hc0 : (w.alloc (.cells #[.slice (some ⟨b, off, none⟩) R.length xc] 29)).cell? ⟨w.heap.size, 0, none⟩ = some (.slice (some ⟨b, off, none⟩) R.length xc) := by simp [go_sem]
  have hcv1 := (hb0.cell (World.block_lt_of_cell? _ _ hcv)).trans hcv
  have HRV := Lib.hid (hrv.below hb0)
  have HA := Lib.hid (hA.below hb0)
  have HR := Lib.hid (hr.below hb0)
  have i0 : (0 : Int) ≤ (v : Int) := by omega
  have i1 : (v : Int) < (R.length : Int) := by omega
  have hGl := hI.len v
  have hIh := hI.hi
  obtain ⟨q, hq⟩ : ∃ q, q = fre R A row (v : Int) := ⟨_, rfl⟩
  have hq2 := hq
  unfold fre at hq2
  rw [Int.toNat_natCast] at hq2
  rw [← hq]
  generalize gR R v = G at *
  have HQ := Lib.hid hq2
  have HB0 := Lib.hid hb0
  clear hrv hA hr hcv h2 h3 h4 h5 h6 hq hq2 hb0
  go_enter Try.func26, Try.ntmps26
  go_wp2_with fail
  generalize w.alloc (.cells #[.slice (some ⟨b, off, none⟩) R.length xc] 29) = w1 at *
  go_loopw [9] (fun i wr => ∃ k : Nat, k ≤ G.length ∧ i = .int .i64 (k : Int) ∧ (∀ x ∈ G.take k, x ∈ A → x ∈ row) ∧ wr = w1) (fun i _ => G.length - (RowKit.intOf i).toNat)
  case atStart => exact ⟨0, Nat.zero_le _, rfl, fun x hx => by simp at hx, rfl⟩
  case round =>
    obtain ⟨k, hk, rfl, hall, rfl⟩ := hrel
    by_cases hlt : k < G.length
    · obtain ⟨gb, go, rfl, hcx⟩ := HRV.out.2 k hlt
      have j0 : (0 : Int) ≤ (k : Int) := by omega
      have j1 : (k : Int) < (G.length : Int) := by omega
      have hA1 := has_any aa ac A (G.getD k 0) wr HA.out (by omega)
      have hR1 := has_any ra rc row (G.getD k 0) wr HR.out (by omega)
      have HST := Lib.hid (free_step hlt hall)
      have HNO : Hid (G.getD k 0 ∈ A → G.getD k 0 ∉ row → q = false) := fun q1 q2 => by
        rw [HQ.out]
        refine decide_eq_false fun q3 => q2 (q3 _ ?_ q1)
        rw [getD_lt _ _ hlt]; exact List.getElem_mem hlt
      generalize G.getD k 0 = z at *
      clear hall
      by_cases hzA : z ∈ A
      · rw [decide_eq_true hzA] at hA1
        by_cases hzR : z ∈ row
        · rw [decide_eq_true hzR] at hR1
          have HN := Lib.hid (HST.out fun _ => hzR)
          have HLT := Lib.hid hlt
          clear hzA hzR hlt hk
          go_wp2_with fail
          refine hA1.mono ?_; rintro e w2 ⟨rfl, rfl⟩
          go_wp2_with fail
          refine hR1.mono ?_; rintro e w2 ⟨rfl, rfl⟩
          go_wp2_with fail
          go_roundw
          · exact ⟨k + 1, HLT.out, by go_num, HN.out, by first | rfl | trivial⟩
          · have := HLT.out; simp [RowKit.intOf]; omega
        · rw [decide_eq_false hzR] at hR1
          have hqf := HNO.out hzA hzR
          subst hqf
          clear hzA hzR hlt hk
          go_wp2_with fail
          refine hA1.mono ?_; rintro e w2 ⟨rfl, rfl⟩
          go_wp2_with fail
          refine hR1.mono ?_; rintro e w2 ⟨rfl, rfl⟩
          go_wp2_with fail
          go_ret
          exact ⟨rfl, HB0.out⟩
      · rw [decide_eq_false hzA] at hA1
        have HN := Lib.hid (HST.out fun r => absurd r hzA)
        have HLT := Lib.hid hlt
        clear hzA hlt hk
        go_wp2_with fail
        refine hA1.mono ?_; rintro e w2 ⟨rfl, rfl⟩
        go_wp2_with fail
        go_roundw
        · exact ⟨k + 1, HLT.out, by go_num, HN.out, by first | rfl | trivial⟩
        · have := HLT.out; simp [RowKit.intOf]; omega
    · obtain rfl : k = G.length := by omega
      rw [List.take_length] at hall
      have hqt : q = true := by rw [HQ.out]; exact decide_eq_true hall
      subst hqt
      have hd0 : decide ((G.length : Int) < (G.length : Int)) = false := decide_eq_false (by omega)
      clear hall hk hlt
      go_wp2_with fail
      go_ret
      exact ⟨rfl, HB0.out⟩
/- The document's own Order (gavelkindref14). The conditions: the document's graph; at most 10^6 numbers. -/
section
variable {R : List (List Int)} {A out : List Int}
/-- The next one among those from place k on. -/
def nxk (R : List (List Int)) (A out : List Int) (k : Nat) : Int := ((A.drop k).find? (cand R A out)).getD (-1)
theorem nxk_step {j : Nat} (h : j < A.length) : nxk R A out j = if cand R A out (A.getD j 0) = true then A.getD j 0 else nxk R A out (j + 1) := by
  unfold nxk
  rw [drop_cons h, List.find?_cons]
  cases cand R A out (A.getD j 0) <;> simp
theorem nxk_top : nxk R A out A.length = -1 := by unfold nxk; rw [List.drop_length]; rfl
theorem nxk_all : nxk R A out 0 = (nxt R A out).getD (-1) := by unfold nxk nxt; rw [List.drop_zero]
theorem ord_full (hA : A.Nodup) (h : OrdP R A out) (hl : out.length = A.length) : IsOrd R A out ∧ ∀ x ∈ A, x ∈ out := by
  have hs := (sub_len h.nodup hA h.sub).2.1 hl
  refine ⟨⟨h, nxt_no fun y hy => ?_⟩, hs⟩
  cases hc : cand R A out y with
  | false => rfl
  | true => exact absurd (hs y hy) (cand_iff.1 hc).1
theorem ord_short (hA : A.Nodup) (h : OrdP R A out) (hl : out.length < A.length) : ∃ x ∈ A, x ∉ out := Classical.byContradiction fun q => by
  have := (sub_len h.nodup hA h.sub).2.2 fun x hx => Classical.byContradiction fun r => q ⟨x, hx, r⟩
  omega
theorem cand_eq {x : Int} : cand R A out x = (!decide (x ∈ out) && fre R A out x) := by
  unfold cand
  rw [decide_not]
end
set_option maxHeartbeats 4000000 in
set_option maxRecDepth 100000 in
theorem r14order {w : World} {x : Value} {R : List (List Int)} (h : GRef w x R) (hI : GrI R) (fa : Option Addr) (fc : Nat) (L : List Int) (hr : Reads w fa L) (hn : L.length ≤ 1000000) :
    Calls Try.prog 10 #[x, .slice fa L.length fc] w fun e w' => OrdAns e w w' R (sel R.length L) := by
  have hgx := h
  obtain ⟨xa, xc, us, rfl, _, _, _, _, _⟩ := h
  have hb0 := below1 w (.cells #[.slice xa R.length xc] 29)
  have hc0 : (w.alloc (.cells #[.slice xa R.length xc] 29)).cell? ⟨w.heap.size, 0, none⟩ = some (.slice xa R.length xc) := by simp [go_sem]
  have hIh := hI.hi
  have hno := r14nodes (hgx.below hb0) hIh fa fc L (hr.below hb0) hn
  have HG := Lib.hid (hgx.below hb0)
  have HB0 := Lib.hid hb0
  have HI := Lib.hid hI
  obtain ⟨bx, hbx⟩ : ∃ bx, bx = w.heap.size := ⟨_, rfl⟩
  clear hgx hr hb0 hI
  go_enter Try.func10, Try.ntmps10
  go_wp2_with fail
  have HBX := Lib.hid hbx
  rw [← hbx] at hc0 ⊢
  clear hbx
  generalize w.alloc (.cells #[.slice xa R.length xc] 29) = w1 at *
  refine hno.mono ?_; clear hno; rintro e w2 ⟨u, rfl, hu, hb2⟩
  have hAg : ∀ z ∈ sel R.length L, gnd R.length z := fun z hz => (mem_sel.1 hz).1
  have hAr := sel_rises R.length L
  generalize hsel : sel R.length L = A at *
  have HSEL := Lib.hid hsel
  clear hsel
  have hAin : ∀ z ∈ A, InR z := fun z hz => by have := hAg z hz; unfold gnd at this; unfold InR; omega
  have hAl : A.length ≤ R.length := nodup_len hAr.nodup hAg
  obtain ⟨ua, uc, rfl, _, hur⟩ := hu.reads hAin
  have hB2 := HB0.out.trans (hb2.mono HB0.out.size)
  have hc2 := (hb2.cell (p := ⟨bx, 0, none⟩) (World.block_lt_of_cell? _ _ hc0)).trans hc0
  have HG2 := Lib.hid (HG.out.below hb2)
  have HB2 := Lib.hid hB2
  have HU := Lib.hid hur
  have HC := Lib.hid hc2
  have HA := Lib.hid (And.intro hAg (And.intro hAr hAl))
  clear hu hb2 hB2 hur hc0 hc2 HG HB0 hAg hAr hAin
  go_wp2_with fail
  go_loopg [7] (A.length + 1) (fun g ov wr => ∃ out : List Int, A.length + 1 - out.length ≤ g ∧ OrdP R A out ∧ Own wr w2.heap.size ov out ∧ Below w2.heap.size w2 wr)
  case atStart => exact ⟨[], Nat.sub_le _ _, OrdP.nil, Own.nil _ _, Below.refl _ _⟩
  case round =>
    obtain ⟨out, hg, hO, ho, hb⟩ := hrel
    have hle := (sub_len hO.nodup HA.out.2.1.nodup hO.sub).1
    have hoin : ∀ z ∈ out, InR z := fun z hz => by have := HA.out.1 z (hO.sub z hz); unfold gnd at this; unfold InR; omega
    obtain ⟨oa, oc, rfl, _, hor⟩ := ho.reads hoin
    by_cases hlt : out.length < A.length
    · have d0 : decide ((out.length : Int) < (A.length : Int)) = true := decide_eq_true (by omega)
      have d0n : decide (out.length < A.length) = true := decide_eq_true hlt
      have HS := Lib.hid (ord_short HA.out.2.1.nodup hO hlt)
      have HO := Lib.hid hO
      have HOW := Lib.hid ho
      have HOR := Lib.hid hor
      have HBW := Lib.hid hb
      have e0 : wrap64 ((A.length : Int) - 1) = (A.length : Int) - 1 := by unfold wrap64; omega
      have HLT := Lib.hid hlt
      clear hO ho hor hb hlt hoin
      go_wp2_with fail
      go_loopw [8, 9] (fun nv iv wy => ∃ (k : Nat) (z : Int), k ≤ A.length ∧ z = (k : Int) - 1 ∧ iv = .int .i64 z ∧ nv = .int .i64 (nxk R A out k) ∧ Below wr.heap.size wr wy) (fun _ i _ => (RowKit.intOf i + 1).toNat)
      case atStart => exact ⟨A.length, _, Nat.le_refl _, rfl, rfl, by rw [nxk_top], Below.refl _ _⟩
      case round =>
        obtain ⟨k, z, hk, hz, rfl, rfl, hby⟩ := hrel
        have hsz := hby.size
        by_cases h0 : 0 ≤ z
        · obtain ⟨j, rfl⟩ := Int.eq_ofNat_of_zero_le h0
          obtain rfl : k = j + 1 := by omega
          have hj : j < A.length := by omega
          have hgx := HA.out.1 (A.getD j 0) (by rw [getD_lt _ _ hj]; exact List.getElem_mem hj)
          obtain ⟨x, hx⟩ : ∃ x : Nat, A.getD j 0 = ((x : Nat) : Int) := ⟨(A.getD j 0).toNat, by unfold gnd at hgx; omega⟩
          have hxl : x < R.length := by unfold gnd at hgx; omega
          have HBY := Lib.hid (HBW.out.trans (hby.mono HBW.out.size))
          obtain ⟨ub, uo, rfl, hcx⟩ := (HU.out.below HBY.out).2 j hj
          rw [hx] at hcx
          have hcb := (HBY.out.cell (p := ⟨bx, 0, none⟩) (World.block_lt_of_cell? _ _ HC.out)).trans HC.out
          have hS : Hid (∀ W', Below wr.heap.size wr W' → W'.cell? ⟨ub, uo + j, none⟩ = some (.int .i64 ((x : Nat) : Int)) ∧ W'.cell? ⟨bx, 0, none⟩ = some (.slice xa R.length xc)) := fun W' q => ⟨(q.cell (World.block_lt_of_cell? _ _ hcx)).trans hcx, (q.cell (World.block_lt_of_cell? _ _ hcb)).trans hcb⟩
          have hd := (Below.refl wr.heap.size wr).drew
          have hhas := has_any oa oc out ((x : Nat) : Int) wr.drew (HOR.out.below (hby.drew)) (by omega)
          have hfree := r14free (w := wr.drew) (HG2.out.below (HBY.out.drew)) HI.out hxl (some ⟨ub, uo, none⟩) oa uc oc A out (HU.out.below HBY.out.drew) (HOR.out.below (hby.drew)) (by omega) (by omega)
          have hst := nxk_step (R := R) (out := out) hj
          rw [hx, cand_eq] at hst
          have e1 : wrap64 ((j : Int) - 1) = (j : Int) - 1 := by unfold wrap64; omega
          have i0 : (0 : Int) ≤ (j : Int) := by omega
          have i1 : (j : Int) < (A.length : Int) := by omega
          have hkk := (Below.refl wr.heap.size wr).drew
          have HBW2 := Lib.hid hby
          generalize nxk R A out (j + 1) = n1 at *
          generalize hn0 : nxk R A out j = n0 at *
          have HN0 := Lib.hid hn0
          have HJ := Lib.hid hj
          clear hgx hx hcx hcb hz hk hn0 hby h0 hd
          by_cases hxo : ((x : Nat) : Int) ∈ out
          · rw [decide_eq_true hxo] at hhas hst
            simp only [Bool.not_true, Bool.false_and, Bool.false_eq_true, if_false] at hst
            have HST := Lib.hid hst
            clear hst hxo hfree
            go_wp2_with fail
            refine wp_region_held_drew (S := fun wz => wz.cell? ⟨ub, uo + j, none⟩ = some (.int .i64 ((x : Nat) : Int)) ∧ wz.cell? ⟨bx, 0, none⟩ = some (.slice xa R.length xc)) (by kernel_rfl) (hS.out _ (Below.refl _ _).drew) (fun hHeld => ?_)
            refine wpAnyH_take (i := 0) (v := ?_) rfl (by kernel_rfl) (by kernel_rfl) (by kernel_rfl) (fun _ _ _ h => h) (Or.inl ⟨by rfl, ?y0⟩) (by assumption) ?_
            case y0 => intro w hSw; (try dsimp only at hSw); go_simp; (try with_reducible rfl)
            (try simp only [Act.put, List.setIfInBounds_toArray, List.set_cons_zero, List.set_cons_succ, List.getElem_toArray, List.getElem_cons_zero, List.getElem_cons_succ])
            refine wpAnyH_take (i := 1) (v := ?_) rfl (by kernel_rfl) (by kernel_rfl) (by kernel_rfl) (fun _ _ _ h => h) (Or.inl ⟨by rfl, ?y1⟩) (by assumption) ?_
            case y1 => intro w hSw; (try dsimp only at hSw); go_simp; (try with_reducible rfl)
            (try simp only [Act.put, List.setIfInBounds_toArray, List.set_cons_zero, List.set_cons_succ, List.getElem_toArray, List.getElem_cons_zero, List.getElem_cons_succ])
            refine wpAnyH_take (i := 2) (v := ?_) rfl (by kernel_rfl) (by kernel_rfl) (by kernel_rfl) (fun _ _ _ h => h) (Or.inl ⟨by rfl, ?y2⟩) (by assumption) ?_
            case y2 => intro w hSw; (try dsimp only at hSw); go_simp; (try with_reducible rfl)
            (try simp only [Act.put, List.setIfInBounds_toArray, List.set_cons_zero, List.set_cons_succ, List.getElem_toArray, List.getElem_cons_zero, List.getElem_cons_succ])
            refine wpAnyH_take (i := 3) (v := ?_) rfl (by kernel_rfl) (by kernel_rfl) (by kernel_rfl) (fun _ _ _ h => h) (Or.inl ⟨by rfl, ?y3⟩) (by assumption) ?_
            case y3 => intro w hSw; (try dsimp only at hSw); go_simp; (try with_reducible rfl)
            (try simp only [Act.put, List.setIfInBounds_toArray, List.set_cons_zero, List.set_cons_succ, List.getElem_toArray, List.getElem_cons_zero, List.getElem_cons_succ])
            refine wpAnyH_take (i := 4) (v := ?_) rfl (by kernel_rfl) (by kernel_rfl) (by kernel_rfl) (fun _ _ _ h => h) (Or.inl ⟨by rfl, ?y4⟩) (by assumption) ?_
            case y4 => intro w hSw; (try dsimp only at hSw); go_simp; (try with_reducible rfl)
            (try simp only [Act.put, List.setIfInBounds_toArray, List.set_cons_zero, List.set_cons_succ, List.getElem_toArray, List.getElem_cons_zero, List.getElem_cons_succ])
            refine wpAnyH_ready (rs := [5]) (by kernel_rfl) (by simp) ?_
            refine AllReadyH.cons rfl (fun K hK => ?_) AllReadyH.nil
            go_simp
            refine hhas.mono ?_; clear hhas; rintro e y5 ⟨rfl, hy⟩
            replace hy := hy.symm
            subst hy
            refine hK.out _ _ (hS.out _ (Below.refl _ _).drew) (fun hHeld => ?_)
            clear hK K
            (try simp only [Act.put, List.setIfInBounds_toArray, List.set_cons_zero, List.set_cons_succ, List.getElem_toArray, List.getElem_cons_zero, List.getElem_cons_succ])
            refine wpAnyH_take (i := 6) (v := ?_) rfl (by kernel_rfl) (by kernel_rfl) (by kernel_rfl) (fun _ _ _ h => h) (Or.inl ⟨by rfl, ?y6⟩) (by assumption) ?_
            case y6 => intro w hSw; (try dsimp only at hSw); go_simp; (try with_reducible rfl)
            (try simp only [Act.put, List.setIfInBounds_toArray, List.set_cons_zero, List.set_cons_succ, List.getElem_toArray, List.getElem_cons_zero, List.getElem_cons_succ])
            refine wpAnyH_take (i := 7) (v := ?_) rfl (by kernel_rfl) (by kernel_rfl) (by kernel_rfl) (fun _ _ _ h => h) (Or.inl ⟨by rfl, ?y7⟩) (by assumption) ?_
            case y7 => intro w hSw; (try dsimp only at hSw); go_simp; (try with_reducible rfl)
            (try simp only [Act.put, List.setIfInBounds_toArray, List.set_cons_zero, List.set_cons_succ, List.getElem_toArray, List.getElem_cons_zero, List.getElem_cons_succ])
            refine wpAnyH_take (i := 8) (v := undef) rfl (by kernel_rfl) (by kernel_rfl) (by kernel_rfl) (fun _ _ _ h => h) (Or.inr ⟨by rfl, rfl⟩) (by assumption) ?_
            (try simp only [Act.put, List.setIfInBounds_toArray, List.set_cons_zero, List.set_cons_succ, List.getElem_toArray, List.getElem_cons_zero, List.getElem_cons_succ])
            refine wpAnyH_take (i := 9) (v := undef) rfl (by kernel_rfl) (by kernel_rfl) (by kernel_rfl) (fun _ _ _ h => h) (Or.inr ⟨by rfl, rfl⟩) (by assumption) ?_
            (try simp only [Act.put, List.setIfInBounds_toArray, List.set_cons_zero, List.set_cons_succ, List.getElem_toArray, List.getElem_cons_zero, List.getElem_cons_succ])
            refine wpAnyH_take (i := 10) (v := undef) rfl (by kernel_rfl) (by kernel_rfl) (by kernel_rfl) (fun _ _ _ h => h) (Or.inr ⟨by rfl, rfl⟩) (by assumption) ?_
            (try simp only [Act.put, List.setIfInBounds_toArray, List.set_cons_zero, List.set_cons_succ, List.getElem_toArray, List.getElem_cons_zero, List.getElem_cons_succ])
            refine wpAnyH_take (i := 11) (v := undef) rfl (by kernel_rfl) (by kernel_rfl) (by kernel_rfl) (fun _ _ _ h => h) (Or.inr ⟨by rfl, rfl⟩) (by assumption) ?_
            (try simp only [Act.put, List.setIfInBounds_toArray, List.set_cons_zero, List.set_cons_succ, List.getElem_toArray, List.getElem_cons_zero, List.getElem_cons_succ])
            refine wpAnyH_take (i := 12) (v := undef) rfl (by kernel_rfl) (by kernel_rfl) (by kernel_rfl) (fun _ _ _ h => h) (Or.inr ⟨by rfl, rfl⟩) (by assumption) ?_
            (try simp only [Act.put, List.setIfInBounds_toArray, List.set_cons_zero, List.set_cons_succ, List.getElem_toArray, List.getElem_cons_zero, List.getElem_cons_succ])
            refine wpAnyH_take (i := 13) (v := undef) rfl (by kernel_rfl) (by kernel_rfl) (by kernel_rfl) (fun _ _ _ h => h) (Or.inr ⟨by rfl, rfl⟩) (by assumption) ?_
            (try simp only [Act.put, List.setIfInBounds_toArray, List.set_cons_zero, List.set_cons_succ, List.getElem_toArray, List.getElem_cons_zero, List.getElem_cons_succ])
            refine wpAnyH_take (i := 14) (v := undef) rfl (by kernel_rfl) (by kernel_rfl) (by kernel_rfl) (fun _ _ _ h => h) (Or.inr ⟨by rfl, rfl⟩) (by assumption) ?_
            (try simp only [Act.put, List.setIfInBounds_toArray, List.set_cons_zero, List.set_cons_succ, List.getElem_toArray, List.getElem_cons_zero, List.getElem_cons_succ])
            refine wpAnyH_take (i := 15) (v := undef) rfl (by kernel_rfl) (by kernel_rfl) (by kernel_rfl) (fun _ _ _ h => h) (Or.inr ⟨by rfl, rfl⟩) (by assumption) ?_
            (try simp only [Act.put, List.setIfInBounds_toArray, List.set_cons_zero, List.set_cons_succ, List.getElem_toArray, List.getElem_cons_zero, List.getElem_cons_succ])
            refine wpAnyH_take (i := 16) (v := ?_) rfl (by kernel_rfl) (by kernel_rfl) (by kernel_rfl) (fun _ _ _ h => h) (Or.inl ⟨by rfl, ?y16⟩) (by assumption) ?_
            case y16 => intro w hSw; (try dsimp only at hSw); go_simp; (try with_reducible rfl)
            (try simp only [Act.put, List.setIfInBounds_toArray, List.set_cons_zero, List.set_cons_succ, List.getElem_toArray, List.getElem_cons_zero, List.getElem_cons_succ])
            refine wpAnyH_done (by kernel_rfl) ?_ _
            go_wp2_with fail
            go_roundw
            · exact ⟨j, _, by have := HJ.out; omega, rfl, rfl, by rw [HN0.out, HST.out], HBW2.out.drew⟩
            · simp [RowKit.intOf] <;> omega
          · rw [decide_eq_false hxo] at hhas hst
            simp only [Bool.not_false, Bool.true_and] at hst
            generalize fre R A out ((x : Nat) : Int) = f at *
            cases f with
            | true =>
              rw [if_pos rfl] at hst
              have HST := Lib.hid hst
              clear hst hxo
              go_wp2_with fail
              refine wp_region_held_drew (S := fun wz => wz.cell? ⟨ub, uo + j, none⟩ = some (.int .i64 ((x : Nat) : Int)) ∧ wz.cell? ⟨bx, 0, none⟩ = some (.slice xa R.length xc)) (by kernel_rfl) (hS.out _ (Below.refl _ _).drew) (fun hHeld => ?_)
              refine wpAnyH_take (i := 0) (v := ?_) rfl (by kernel_rfl) (by kernel_rfl) (by kernel_rfl) (fun _ _ _ h => h) (Or.inl ⟨by rfl, ?y0⟩) (by assumption) ?_
              case y0 => intro w hSw; (try dsimp only at hSw); go_simp; (try with_reducible rfl)
              (try simp only [Act.put, List.setIfInBounds_toArray, List.set_cons_zero, List.set_cons_succ, List.getElem_toArray, List.getElem_cons_zero, List.getElem_cons_succ])
              refine wpAnyH_take (i := 1) (v := ?_) rfl (by kernel_rfl) (by kernel_rfl) (by kernel_rfl) (fun _ _ _ h => h) (Or.inl ⟨by rfl, ?y1⟩) (by assumption) ?_
              case y1 => intro w hSw; (try dsimp only at hSw); go_simp; (try with_reducible rfl)
              (try simp only [Act.put, List.setIfInBounds_toArray, List.set_cons_zero, List.set_cons_succ, List.getElem_toArray, List.getElem_cons_zero, List.getElem_cons_succ])
              refine wpAnyH_take (i := 2) (v := ?_) rfl (by kernel_rfl) (by kernel_rfl) (by kernel_rfl) (fun _ _ _ h => h) (Or.inl ⟨by rfl, ?y2⟩) (by assumption) ?_
              case y2 => intro w hSw; (try dsimp only at hSw); go_simp; (try with_reducible rfl)
              (try simp only [Act.put, List.setIfInBounds_toArray, List.set_cons_zero, List.set_cons_succ, List.getElem_toArray, List.getElem_cons_zero, List.getElem_cons_succ])
              refine wpAnyH_take (i := 3) (v := ?_) rfl (by kernel_rfl) (by kernel_rfl) (by kernel_rfl) (fun _ _ _ h => h) (Or.inl ⟨by rfl, ?y3⟩) (by assumption) ?_
              case y3 => intro w hSw; (try dsimp only at hSw); go_simp; (try with_reducible rfl)
              (try simp only [Act.put, List.setIfInBounds_toArray, List.set_cons_zero, List.set_cons_succ, List.getElem_toArray, List.getElem_cons_zero, List.getElem_cons_succ])
              refine wpAnyH_take (i := 4) (v := ?_) rfl (by kernel_rfl) (by kernel_rfl) (by kernel_rfl) (fun _ _ _ h => h) (Or.inl ⟨by rfl, ?y4⟩) (by assumption) ?_
              case y4 => intro w hSw; (try dsimp only at hSw); go_simp; (try with_reducible rfl)
              (try simp only [Act.put, List.setIfInBounds_toArray, List.set_cons_zero, List.set_cons_succ, List.getElem_toArray, List.getElem_cons_zero, List.getElem_cons_succ])
              refine wpAnyH_ready (rs := [5]) (by kernel_rfl) (by simp) ?_
              refine AllReadyH.cons rfl (fun K hK => ?_) AllReadyH.nil
              go_simp
              refine hhas.mono ?_; clear hhas; rintro e y5 ⟨rfl, hy⟩
              replace hy := hy.symm
              subst hy
              refine hK.out _ _ (hS.out _ (Below.refl _ _).drew) (fun hHeld => ?_)
              clear hK K
              (try simp only [Act.put, List.setIfInBounds_toArray, List.set_cons_zero, List.set_cons_succ, List.getElem_toArray, List.getElem_cons_zero, List.getElem_cons_succ])
              refine wpAnyH_take (i := 6) (v := ?_) rfl (by kernel_rfl) (by kernel_rfl) (by kernel_rfl) (fun _ _ _ h => h) (Or.inl ⟨by rfl, ?y6⟩) (by assumption) ?_
              case y6 => intro w hSw; (try dsimp only at hSw); go_simp; (try with_reducible rfl)
              (try simp only [Act.put, List.setIfInBounds_toArray, List.set_cons_zero, List.set_cons_succ, List.getElem_toArray, List.getElem_cons_zero, List.getElem_cons_succ])
              refine wpAnyH_take (i := 7) (v := ?_) rfl (by kernel_rfl) (by kernel_rfl) (by kernel_rfl) (fun _ _ _ h => h) (Or.inl ⟨by rfl, ?y7⟩) (by assumption) ?_
              case y7 => intro w hSw; (try dsimp only at hSw); go_simp; (try with_reducible rfl)
              (try simp only [Act.put, List.setIfInBounds_toArray, List.set_cons_zero, List.set_cons_succ, List.getElem_toArray, List.getElem_cons_zero, List.getElem_cons_succ])
              refine wpAnyH_take (i := 8) (v := ?_) rfl (by kernel_rfl) (by kernel_rfl) (by kernel_rfl) (fun _ _ _ h => h) (Or.inl ⟨by rfl, ?y8⟩) (by assumption) ?_
              case y8 => intro w hSw; (try dsimp only at hSw); go_simp; (try with_reducible rfl)
              (try simp only [Act.put, List.setIfInBounds_toArray, List.set_cons_zero, List.set_cons_succ, List.getElem_toArray, List.getElem_cons_zero, List.getElem_cons_succ])
              refine wpAnyH_take (i := 9) (v := ?_) rfl (by kernel_rfl) (by kernel_rfl) (by kernel_rfl) (fun _ _ _ h => h) (Or.inl ⟨by rfl, ?y9⟩) (by assumption) ?_
              case y9 => intro w hSw; (try dsimp only at hSw); go_simp; (try with_reducible rfl)
              (try simp only [Act.put, List.setIfInBounds_toArray, List.set_cons_zero, List.set_cons_succ, List.getElem_toArray, List.getElem_cons_zero, List.getElem_cons_succ])
              refine wpAnyH_take (i := 10) (v := ?_) rfl (by kernel_rfl) (by kernel_rfl) (by kernel_rfl) (fun _ _ _ h => h) (Or.inl ⟨by rfl, ?y10⟩) (by assumption) ?_
              case y10 => intro w hSw; (try dsimp only at hSw); go_simp; (try with_reducible rfl)
              (try simp only [Act.put, List.setIfInBounds_toArray, List.set_cons_zero, List.set_cons_succ, List.getElem_toArray, List.getElem_cons_zero, List.getElem_cons_succ])
              refine wpAnyH_take (i := 11) (v := ?_) rfl (by kernel_rfl) (by kernel_rfl) (by kernel_rfl) (fun _ _ _ h => h) (Or.inl ⟨by rfl, ?y11⟩) (by assumption) ?_
              case y11 => intro w hSw; (try dsimp only at hSw); go_simp; (try with_reducible rfl)
              (try simp only [Act.put, List.setIfInBounds_toArray, List.set_cons_zero, List.set_cons_succ, List.getElem_toArray, List.getElem_cons_zero, List.getElem_cons_succ])
              refine wpAnyH_take (i := 12) (v := ?_) rfl (by kernel_rfl) (by kernel_rfl) (by kernel_rfl) (fun _ _ _ h => h) (Or.inl ⟨by rfl, ?y12⟩) (by assumption) ?_
              case y12 => intro w hSw; (try dsimp only at hSw); go_simp; (try with_reducible rfl)
              (try simp only [Act.put, List.setIfInBounds_toArray, List.set_cons_zero, List.set_cons_succ, List.getElem_toArray, List.getElem_cons_zero, List.getElem_cons_succ])
              refine wpAnyH_take (i := 13) (v := ?_) rfl (by kernel_rfl) (by kernel_rfl) (by kernel_rfl) (fun _ _ _ h => h) (Or.inl ⟨by rfl, ?y13⟩) (by assumption) ?_
              case y13 => intro w hSw; (try dsimp only at hSw); go_simp; (try with_reducible rfl)
              (try simp only [Act.put, List.setIfInBounds_toArray, List.set_cons_zero, List.set_cons_succ, List.getElem_toArray, List.getElem_cons_zero, List.getElem_cons_succ])
              refine wpAnyH_take (i := 14) (v := ?_) rfl (by kernel_rfl) (by kernel_rfl) (by kernel_rfl) (fun _ _ _ h => h) (Or.inl ⟨by rfl, ?y14⟩) (by assumption) ?_
              case y14 => intro w hSw; (try dsimp only at hSw); go_simp; (try with_reducible rfl)
              (try simp only [Act.put, List.setIfInBounds_toArray, List.set_cons_zero, List.set_cons_succ, List.getElem_toArray, List.getElem_cons_zero, List.getElem_cons_succ])
              refine wpAnyH_ready (rs := [15]) (by kernel_rfl) (by simp) ?_
              refine AllReadyH.cons rfl (fun K hK => ?_) AllReadyH.nil
              go_simp
              refine hfree.mono ?_; clear hfree; rintro e y6 ⟨rfl, hb6⟩
              have HB6 := Lib.hid hb6
              clear hb6
              refine hK.out _ _ (hS.out _ ((Below.refl _ _).drew.trans HB6.out)) (fun hHeld => ?_)
              clear hK K
              (try simp only [Act.put, List.setIfInBounds_toArray, List.set_cons_zero, List.set_cons_succ, List.getElem_toArray, List.getElem_cons_zero, List.getElem_cons_succ])
              refine wpAnyH_take (i := 16) (v := ?_) rfl (by kernel_rfl) (by kernel_rfl) (by kernel_rfl) (fun _ _ _ h => h) (Or.inl ⟨by rfl, ?y16⟩) (by assumption) ?_
              case y16 => intro w hSw; (try dsimp only at hSw); go_simp; (try with_reducible rfl)
              (try simp only [Act.put, List.setIfInBounds_toArray, List.set_cons_zero, List.set_cons_succ, List.getElem_toArray, List.getElem_cons_zero, List.getElem_cons_succ])
              refine wpAnyH_done (by kernel_rfl) ?_ _
              have hc6 := (hS.out _ ((Below.refl _ _).drew.trans HB6.out)).1
              go_wp2_with fail
              go_roundw
              · exact ⟨j, _, by have := HJ.out; omega, rfl, rfl, by rw [HN0.out, HST.out], (HBW2.out.drew).trans (HB6.out.mono (by have := HBW2.out.size; exact this))⟩
              · simp [RowKit.intOf] <;> omega
            | false =>
              rw [if_neg (by simp)] at hst
              have HST := Lib.hid hst
              clear hst hxo
              go_wp2_with fail
              refine wp_region_held_drew (S := fun wz => wz.cell? ⟨ub, uo + j, none⟩ = some (.int .i64 ((x : Nat) : Int)) ∧ wz.cell? ⟨bx, 0, none⟩ = some (.slice xa R.length xc)) (by kernel_rfl) (hS.out _ (Below.refl _ _).drew) (fun hHeld => ?_)
              refine wpAnyH_take (i := 0) (v := ?_) rfl (by kernel_rfl) (by kernel_rfl) (by kernel_rfl) (fun _ _ _ h => h) (Or.inl ⟨by rfl, ?y0⟩) (by assumption) ?_
              case y0 => intro w hSw; (try dsimp only at hSw); go_simp; (try with_reducible rfl)
              (try simp only [Act.put, List.setIfInBounds_toArray, List.set_cons_zero, List.set_cons_succ, List.getElem_toArray, List.getElem_cons_zero, List.getElem_cons_succ])
              refine wpAnyH_take (i := 1) (v := ?_) rfl (by kernel_rfl) (by kernel_rfl) (by kernel_rfl) (fun _ _ _ h => h) (Or.inl ⟨by rfl, ?y1⟩) (by assumption) ?_
              case y1 => intro w hSw; (try dsimp only at hSw); go_simp; (try with_reducible rfl)
              (try simp only [Act.put, List.setIfInBounds_toArray, List.set_cons_zero, List.set_cons_succ, List.getElem_toArray, List.getElem_cons_zero, List.getElem_cons_succ])
              refine wpAnyH_take (i := 2) (v := ?_) rfl (by kernel_rfl) (by kernel_rfl) (by kernel_rfl) (fun _ _ _ h => h) (Or.inl ⟨by rfl, ?y2⟩) (by assumption) ?_
              case y2 => intro w hSw; (try dsimp only at hSw); go_simp; (try with_reducible rfl)
              (try simp only [Act.put, List.setIfInBounds_toArray, List.set_cons_zero, List.set_cons_succ, List.getElem_toArray, List.getElem_cons_zero, List.getElem_cons_succ])
              refine wpAnyH_take (i := 3) (v := ?_) rfl (by kernel_rfl) (by kernel_rfl) (by kernel_rfl) (fun _ _ _ h => h) (Or.inl ⟨by rfl, ?y3⟩) (by assumption) ?_
              case y3 => intro w hSw; (try dsimp only at hSw); go_simp; (try with_reducible rfl)
              (try simp only [Act.put, List.setIfInBounds_toArray, List.set_cons_zero, List.set_cons_succ, List.getElem_toArray, List.getElem_cons_zero, List.getElem_cons_succ])
              refine wpAnyH_take (i := 4) (v := ?_) rfl (by kernel_rfl) (by kernel_rfl) (by kernel_rfl) (fun _ _ _ h => h) (Or.inl ⟨by rfl, ?y4⟩) (by assumption) ?_
              case y4 => intro w hSw; (try dsimp only at hSw); go_simp; (try with_reducible rfl)
              (try simp only [Act.put, List.setIfInBounds_toArray, List.set_cons_zero, List.set_cons_succ, List.getElem_toArray, List.getElem_cons_zero, List.getElem_cons_succ])
              refine wpAnyH_ready (rs := [5]) (by kernel_rfl) (by simp) ?_
              refine AllReadyH.cons rfl (fun K hK => ?_) AllReadyH.nil
              go_simp
              refine hhas.mono ?_; clear hhas; rintro e y5 ⟨rfl, hy⟩
              replace hy := hy.symm
              subst hy
              refine hK.out _ _ (hS.out _ (Below.refl _ _).drew) (fun hHeld => ?_)
              clear hK K
              (try simp only [Act.put, List.setIfInBounds_toArray, List.set_cons_zero, List.set_cons_succ, List.getElem_toArray, List.getElem_cons_zero, List.getElem_cons_succ])
              refine wpAnyH_take (i := 6) (v := ?_) rfl (by kernel_rfl) (by kernel_rfl) (by kernel_rfl) (fun _ _ _ h => h) (Or.inl ⟨by rfl, ?y6⟩) (by assumption) ?_
              case y6 => intro w hSw; (try dsimp only at hSw); go_simp; (try with_reducible rfl)
              (try simp only [Act.put, List.setIfInBounds_toArray, List.set_cons_zero, List.set_cons_succ, List.getElem_toArray, List.getElem_cons_zero, List.getElem_cons_succ])
              refine wpAnyH_take (i := 7) (v := ?_) rfl (by kernel_rfl) (by kernel_rfl) (by kernel_rfl) (fun _ _ _ h => h) (Or.inl ⟨by rfl, ?y7⟩) (by assumption) ?_
              case y7 => intro w hSw; (try dsimp only at hSw); go_simp; (try with_reducible rfl)
              (try simp only [Act.put, List.setIfInBounds_toArray, List.set_cons_zero, List.set_cons_succ, List.getElem_toArray, List.getElem_cons_zero, List.getElem_cons_succ])
              refine wpAnyH_take (i := 8) (v := ?_) rfl (by kernel_rfl) (by kernel_rfl) (by kernel_rfl) (fun _ _ _ h => h) (Or.inl ⟨by rfl, ?y8⟩) (by assumption) ?_
              case y8 => intro w hSw; (try dsimp only at hSw); go_simp; (try with_reducible rfl)
              (try simp only [Act.put, List.setIfInBounds_toArray, List.set_cons_zero, List.set_cons_succ, List.getElem_toArray, List.getElem_cons_zero, List.getElem_cons_succ])
              refine wpAnyH_take (i := 9) (v := ?_) rfl (by kernel_rfl) (by kernel_rfl) (by kernel_rfl) (fun _ _ _ h => h) (Or.inl ⟨by rfl, ?y9⟩) (by assumption) ?_
              case y9 => intro w hSw; (try dsimp only at hSw); go_simp; (try with_reducible rfl)
              (try simp only [Act.put, List.setIfInBounds_toArray, List.set_cons_zero, List.set_cons_succ, List.getElem_toArray, List.getElem_cons_zero, List.getElem_cons_succ])
              refine wpAnyH_take (i := 10) (v := ?_) rfl (by kernel_rfl) (by kernel_rfl) (by kernel_rfl) (fun _ _ _ h => h) (Or.inl ⟨by rfl, ?y10⟩) (by assumption) ?_
              case y10 => intro w hSw; (try dsimp only at hSw); go_simp; (try with_reducible rfl)
              (try simp only [Act.put, List.setIfInBounds_toArray, List.set_cons_zero, List.set_cons_succ, List.getElem_toArray, List.getElem_cons_zero, List.getElem_cons_succ])
              refine wpAnyH_take (i := 11) (v := ?_) rfl (by kernel_rfl) (by kernel_rfl) (by kernel_rfl) (fun _ _ _ h => h) (Or.inl ⟨by rfl, ?y11⟩) (by assumption) ?_
              case y11 => intro w hSw; (try dsimp only at hSw); go_simp; (try with_reducible rfl)
              (try simp only [Act.put, List.setIfInBounds_toArray, List.set_cons_zero, List.set_cons_succ, List.getElem_toArray, List.getElem_cons_zero, List.getElem_cons_succ])
              refine wpAnyH_take (i := 12) (v := ?_) rfl (by kernel_rfl) (by kernel_rfl) (by kernel_rfl) (fun _ _ _ h => h) (Or.inl ⟨by rfl, ?y12⟩) (by assumption) ?_
              case y12 => intro w hSw; (try dsimp only at hSw); go_simp; (try with_reducible rfl)
              (try simp only [Act.put, List.setIfInBounds_toArray, List.set_cons_zero, List.set_cons_succ, List.getElem_toArray, List.getElem_cons_zero, List.getElem_cons_succ])
              refine wpAnyH_take (i := 13) (v := ?_) rfl (by kernel_rfl) (by kernel_rfl) (by kernel_rfl) (fun _ _ _ h => h) (Or.inl ⟨by rfl, ?y13⟩) (by assumption) ?_
              case y13 => intro w hSw; (try dsimp only at hSw); go_simp; (try with_reducible rfl)
              (try simp only [Act.put, List.setIfInBounds_toArray, List.set_cons_zero, List.set_cons_succ, List.getElem_toArray, List.getElem_cons_zero, List.getElem_cons_succ])
              refine wpAnyH_take (i := 14) (v := ?_) rfl (by kernel_rfl) (by kernel_rfl) (by kernel_rfl) (fun _ _ _ h => h) (Or.inl ⟨by rfl, ?y14⟩) (by assumption) ?_
              case y14 => intro w hSw; (try dsimp only at hSw); go_simp; (try with_reducible rfl)
              (try simp only [Act.put, List.setIfInBounds_toArray, List.set_cons_zero, List.set_cons_succ, List.getElem_toArray, List.getElem_cons_zero, List.getElem_cons_succ])
              refine wpAnyH_ready (rs := [15]) (by kernel_rfl) (by simp) ?_
              refine AllReadyH.cons rfl (fun K hK => ?_) AllReadyH.nil
              go_simp
              refine hfree.mono ?_; clear hfree; rintro e y6 ⟨rfl, hb6⟩
              have HB6 := Lib.hid hb6
              clear hb6
              refine hK.out _ _ (hS.out _ ((Below.refl _ _).drew.trans HB6.out)) (fun hHeld => ?_)
              clear hK K
              (try simp only [Act.put, List.setIfInBounds_toArray, List.set_cons_zero, List.set_cons_succ, List.getElem_toArray, List.getElem_cons_zero, List.getElem_cons_succ])
              refine wpAnyH_take (i := 16) (v := ?_) rfl (by kernel_rfl) (by kernel_rfl) (by kernel_rfl) (fun _ _ _ h => h) (Or.inl ⟨by rfl, ?y16⟩) (by assumption) ?_
              case y16 => intro w hSw; (try dsimp only at hSw); go_simp; (try with_reducible rfl)
              (try simp only [Act.put, List.setIfInBounds_toArray, List.set_cons_zero, List.set_cons_succ, List.getElem_toArray, List.getElem_cons_zero, List.getElem_cons_succ])
              refine wpAnyH_done (by kernel_rfl) ?_ _
              go_wp2_with fail
              go_roundw
              · exact ⟨j, _, by have := HJ.out; omega, rfl, rfl, by rw [HN0.out, HST.out], (HBW2.out.drew).trans (HB6.out.mono (by have := HBW2.out.size; exact this))⟩
              · simp [RowKit.intOf] <;> omega
        · obtain rfl : k = 0 := by omega
          obtain rfl : z = -1 := by omega
          have hbw := HBW.out.trans (hby.mono HBW.out.size)
          have HBF := Lib.hid (HB2.out.trans (hbw.mono HB2.out.size))
          have how := HOW.out.below hby
          have HBY := Lib.hid hby
          have HBWW := Lib.hid hbw
          have hszw := hbw.size
          rw [nxk_all]
          cases hq : nxt R A out with
          | none =>
            have HIO : Hid (IsOrd R A out) := ⟨HO.out, hq⟩
            clear hq hby hbw how hz hk
            simp only [Option.getD_none]
            go_wp2_with fail
            go_ret2
            rw [HSEL.out]
            exact ⟨_, out, true, rfl, Own.nil _ _, HIO.out, ⟨fun _ => HS.out, fun _ => rfl⟩, HBF.out⟩
          | some y =>
            have hy := nxt_some hq
            have hyg := HA.out.1 y hy.1
            have HN : Hid (OrdP R A (out ++ [y])) := HO.out.push hq
            have d1 : decide (y < 0) = false := decide_eq_false (by unfold gnd at hyg; omega)
            have hyi : InR y := by unfold gnd at hyg; unfold InR; omega
            have HW := Lib.hid how
            clear hq hby hbw how hz hk hy hyg
            simp only [Option.getD_some]
            go_wp2_with
              (at_builtin
               refine wp_push wr rfl (.tmp 48) (.tmp 50) rfl w2.heap.size _ out y rfl HW.out rfl (by omega) hszw ?_
               intro v4 w4 o4 b4
               have O4 := Lib.hid o4; have B4 := Lib.hid (HBWW.out.trans b4)
               clear o4 b4)
            go_roundg (gk - 1)
            case measure => omega
            case rel => exact ⟨out ++ [y], by rw [List.length_append, List.length_singleton]; omega, HN.out, O4.out, B4.out⟩
    · have hfu := ord_full HA.out.2.1.nodup hO (by omega)
      have d0 : decide ((out.length : Int) < (A.length : Int)) = false := decide_eq_false (by omega)
      have d0n : decide (out.length < A.length) = false := decide_eq_false (by omega)
      have HF := Lib.hid (And.intro hfu (And.intro (own_low ho HB2.out.size) (HB2.out.trans (hb.mono HB2.out.size))))
      clear hO ho hor hb hfu hoin
      go_wp2_with fail
      go_ret2
      rw [HSEL.out]
      exact ⟨_, out, false, rfl, HF.out.2.1, HF.out.1.1, ⟨fun q => (by cases q), fun ⟨x, h1, h2⟩ => absurd (HF.out.1.2 x h1) h2⟩, HF.out.2.2⟩
/- The document's own Waves, and whether two lists of lists are the same (gavelkindref14). The conditions: the document's graph; at most 10^6 numbers. -/
section
variable {R : List (List Int)} {A : List Int} {rs : List (List Int)}
theorem wav_nodup (hA : A.Nodup) (h : WavP R A rs) : rs.flatten.Nodup := by
  have := WavP.nodup h hA rs.length (Nat.le_refl _)
  rwa [List.take_length] at this
theorem wav_full (hA : A.Nodup) (h : WavP R A rs) (hl : rs.flatten.length = A.length) : IsWav R A rs ∧ ∀ x ∈ A, x ∈ rs.flatten := by
  have hs := (sub_len (wav_nodup hA h) hA h.sub).2.1 hl
  refine ⟨⟨h, List.filter_eq_nil_iff.2 fun y hy q => ?_⟩, hs⟩
  exact (cand_iff.1 q).1 (hs y hy)
theorem wav_short (hA : A.Nodup) (h : WavP R A rs) (hl : rs.flatten.length < A.length) : ∃ x ∈ A, x ∉ rs.flatten := Classical.byContradiction fun q => by
  have := (sub_len (wav_nodup hA h) hA h.sub).2.2 fun x hx => Classical.byContradiction fun r => q ⟨x, hx, r⟩
  omega
/-- The first k of those that may come. -/
def wrk (R : List (List Int)) (A ahead : List Int) (k : Nat) : List Int := (A.take k).filter (cand R A ahead)
theorem wrk_step {ahead : List Int} {j : Nat} (h : j < A.length) : wrk R A ahead (j + 1) = if cand R A ahead (A.getD j 0) = true then wrk R A ahead j ++ [A.getD j 0] else wrk R A ahead j := by
  unfold wrk
  rw [List.take_succ_eq_append_getElem h, List.filter_append, getD_lt _ _ h]
  cases hc : cand R A ahead A[j] <;> simp [hc]
theorem wrk_all {ahead : List Int} : wrk R A ahead A.length = wrow R A ahead := by unfold wrk wrow; rw [List.take_length]
theorem wrk_len {ahead : List Int} {k : Nat} : (wrk R A ahead k).length ≤ A.length := Nat.le_trans (List.length_filter_le _ _) (by rw [List.length_take]; omega)
end
set_option maxHeartbeats 4000000 in
set_option maxRecDepth 100000 in
theorem r14waves {w : World} {x : Value} {R : List (List Int)} (h : GRef w x R) (hI : GrI R) (fa : Option Addr) (fc : Nat) (L : List Int) (hr : Reads w fa L) (hn : L.length ≤ 1000000) :
    Calls Try.prog 12 #[x, .slice fa L.length fc] w fun e w' => WavAns e w w' R (sel R.length L) := by
  have hgx := h
  obtain ⟨xa, xc, us, rfl, _, _, _, _, _⟩ := h
  have hb0 := below1 w (.cells #[.slice xa R.length xc] 29)
  have hc0 : (w.alloc (.cells #[.slice xa R.length xc] 29)).cell? ⟨w.heap.size, 0, none⟩ = some (.slice xa R.length xc) := by simp [go_sem]
  have hIh := hI.hi
  have hno := r14nodes (hgx.below hb0) hIh fa fc L (hr.below hb0) hn
  have HG := Lib.hid (hgx.below hb0)
  have HB0 := Lib.hid hb0
  have HI := Lib.hid hI
  obtain ⟨bx, hbx⟩ : ∃ bx, bx = w.heap.size := ⟨_, rfl⟩
  clear hgx hr hb0 hI
  go_enter Try.func12, Try.ntmps12
  go_wp2_with fail
  have HBX := Lib.hid hbx
  rw [← hbx] at hc0 ⊢
  clear hbx
  generalize w.alloc (.cells #[.slice xa R.length xc] 29) = w1 at *
  refine hno.mono ?_; clear hno; rintro e w2 ⟨u, rfl, hu, hb2⟩
  have hAg : ∀ z ∈ sel R.length L, gnd R.length z := fun z hz => (mem_sel.1 hz).1
  have hAr := sel_rises R.length L
  generalize hsel : sel R.length L = A at *
  have HSEL := Lib.hid hsel
  clear hsel
  have hAin : ∀ z ∈ A, InR z := fun z hz => by have := hAg z hz; unfold gnd at this; unfold InR; omega
  have hAl : A.length ≤ R.length := nodup_len hAr.nodup hAg
  obtain ⟨ua, uc, rfl, _, hur⟩ := hu.reads hAin
  have hB2 := HB0.out.trans (hb2.mono HB0.out.size)
  have hc2 := (hb2.cell (p := ⟨bx, 0, none⟩) (World.block_lt_of_cell? _ _ hc0)).trans hc0
  have HG2 := Lib.hid (HG.out.below hb2)
  have HB2 := Lib.hid hB2
  have HU := Lib.hid hur
  have HC := Lib.hid hc2
  have HA := Lib.hid (And.intro hAg (And.intro hAr hAl))
  clear hu hb2 hB2 hur hc0 hc2 HG HB0 hAg hAr hAin
  go_wp2_with fail
  go_loopg [7, 8] (A.length + 1) (fun g rv av wr => ∃ rs : List (List Int), A.length + 1 - rs.flatten.length ≤ g ∧ WavP R A rs ∧ RowsB w2 wr (fun j => av.ownBlock = some j) rs rv wr.heap.size ∧ Own wr w2.heap.size av rs.flatten ∧ Below w2.heap.size w2 wr)
  case atStart => exact ⟨[], Nat.sub_le _ _, WavP.nil, RowsB.nil _ _ _, Own.nil _ _, Below.refl _ _⟩
  case round =>
    obtain ⟨rs, hg, hO, hRB, ho, hb⟩ := hrel
    have hle := (sub_len (wav_nodup HA.out.2.1.nodup hO) HA.out.2.1.nodup hO.sub).1
    have hrl := rows_le hO
    have hoin : ∀ z ∈ rs.flatten, InR z := fun z hz => by have := HA.out.1 z (hO.sub z hz); unfold gnd at this; unfold InR; omega
    obtain ⟨oa, oc, rfl, _, hor⟩ := ho.reads hoin
    by_cases hlt : rs.flatten.length < A.length
    · have d0 : decide ((rs.flatten.length : Int) < (A.length : Int)) = true := decide_eq_true (by omega)
      have d0n : decide (rs.flatten.length < A.length) = true := decide_eq_true hlt
      have HS := Lib.hid (wav_short HA.out.2.1.nodup hO hlt)
      have HO := Lib.hid hO
      have HRB := Lib.hid hRB
      have HOW := Lib.hid ho
      have HOR := Lib.hid hor
      have HBW := Lib.hid hb
      generalize hF : rs.flatten = ahead at *
      have HFL := Lib.hid hF
      clear hF
      have HLT := Lib.hid hlt
      clear hO hRB ho hor hb hlt hoin
      go_wp2_with fail
      go_loopw [9, 10] (fun cv iv wy => ∃ k : Nat, k ≤ A.length ∧ iv = .int .i64 (k : Int) ∧ Own wy wr.heap.size cv (wrk R A ahead k) ∧ Below wr.heap.size wr wy) (fun _ i _ => A.length - (RowKit.intOf i).toNat)
      case atStart => exact ⟨0, Nat.zero_le _, rfl, Own.nil _ _, Below.refl _ _⟩
      case round =>
        obtain ⟨j, hk, rfl, hoc, hby⟩ := hrel
        have hsz := hby.size
        have hcl := wrk_len (R := R) (A := A) (ahead := ahead) (k := j)
        by_cases hj : j < A.length
        · have hgx := HA.out.1 (A.getD j 0) (by rw [getD_lt _ _ hj]; exact List.getElem_mem hj)
          obtain ⟨x, hx⟩ : ∃ x : Nat, A.getD j 0 = ((x : Nat) : Int) := ⟨(A.getD j 0).toNat, by unfold gnd at hgx; omega⟩
          have hxl : x < R.length := by unfold gnd at hgx; omega
          have HBY := Lib.hid (HBW.out.trans (hby.mono HBW.out.size))
          obtain ⟨ub, uo, rfl, hcx⟩ := (HU.out.below HBY.out).2 j hj
          rw [hx] at hcx
          have hcb := (HBY.out.cell (p := ⟨bx, 0, none⟩) (World.block_lt_of_cell? _ _ HC.out)).trans HC.out
          have hS : Hid (∀ W', Below wr.heap.size wr W' → W'.cell? ⟨ub, uo + j, none⟩ = some (.int .i64 ((x : Nat) : Int)) ∧ W'.cell? ⟨bx, 0, none⟩ = some (.slice xa R.length xc)) := fun W' q => ⟨(q.cell (World.block_lt_of_cell? _ _ hcx)).trans hcx, (q.cell (World.block_lt_of_cell? _ _ hcb)).trans hcb⟩
          have hhas := has_any oa oc ahead ((x : Nat) : Int) wr.drew (HOR.out.below (hby.drew)) (by omega)
          have hfree := r14free (w := wr.drew) (HG2.out.below (HBY.out.drew)) HI.out hxl (some ⟨ub, uo, none⟩) oa uc oc A ahead (HU.out.below HBY.out.drew) (HOR.out.below (hby.drew)) (by omega) (by omega)
          have hst := wrk_step (R := R) (ahead := ahead) hj
          rw [hx, cand_eq] at hst
          have i0 : (0 : Int) ≤ (j : Int) := by omega
          have i1 : (j : Int) < (A.length : Int) := by omega
          have d1 : decide ((j : Int) < (A.length : Int)) = true := decide_eq_true i1
          have d1n : decide (j < A.length) = true := decide_eq_true hj
          have HBW2 := Lib.hid hby
          have HOC := Lib.hid hoc
          have hxin : InR ((x : Nat) : Int) := by unfold InR; omega
          generalize wrk R A ahead j = n1 at *
          generalize hn0 : wrk R A ahead (j + 1) = n0 at *
          have HN0 := Lib.hid hn0
          have HJ := Lib.hid hj
          clear hgx hx hcx hcb hk hn0 hby hoc hj
          by_cases hxo : ((x : Nat) : Int) ∈ ahead
          · rw [decide_eq_true hxo] at hhas hst
            simp only [Bool.not_true, Bool.false_and, Bool.false_eq_true, if_false] at hst
            have HST := Lib.hid hst
            clear hst hxo hfree
            go_wp2_with fail
            refine wp_region_held_drew (S := fun wz => wz.cell? ⟨ub, uo + j, none⟩ = some (.int .i64 ((x : Nat) : Int)) ∧ wz.cell? ⟨bx, 0, none⟩ = some (.slice xa R.length xc)) (by kernel_rfl) (hS.out _ (Below.refl _ _).drew) (fun hHeld => ?_)
            refine wpAnyH_take (i := 0) (v := ?_) rfl (by kernel_rfl) (by kernel_rfl) (by kernel_rfl) (fun _ _ _ h => h) (Or.inl ⟨by rfl, ?y0⟩) (by assumption) ?_
            case y0 => intro w hSw; (try dsimp only at hSw); go_simp; (try with_reducible rfl)
            (try simp only [Act.put, List.setIfInBounds_toArray, List.set_cons_zero, List.set_cons_succ, List.getElem_toArray, List.getElem_cons_zero, List.getElem_cons_succ])
            refine wpAnyH_take (i := 1) (v := ?_) rfl (by kernel_rfl) (by kernel_rfl) (by kernel_rfl) (fun _ _ _ h => h) (Or.inl ⟨by rfl, ?y1⟩) (by assumption) ?_
            case y1 => intro w hSw; (try dsimp only at hSw); go_simp; (try with_reducible rfl)
            (try simp only [Act.put, List.setIfInBounds_toArray, List.set_cons_zero, List.set_cons_succ, List.getElem_toArray, List.getElem_cons_zero, List.getElem_cons_succ])
            refine wpAnyH_take (i := 2) (v := ?_) rfl (by kernel_rfl) (by kernel_rfl) (by kernel_rfl) (fun _ _ _ h => h) (Or.inl ⟨by rfl, ?y2⟩) (by assumption) ?_
            case y2 => intro w hSw; (try dsimp only at hSw); go_simp; (try with_reducible rfl)
            (try simp only [Act.put, List.setIfInBounds_toArray, List.set_cons_zero, List.set_cons_succ, List.getElem_toArray, List.getElem_cons_zero, List.getElem_cons_succ])
            refine wpAnyH_take (i := 3) (v := ?_) rfl (by kernel_rfl) (by kernel_rfl) (by kernel_rfl) (fun _ _ _ h => h) (Or.inl ⟨by rfl, ?y3⟩) (by assumption) ?_
            case y3 => intro w hSw; (try dsimp only at hSw); go_simp; (try with_reducible rfl)
            (try simp only [Act.put, List.setIfInBounds_toArray, List.set_cons_zero, List.set_cons_succ, List.getElem_toArray, List.getElem_cons_zero, List.getElem_cons_succ])
            refine wpAnyH_take (i := 4) (v := ?_) rfl (by kernel_rfl) (by kernel_rfl) (by kernel_rfl) (fun _ _ _ h => h) (Or.inl ⟨by rfl, ?y4⟩) (by assumption) ?_
            case y4 => intro w hSw; (try dsimp only at hSw); go_simp; (try with_reducible rfl)
            (try simp only [Act.put, List.setIfInBounds_toArray, List.set_cons_zero, List.set_cons_succ, List.getElem_toArray, List.getElem_cons_zero, List.getElem_cons_succ])
            refine wpAnyH_ready (rs := [5]) (by kernel_rfl) (by simp) ?_
            refine AllReadyH.cons rfl (fun K hK => ?_) AllReadyH.nil
            go_simp
            refine hhas.mono ?_; clear hhas; rintro e y5 ⟨rfl, hy⟩
            replace hy := hy.symm
            subst hy
            refine hK.out _ _ (hS.out _ (Below.refl _ _).drew) (fun hHeld => ?_)
            clear hK K
            (try simp only [Act.put, List.setIfInBounds_toArray, List.set_cons_zero, List.set_cons_succ, List.getElem_toArray, List.getElem_cons_zero, List.getElem_cons_succ])
            refine wpAnyH_take (i := 6) (v := ?_) rfl (by kernel_rfl) (by kernel_rfl) (by kernel_rfl) (fun _ _ _ h => h) (Or.inl ⟨by rfl, ?y6⟩) (by assumption) ?_
            case y6 => intro w hSw; (try dsimp only at hSw); go_simp; (try with_reducible rfl)
            (try simp only [Act.put, List.setIfInBounds_toArray, List.set_cons_zero, List.set_cons_succ, List.getElem_toArray, List.getElem_cons_zero, List.getElem_cons_succ])
            refine wpAnyH_take (i := 7) (v := ?_) rfl (by kernel_rfl) (by kernel_rfl) (by kernel_rfl) (fun _ _ _ h => h) (Or.inl ⟨by rfl, ?y7⟩) (by assumption) ?_
            case y7 => intro w hSw; (try dsimp only at hSw); go_simp; (try with_reducible rfl)
            (try simp only [Act.put, List.setIfInBounds_toArray, List.set_cons_zero, List.set_cons_succ, List.getElem_toArray, List.getElem_cons_zero, List.getElem_cons_succ])
            refine wpAnyH_take (i := 8) (v := undef) rfl (by kernel_rfl) (by kernel_rfl) (by kernel_rfl) (fun _ _ _ h => h) (Or.inr ⟨by rfl, rfl⟩) (by assumption) ?_
            (try simp only [Act.put, List.setIfInBounds_toArray, List.set_cons_zero, List.set_cons_succ, List.getElem_toArray, List.getElem_cons_zero, List.getElem_cons_succ])
            refine wpAnyH_take (i := 9) (v := undef) rfl (by kernel_rfl) (by kernel_rfl) (by kernel_rfl) (fun _ _ _ h => h) (Or.inr ⟨by rfl, rfl⟩) (by assumption) ?_
            (try simp only [Act.put, List.setIfInBounds_toArray, List.set_cons_zero, List.set_cons_succ, List.getElem_toArray, List.getElem_cons_zero, List.getElem_cons_succ])
            refine wpAnyH_take (i := 10) (v := undef) rfl (by kernel_rfl) (by kernel_rfl) (by kernel_rfl) (fun _ _ _ h => h) (Or.inr ⟨by rfl, rfl⟩) (by assumption) ?_
            (try simp only [Act.put, List.setIfInBounds_toArray, List.set_cons_zero, List.set_cons_succ, List.getElem_toArray, List.getElem_cons_zero, List.getElem_cons_succ])
            refine wpAnyH_take (i := 11) (v := undef) rfl (by kernel_rfl) (by kernel_rfl) (by kernel_rfl) (fun _ _ _ h => h) (Or.inr ⟨by rfl, rfl⟩) (by assumption) ?_
            (try simp only [Act.put, List.setIfInBounds_toArray, List.set_cons_zero, List.set_cons_succ, List.getElem_toArray, List.getElem_cons_zero, List.getElem_cons_succ])
            refine wpAnyH_take (i := 12) (v := undef) rfl (by kernel_rfl) (by kernel_rfl) (by kernel_rfl) (fun _ _ _ h => h) (Or.inr ⟨by rfl, rfl⟩) (by assumption) ?_
            (try simp only [Act.put, List.setIfInBounds_toArray, List.set_cons_zero, List.set_cons_succ, List.getElem_toArray, List.getElem_cons_zero, List.getElem_cons_succ])
            refine wpAnyH_take (i := 13) (v := undef) rfl (by kernel_rfl) (by kernel_rfl) (by kernel_rfl) (fun _ _ _ h => h) (Or.inr ⟨by rfl, rfl⟩) (by assumption) ?_
            (try simp only [Act.put, List.setIfInBounds_toArray, List.set_cons_zero, List.set_cons_succ, List.getElem_toArray, List.getElem_cons_zero, List.getElem_cons_succ])
            refine wpAnyH_take (i := 14) (v := undef) rfl (by kernel_rfl) (by kernel_rfl) (by kernel_rfl) (fun _ _ _ h => h) (Or.inr ⟨by rfl, rfl⟩) (by assumption) ?_
            (try simp only [Act.put, List.setIfInBounds_toArray, List.set_cons_zero, List.set_cons_succ, List.getElem_toArray, List.getElem_cons_zero, List.getElem_cons_succ])
            refine wpAnyH_take (i := 15) (v := undef) rfl (by kernel_rfl) (by kernel_rfl) (by kernel_rfl) (fun _ _ _ h => h) (Or.inr ⟨by rfl, rfl⟩) (by assumption) ?_
            (try simp only [Act.put, List.setIfInBounds_toArray, List.set_cons_zero, List.set_cons_succ, List.getElem_toArray, List.getElem_cons_zero, List.getElem_cons_succ])
            refine wpAnyH_take (i := 16) (v := ?_) rfl (by kernel_rfl) (by kernel_rfl) (by kernel_rfl) (fun _ _ _ h => h) (Or.inl ⟨by rfl, ?y16⟩) (by assumption) ?_
            case y16 => intro w hSw; (try dsimp only at hSw); go_simp; (try with_reducible rfl)
            (try simp only [Act.put, List.setIfInBounds_toArray, List.set_cons_zero, List.set_cons_succ, List.getElem_toArray, List.getElem_cons_zero, List.getElem_cons_succ])
            refine wpAnyH_done (by kernel_rfl) ?_ _
            go_wp2_with fail
            go_roundw
            · exact ⟨j + 1, HJ.out, by go_num, by rw [HN0.out, HST.out]; exact HOC.out.below (Below.refl _ _).drew, HBW2.out.drew⟩
            · have := HJ.out; simp [RowKit.intOf] <;> omega
          · rw [decide_eq_false hxo] at hhas hst
            simp only [Bool.not_false, Bool.true_and] at hst
            generalize fre R A ahead ((x : Nat) : Int) = f at *
            cases f with
            | true =>
              rw [if_pos rfl] at hst
              have HST := Lib.hid hst
              clear hst hxo
              go_wp2_with fail
              refine wp_region_held_drew (S := fun wz => wz.cell? ⟨ub, uo + j, none⟩ = some (.int .i64 ((x : Nat) : Int)) ∧ wz.cell? ⟨bx, 0, none⟩ = some (.slice xa R.length xc)) (by kernel_rfl) (hS.out _ (Below.refl _ _).drew) (fun hHeld => ?_)
              refine wpAnyH_take (i := 0) (v := ?_) rfl (by kernel_rfl) (by kernel_rfl) (by kernel_rfl) (fun _ _ _ h => h) (Or.inl ⟨by rfl, ?y0⟩) (by assumption) ?_
              case y0 => intro w hSw; (try dsimp only at hSw); go_simp; (try with_reducible rfl)
              (try simp only [Act.put, List.setIfInBounds_toArray, List.set_cons_zero, List.set_cons_succ, List.getElem_toArray, List.getElem_cons_zero, List.getElem_cons_succ])
              refine wpAnyH_take (i := 1) (v := ?_) rfl (by kernel_rfl) (by kernel_rfl) (by kernel_rfl) (fun _ _ _ h => h) (Or.inl ⟨by rfl, ?y1⟩) (by assumption) ?_
              case y1 => intro w hSw; (try dsimp only at hSw); go_simp; (try with_reducible rfl)
              (try simp only [Act.put, List.setIfInBounds_toArray, List.set_cons_zero, List.set_cons_succ, List.getElem_toArray, List.getElem_cons_zero, List.getElem_cons_succ])
              refine wpAnyH_take (i := 2) (v := ?_) rfl (by kernel_rfl) (by kernel_rfl) (by kernel_rfl) (fun _ _ _ h => h) (Or.inl ⟨by rfl, ?y2⟩) (by assumption) ?_
              case y2 => intro w hSw; (try dsimp only at hSw); go_simp; (try with_reducible rfl)
              (try simp only [Act.put, List.setIfInBounds_toArray, List.set_cons_zero, List.set_cons_succ, List.getElem_toArray, List.getElem_cons_zero, List.getElem_cons_succ])
              refine wpAnyH_take (i := 3) (v := ?_) rfl (by kernel_rfl) (by kernel_rfl) (by kernel_rfl) (fun _ _ _ h => h) (Or.inl ⟨by rfl, ?y3⟩) (by assumption) ?_
              case y3 => intro w hSw; (try dsimp only at hSw); go_simp; (try with_reducible rfl)
              (try simp only [Act.put, List.setIfInBounds_toArray, List.set_cons_zero, List.set_cons_succ, List.getElem_toArray, List.getElem_cons_zero, List.getElem_cons_succ])
              refine wpAnyH_take (i := 4) (v := ?_) rfl (by kernel_rfl) (by kernel_rfl) (by kernel_rfl) (fun _ _ _ h => h) (Or.inl ⟨by rfl, ?y4⟩) (by assumption) ?_
              case y4 => intro w hSw; (try dsimp only at hSw); go_simp; (try with_reducible rfl)
              (try simp only [Act.put, List.setIfInBounds_toArray, List.set_cons_zero, List.set_cons_succ, List.getElem_toArray, List.getElem_cons_zero, List.getElem_cons_succ])
              refine wpAnyH_ready (rs := [5]) (by kernel_rfl) (by simp) ?_
              refine AllReadyH.cons rfl (fun K hK => ?_) AllReadyH.nil
              go_simp
              refine hhas.mono ?_; clear hhas; rintro e y5 ⟨rfl, hy⟩
              replace hy := hy.symm
              subst hy
              refine hK.out _ _ (hS.out _ (Below.refl _ _).drew) (fun hHeld => ?_)
              clear hK K
              (try simp only [Act.put, List.setIfInBounds_toArray, List.set_cons_zero, List.set_cons_succ, List.getElem_toArray, List.getElem_cons_zero, List.getElem_cons_succ])
              refine wpAnyH_take (i := 6) (v := ?_) rfl (by kernel_rfl) (by kernel_rfl) (by kernel_rfl) (fun _ _ _ h => h) (Or.inl ⟨by rfl, ?y6⟩) (by assumption) ?_
              case y6 => intro w hSw; (try dsimp only at hSw); go_simp; (try with_reducible rfl)
              (try simp only [Act.put, List.setIfInBounds_toArray, List.set_cons_zero, List.set_cons_succ, List.getElem_toArray, List.getElem_cons_zero, List.getElem_cons_succ])
              refine wpAnyH_take (i := 7) (v := ?_) rfl (by kernel_rfl) (by kernel_rfl) (by kernel_rfl) (fun _ _ _ h => h) (Or.inl ⟨by rfl, ?y7⟩) (by assumption) ?_
              case y7 => intro w hSw; (try dsimp only at hSw); go_simp; (try with_reducible rfl)
              (try simp only [Act.put, List.setIfInBounds_toArray, List.set_cons_zero, List.set_cons_succ, List.getElem_toArray, List.getElem_cons_zero, List.getElem_cons_succ])
              refine wpAnyH_take (i := 8) (v := ?_) rfl (by kernel_rfl) (by kernel_rfl) (by kernel_rfl) (fun _ _ _ h => h) (Or.inl ⟨by rfl, ?y8⟩) (by assumption) ?_
              case y8 => intro w hSw; (try dsimp only at hSw); go_simp; (try with_reducible rfl)
              (try simp only [Act.put, List.setIfInBounds_toArray, List.set_cons_zero, List.set_cons_succ, List.getElem_toArray, List.getElem_cons_zero, List.getElem_cons_succ])
              refine wpAnyH_take (i := 9) (v := ?_) rfl (by kernel_rfl) (by kernel_rfl) (by kernel_rfl) (fun _ _ _ h => h) (Or.inl ⟨by rfl, ?y9⟩) (by assumption) ?_
              case y9 => intro w hSw; (try dsimp only at hSw); go_simp; (try with_reducible rfl)
              (try simp only [Act.put, List.setIfInBounds_toArray, List.set_cons_zero, List.set_cons_succ, List.getElem_toArray, List.getElem_cons_zero, List.getElem_cons_succ])
              refine wpAnyH_take (i := 10) (v := ?_) rfl (by kernel_rfl) (by kernel_rfl) (by kernel_rfl) (fun _ _ _ h => h) (Or.inl ⟨by rfl, ?y10⟩) (by assumption) ?_
              case y10 => intro w hSw; (try dsimp only at hSw); go_simp; (try with_reducible rfl)
              (try simp only [Act.put, List.setIfInBounds_toArray, List.set_cons_zero, List.set_cons_succ, List.getElem_toArray, List.getElem_cons_zero, List.getElem_cons_succ])
              refine wpAnyH_take (i := 11) (v := ?_) rfl (by kernel_rfl) (by kernel_rfl) (by kernel_rfl) (fun _ _ _ h => h) (Or.inl ⟨by rfl, ?y11⟩) (by assumption) ?_
              case y11 => intro w hSw; (try dsimp only at hSw); go_simp; (try with_reducible rfl)
              (try simp only [Act.put, List.setIfInBounds_toArray, List.set_cons_zero, List.set_cons_succ, List.getElem_toArray, List.getElem_cons_zero, List.getElem_cons_succ])
              refine wpAnyH_take (i := 12) (v := ?_) rfl (by kernel_rfl) (by kernel_rfl) (by kernel_rfl) (fun _ _ _ h => h) (Or.inl ⟨by rfl, ?y12⟩) (by assumption) ?_
              case y12 => intro w hSw; (try dsimp only at hSw); go_simp; (try with_reducible rfl)
              (try simp only [Act.put, List.setIfInBounds_toArray, List.set_cons_zero, List.set_cons_succ, List.getElem_toArray, List.getElem_cons_zero, List.getElem_cons_succ])
              refine wpAnyH_take (i := 13) (v := ?_) rfl (by kernel_rfl) (by kernel_rfl) (by kernel_rfl) (fun _ _ _ h => h) (Or.inl ⟨by rfl, ?y13⟩) (by assumption) ?_
              case y13 => intro w hSw; (try dsimp only at hSw); go_simp; (try with_reducible rfl)
              (try simp only [Act.put, List.setIfInBounds_toArray, List.set_cons_zero, List.set_cons_succ, List.getElem_toArray, List.getElem_cons_zero, List.getElem_cons_succ])
              refine wpAnyH_take (i := 14) (v := ?_) rfl (by kernel_rfl) (by kernel_rfl) (by kernel_rfl) (fun _ _ _ h => h) (Or.inl ⟨by rfl, ?y14⟩) (by assumption) ?_
              case y14 => intro w hSw; (try dsimp only at hSw); go_simp; (try with_reducible rfl)
              (try simp only [Act.put, List.setIfInBounds_toArray, List.set_cons_zero, List.set_cons_succ, List.getElem_toArray, List.getElem_cons_zero, List.getElem_cons_succ])
              refine wpAnyH_ready (rs := [15]) (by kernel_rfl) (by simp) ?_
              refine AllReadyH.cons rfl (fun K hK => ?_) AllReadyH.nil
              go_simp
              refine hfree.mono ?_; clear hfree; rintro e y6 ⟨rfl, hb6⟩
              have HB6 := Lib.hid hb6
              clear hb6
              refine hK.out _ _ (hS.out _ ((Below.refl _ _).drew.trans HB6.out)) (fun hHeld => ?_)
              clear hK K
              (try simp only [Act.put, List.setIfInBounds_toArray, List.set_cons_zero, List.set_cons_succ, List.getElem_toArray, List.getElem_cons_zero, List.getElem_cons_succ])
              refine wpAnyH_take (i := 16) (v := ?_) rfl (by kernel_rfl) (by kernel_rfl) (by kernel_rfl) (fun _ _ _ h => h) (Or.inl ⟨by rfl, ?y16⟩) (by assumption) ?_
              case y16 => intro w hSw; (try dsimp only at hSw); go_simp; (try with_reducible rfl)
              (try simp only [Act.put, List.setIfInBounds_toArray, List.set_cons_zero, List.set_cons_succ, List.getElem_toArray, List.getElem_cons_zero, List.getElem_cons_succ])
              refine wpAnyH_done (by kernel_rfl) ?_ _
              have hc6 := (hS.out _ ((Below.refl _ _).drew.trans HB6.out)).1
              have hdd := (Below.refl wr.heap.size wr).drew
              have h6b := hdd.trans (HB6.out.mono (Nat.le_refl _))
              have HO6 := Lib.hid (HOC.out.below h6b)
              have HB7 := Lib.hid (HBW2.out.trans (h6b.mono hsz))
              have hs6 := HB7.out.size
              clear hdd h6b
              go_wp2_with
                (at_builtin
                 refine wp_push y6 rfl (.tmp 42) (.tmp 47) rfl _ _ n1 ((x : Nat) : Int) rfl HO6.out rfl (by omega) hs6 ?_
                 intro v4 w4 o4 b4
                 have O4 := Lib.hid o4; have B4 := Lib.hid (HB7.out.trans b4)
                 clear o4 b4)
              go_roundw
              · exact ⟨j + 1, HJ.out, by go_num, by rw [HN0.out, HST.out]; exact O4.out, B4.out⟩
              · have := HJ.out; simp [RowKit.intOf] <;> omega
            | false =>
              rw [if_neg (by simp)] at hst
              have HST := Lib.hid hst
              clear hst hxo
              go_wp2_with fail
              refine wp_region_held_drew (S := fun wz => wz.cell? ⟨ub, uo + j, none⟩ = some (.int .i64 ((x : Nat) : Int)) ∧ wz.cell? ⟨bx, 0, none⟩ = some (.slice xa R.length xc)) (by kernel_rfl) (hS.out _ (Below.refl _ _).drew) (fun hHeld => ?_)
              refine wpAnyH_take (i := 0) (v := ?_) rfl (by kernel_rfl) (by kernel_rfl) (by kernel_rfl) (fun _ _ _ h => h) (Or.inl ⟨by rfl, ?y0⟩) (by assumption) ?_
              case y0 => intro w hSw; (try dsimp only at hSw); go_simp; (try with_reducible rfl)
              (try simp only [Act.put, List.setIfInBounds_toArray, List.set_cons_zero, List.set_cons_succ, List.getElem_toArray, List.getElem_cons_zero, List.getElem_cons_succ])
              refine wpAnyH_take (i := 1) (v := ?_) rfl (by kernel_rfl) (by kernel_rfl) (by kernel_rfl) (fun _ _ _ h => h) (Or.inl ⟨by rfl, ?y1⟩) (by assumption) ?_
              case y1 => intro w hSw; (try dsimp only at hSw); go_simp; (try with_reducible rfl)
              (try simp only [Act.put, List.setIfInBounds_toArray, List.set_cons_zero, List.set_cons_succ, List.getElem_toArray, List.getElem_cons_zero, List.getElem_cons_succ])
              refine wpAnyH_take (i := 2) (v := ?_) rfl (by kernel_rfl) (by kernel_rfl) (by kernel_rfl) (fun _ _ _ h => h) (Or.inl ⟨by rfl, ?y2⟩) (by assumption) ?_
              case y2 => intro w hSw; (try dsimp only at hSw); go_simp; (try with_reducible rfl)
              (try simp only [Act.put, List.setIfInBounds_toArray, List.set_cons_zero, List.set_cons_succ, List.getElem_toArray, List.getElem_cons_zero, List.getElem_cons_succ])
              refine wpAnyH_take (i := 3) (v := ?_) rfl (by kernel_rfl) (by kernel_rfl) (by kernel_rfl) (fun _ _ _ h => h) (Or.inl ⟨by rfl, ?y3⟩) (by assumption) ?_
              case y3 => intro w hSw; (try dsimp only at hSw); go_simp; (try with_reducible rfl)
              (try simp only [Act.put, List.setIfInBounds_toArray, List.set_cons_zero, List.set_cons_succ, List.getElem_toArray, List.getElem_cons_zero, List.getElem_cons_succ])
              refine wpAnyH_take (i := 4) (v := ?_) rfl (by kernel_rfl) (by kernel_rfl) (by kernel_rfl) (fun _ _ _ h => h) (Or.inl ⟨by rfl, ?y4⟩) (by assumption) ?_
              case y4 => intro w hSw; (try dsimp only at hSw); go_simp; (try with_reducible rfl)
              (try simp only [Act.put, List.setIfInBounds_toArray, List.set_cons_zero, List.set_cons_succ, List.getElem_toArray, List.getElem_cons_zero, List.getElem_cons_succ])
              refine wpAnyH_ready (rs := [5]) (by kernel_rfl) (by simp) ?_
              refine AllReadyH.cons rfl (fun K hK => ?_) AllReadyH.nil
              go_simp
              refine hhas.mono ?_; clear hhas; rintro e y5 ⟨rfl, hy⟩
              replace hy := hy.symm
              subst hy
              refine hK.out _ _ (hS.out _ (Below.refl _ _).drew) (fun hHeld => ?_)
              clear hK K
              (try simp only [Act.put, List.setIfInBounds_toArray, List.set_cons_zero, List.set_cons_succ, List.getElem_toArray, List.getElem_cons_zero, List.getElem_cons_succ])
              refine wpAnyH_take (i := 6) (v := ?_) rfl (by kernel_rfl) (by kernel_rfl) (by kernel_rfl) (fun _ _ _ h => h) (Or.inl ⟨by rfl, ?y6⟩) (by assumption) ?_
              case y6 => intro w hSw; (try dsimp only at hSw); go_simp; (try with_reducible rfl)
              (try simp only [Act.put, List.setIfInBounds_toArray, List.set_cons_zero, List.set_cons_succ, List.getElem_toArray, List.getElem_cons_zero, List.getElem_cons_succ])
              refine wpAnyH_take (i := 7) (v := ?_) rfl (by kernel_rfl) (by kernel_rfl) (by kernel_rfl) (fun _ _ _ h => h) (Or.inl ⟨by rfl, ?y7⟩) (by assumption) ?_
              case y7 => intro w hSw; (try dsimp only at hSw); go_simp; (try with_reducible rfl)
              (try simp only [Act.put, List.setIfInBounds_toArray, List.set_cons_zero, List.set_cons_succ, List.getElem_toArray, List.getElem_cons_zero, List.getElem_cons_succ])
              refine wpAnyH_take (i := 8) (v := ?_) rfl (by kernel_rfl) (by kernel_rfl) (by kernel_rfl) (fun _ _ _ h => h) (Or.inl ⟨by rfl, ?y8⟩) (by assumption) ?_
              case y8 => intro w hSw; (try dsimp only at hSw); go_simp; (try with_reducible rfl)
              (try simp only [Act.put, List.setIfInBounds_toArray, List.set_cons_zero, List.set_cons_succ, List.getElem_toArray, List.getElem_cons_zero, List.getElem_cons_succ])
              refine wpAnyH_take (i := 9) (v := ?_) rfl (by kernel_rfl) (by kernel_rfl) (by kernel_rfl) (fun _ _ _ h => h) (Or.inl ⟨by rfl, ?y9⟩) (by assumption) ?_
              case y9 => intro w hSw; (try dsimp only at hSw); go_simp; (try with_reducible rfl)
              (try simp only [Act.put, List.setIfInBounds_toArray, List.set_cons_zero, List.set_cons_succ, List.getElem_toArray, List.getElem_cons_zero, List.getElem_cons_succ])
              refine wpAnyH_take (i := 10) (v := ?_) rfl (by kernel_rfl) (by kernel_rfl) (by kernel_rfl) (fun _ _ _ h => h) (Or.inl ⟨by rfl, ?y10⟩) (by assumption) ?_
              case y10 => intro w hSw; (try dsimp only at hSw); go_simp; (try with_reducible rfl)
              (try simp only [Act.put, List.setIfInBounds_toArray, List.set_cons_zero, List.set_cons_succ, List.getElem_toArray, List.getElem_cons_zero, List.getElem_cons_succ])
              refine wpAnyH_take (i := 11) (v := ?_) rfl (by kernel_rfl) (by kernel_rfl) (by kernel_rfl) (fun _ _ _ h => h) (Or.inl ⟨by rfl, ?y11⟩) (by assumption) ?_
              case y11 => intro w hSw; (try dsimp only at hSw); go_simp; (try with_reducible rfl)
              (try simp only [Act.put, List.setIfInBounds_toArray, List.set_cons_zero, List.set_cons_succ, List.getElem_toArray, List.getElem_cons_zero, List.getElem_cons_succ])
              refine wpAnyH_take (i := 12) (v := ?_) rfl (by kernel_rfl) (by kernel_rfl) (by kernel_rfl) (fun _ _ _ h => h) (Or.inl ⟨by rfl, ?y12⟩) (by assumption) ?_
              case y12 => intro w hSw; (try dsimp only at hSw); go_simp; (try with_reducible rfl)
              (try simp only [Act.put, List.setIfInBounds_toArray, List.set_cons_zero, List.set_cons_succ, List.getElem_toArray, List.getElem_cons_zero, List.getElem_cons_succ])
              refine wpAnyH_take (i := 13) (v := ?_) rfl (by kernel_rfl) (by kernel_rfl) (by kernel_rfl) (fun _ _ _ h => h) (Or.inl ⟨by rfl, ?y13⟩) (by assumption) ?_
              case y13 => intro w hSw; (try dsimp only at hSw); go_simp; (try with_reducible rfl)
              (try simp only [Act.put, List.setIfInBounds_toArray, List.set_cons_zero, List.set_cons_succ, List.getElem_toArray, List.getElem_cons_zero, List.getElem_cons_succ])
              refine wpAnyH_take (i := 14) (v := ?_) rfl (by kernel_rfl) (by kernel_rfl) (by kernel_rfl) (fun _ _ _ h => h) (Or.inl ⟨by rfl, ?y14⟩) (by assumption) ?_
              case y14 => intro w hSw; (try dsimp only at hSw); go_simp; (try with_reducible rfl)
              (try simp only [Act.put, List.setIfInBounds_toArray, List.set_cons_zero, List.set_cons_succ, List.getElem_toArray, List.getElem_cons_zero, List.getElem_cons_succ])
              refine wpAnyH_ready (rs := [15]) (by kernel_rfl) (by simp) ?_
              refine AllReadyH.cons rfl (fun K hK => ?_) AllReadyH.nil
              go_simp
              refine hfree.mono ?_; clear hfree; rintro e y6 ⟨rfl, hb6⟩
              have HB6 := Lib.hid hb6
              clear hb6
              refine hK.out _ _ (hS.out _ ((Below.refl _ _).drew.trans HB6.out)) (fun hHeld => ?_)
              clear hK K
              (try simp only [Act.put, List.setIfInBounds_toArray, List.set_cons_zero, List.set_cons_succ, List.getElem_toArray, List.getElem_cons_zero, List.getElem_cons_succ])
              refine wpAnyH_take (i := 16) (v := ?_) rfl (by kernel_rfl) (by kernel_rfl) (by kernel_rfl) (fun _ _ _ h => h) (Or.inl ⟨by rfl, ?y16⟩) (by assumption) ?_
              case y16 => intro w hSw; (try dsimp only at hSw); go_simp; (try with_reducible rfl)
              (try simp only [Act.put, List.setIfInBounds_toArray, List.set_cons_zero, List.set_cons_succ, List.getElem_toArray, List.getElem_cons_zero, List.getElem_cons_succ])
              refine wpAnyH_done (by kernel_rfl) ?_ _
              have hdd := (Below.refl wr.heap.size wr).drew
              have h6b := hdd.trans (HB6.out.mono (Nat.le_refl _))
              have HO6 := Lib.hid (HOC.out.below h6b)
              have HB7 := Lib.hid (HBW2.out.trans (h6b.mono hsz))
              clear hdd h6b
              go_wp2_with fail
              go_roundw
              · exact ⟨j + 1, HJ.out, by go_num, by rw [HN0.out, HST.out]; exact HO6.out, HB7.out⟩
              · have := HJ.out; simp [RowKit.intOf] <;> omega
        · obtain rfl : j = A.length := by omega
          have hd0 : decide ((A.length : Int) < (A.length : Int)) = false := decide_eq_false (by omega)
          rw [wrk_all] at hoc hcl
          have hbw := HBW.out.trans (hby.mono HBW.out.size)
          have HBF := Lib.hid (HB2.out.trans (hbw.mono HB2.out.size))
          by_cases hw0 : wrow R A ahead = []
          · have HIO : Hid (IsWav R A rs) := ⟨HO.out, by rw [HFL.out]; exact hw0⟩
            rw [hw0] at hoc
            obtain ⟨ca, cc, rfl⟩ := (ownsRow_slc hoc).form
            have hcl0 : ([] : List Int).length = 0 := rfl
            clear hby hbw hk hj hw0 hoc hcl
            simp only [List.length_nil]
            go_wp2_with fail
            go_ret2
            rw [HSEL.out]
            exact ⟨_, rs, true, rfl, RowsR.nil _ _, HIO.out, ⟨fun _ => by rw [HFL.out]; exact HS.out, fun _ => rfl⟩, HBF.out⟩
          · have hWn : WavP R A (rs ++ [wrow R A ahead]) := by rw [← HFL.out]; exact HO.out.push (by rw [HFL.out]; exact hw0)
            have hin : ∀ z ∈ wrow R A ahead, InR z := fun z hz => by have := HA.out.1 z (List.mem_filter.1 hz).1; unfold gnd at this; unfold InR; omega
            have hpos : 0 < (wrow R A ahead).length := List.length_pos_iff.2 hw0
            have hfl : (rs ++ [wrow R A ahead]).flatten = ahead ++ wrow R A ahead := by rw [List.flatten_append, HFL.out]; simp
            have hwl := (sub_len (wav_nodup HA.out.2.1.nodup hWn) HA.out.2.1.nodup hWn.sub).1
            rw [hfl, List.length_append] at hwl
            obtain ⟨us, G, g1, g2, g3, g4, g5, g6⟩ := HRB.out.turn (Turn.of_below hby) (S' := fun j => (Value.slice oa ahead.length oc).ownBlock = some j) (fun j q => Or.inl q)
            generalize wrow R A ahead = cr at *
            obtain ⟨ca, cc, rfl⟩ := (ownsRow_slc hoc).form
            obtain ⟨ra, rc, rfl⟩ := (ownsRow_slc g1.1).form
            have hav := HOW.out.below hby
            have hcb : ∀ b, (Value.slice ca cr.length cc).ownBlock = some b → _ ≤ b ∧ b < wr.heap.size := fun b q => World.ownsRow.lt hoc b q
            have hal : ∀ b, (Value.slice oa ahead.length oc).ownBlock = some b → b < _ := fun b q => (World.ownsRow.lt HOW.out b q).2
            have hco : OwnO (fun j => (Value.slice oa ahead.length oc).ownBlock = some j) wr _ 3 1 (.slice ca cr.length cc) cr.length (cr.map (Value.int .i64)) := ⟨hoc, fun b q => ⟨(hcb b q).2, fun r => by have h9 := hal b r; have h8 := (hcb b q).1; omega⟩⟩
            have hoo : OwnO (fun j => (Value.slice oa ahead.length oc).ownBlock = some j ∨ G j ∨ (Value.slice ca cr.length cc).ownBlock = some j) wr w2.heap.size 23 1 (.slice ra rs.length rc) rs.length us := ⟨g1.1, fun b q => ⟨(g1.2 b q).1, fun r => by
              rcases r with r | r | r
              · exact (g1.2 b q).2 (Or.inl r)
              · exact (g1.2 b q).2 (Or.inr r)
              · have h9 := g3 b q; have h8 := (hcb b r).1; omega⟩⟩
            have hfoot : ∀ j, (Value.slice oa ahead.length oc).ownBlock = some j ∨ G j ∨ (Value.slice ca cr.length cc).ownBlock = some j → j < wr.heap.size := fun j q => by
              rcases q with q | q | q
              · exact (World.ownsRow.lt hav j q).2
              · have h9 := (g2 j q).2.2; omega
              · exact (hcb j q).2
            have hpush := fun (v4 : Value) (w4 : World) o4 t4 => RowsB.push (v4 := v4) (w4 := w4) hco hin HBW.out.size g1 g2 g3 g4 g5 g6 o4 t4
            have hav4 : ∀ w4, Turn (fun j => (Value.slice ra rs.length rc).ownBlock = some j) wr w4 → Own w4 w2.heap.size (.slice oa ahead.length oc) ahead := fun w4 t4 => own_turn hav t4 (fun b q r => (g1.2 b r).2 (Or.inl q))
            have HP := Lib.hid hpush
            have HAV := Lib.hid hav4
            have HOO := Lib.hid hoo
            have HWN := Lib.hid (And.intro hWn hfl)
            have HBWW := Lib.hid hbw
            have HCIN := Lib.hid hin
            have hbase : w2.heap.size ≤ wr.heap.size := hbw.size
            have HRL : Hid (∀ b, (Value.slice ra rs.length rc).ownBlock = some b → w2.heap.size ≤ b) := fun b q => (World.ownsRow.lt g1.1 b q).1
            have dn : ((cr.length : Int) == 0) = false := by simp; omega
            have dnn : (cr.length == 0) = false := by simp; omega
            clear hby hbw hk hj hw0 hoc hWn hin hfl g1 g2 g3 g4 g5 g6 hav hcb hal hco hoo hpush hav4 hcl
            go_wp2_with
              (at_builtin
               first
               | (refine wpList_push1 (w := wr) rfl (.tmp 52) (.tmp 54) 27 rfl (fun j => (Value.slice oa ahead.length oc).ownBlock = some j ∨ G j ∨ (Value.slice ca cr.length cc).ownBlock = some j) w2.heap.size 23 1 24 (.slice none 0 0) Try.underlying27 rows_info rfl (by decide) [.slice ca cr.length cc] rfl _ _ _ rfl HOO.out (by simp [Act.eval]) (by intro u hu; simp at hu; subst hu; rfl) (by omega) (by decide) hbase hfoot ?_
                  intro v4 w4 o4 t4 l4
                  have HRB4 := Lib.hid (HP.out v4 w4 o4 t4)
                  have HAV4 := Lib.hid (HAV.out w4 t4)
                  have HB4 := Lib.hid (HBWW.out.trans (t4.below (fun j q => HRL.out j q) hbase))
                  have HSL4 : Hid (SlC w4 (.slice ca cr.length cc) 1 cr.length (cr.map (Value.int .i64))) := ownsRow_slc HRB4.out.2.1
                  have hs4 : w2.heap.size ≤ w4.heap.size := HB4.out.size
                  clear o4 t4 l4)
               | (refine wpList_push (w := w4) rfl (.tmp 56) (.tmp 57) 23 rfl (fun _ => False) w2.heap.size 3 1 8 (.int .i64 0) Try.underlying23 int_info rfl (by decide) _ _ _ rfl ⟨HAV4.out, fun b q => ⟨(World.ownsRow.lt HAV4.out b q).2, id⟩⟩ _ cr.length (cr.map (Value.int .i64)) rfl HSL4.out (by intro u hu; obtain ⟨z, _, rfl⟩ := List.mem_map.1 hu; rfl) hpos (by omega) (by decide) hs4 (fun j q => q.elim) ?_
                  intro v5 w5 o5 t5 l5
                  have HRB5 := Lib.hid (HRB4.out.1.turn t5 (S' := fun j => v5.ownBlock = some j) (fun j q => by
                    rcases l5 with r | r
                    · exact Or.inl (r.symm.trans q)
                    · rw [r] at q; cases q; exact Or.inr (Nat.le_refl _)))
                  have HO5 := Lib.hid o5.1
                  have HB5 := Lib.hid (HB4.out.trans (t5.below (fun j q => (World.ownsRow.lt HAV4.out j q).1) hs4))
                  clear o5 t5 l5))
            go_roundg (gk - 1)
            case measure => omega
            case rel =>
              refine ⟨rs ++ [cr], by rw [HWN.out.2, List.length_append]; omega, HWN.out.1, HRB5.out.up, ?_, HB5.out⟩
              rw [HWN.out.2]
              have := HO5.out
              unfold Own
              rw [List.length_append, List.map_append]; exact this
    · have hfu := wav_full HA.out.2.1.nodup hO (by omega)
      have d0 : decide ((rs.flatten.length : Int) < (A.length : Int)) = false := decide_eq_false (by omega)
      have d0n : decide (rs.flatten.length < A.length) = false := decide_eq_false (by omega)
      have HF := Lib.hid (And.intro hfu (And.intro (hRB.rd.low HB2.out.size) (HB2.out.trans (hb.mono HB2.out.size))))
      clear hO ho hor hb hfu hoin hRB
      generalize hFE : rs.flatten = ahead at *
      have HFE := Lib.hid hFE
      clear hFE
      go_wp2_with fail
      go_ret2
      rw [HSEL.out]
      exact ⟨_, rs, false, rfl, HF.out.2.1, HF.out.1.1, ⟨fun q => (by cases q), fun ⟨x, h1, h2⟩ => absurd (by rw [HFE.out]; exact HF.out.1.2 x h1) h2⟩, HF.out.2.2⟩
end Go.Proofs.Ythaepdkeakmfaaa
