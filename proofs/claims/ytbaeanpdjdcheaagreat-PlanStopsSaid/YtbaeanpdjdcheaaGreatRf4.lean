/-
  The document's nodes that count, and whether all that a node reads stands in a row (gavelkindref14). The conditions: the document's graph; at most 10^6 numbers. The document's own Order (gavelkindref14). The conditions: the document's graph; at most 10^6 numbers.
-/
import Derived.Test.YtbaeanpdjdcheaaGreatOr3
import Derived.Test.YtbaeanpdjdcheaaGreatRefIg
import Derived.Test.YtbaeanpdjdcheaaGreatRefId0
namespace Go.Proofs.YtbaeanpdjdcheaaGreat
open Go.RowKit
set_option linter.unusedSimpArgs false
set_option linter.unusedVariables false

/- The document's nodes that count, and whether all that a node reads stands in a row (gavelkindref14). The conditions: the document's graph; at most 10^6 numbers. -/
theorem sel_take {n : Nat} {S : List Int} {k : Nat} (h : k < S.length) : (S.take (k + 1)).filter (fun x => decide (gnd n x)) = if gnd n (S.getD k 0) then (S.take k).filter (fun x => decide (gnd n x)) ++ [S.getD k 0] else (S.take k).filter (fun x => decide (gnd n x)) := by
  rw [List.take_succ_eq_append_getElem h, List.filter_append, getD_lt _ _ h]
  by_cases q : gnd n S[k]
  · rw [if_pos q]; simp [q]
  · rw [if_neg q]; simp [q]
set_option maxHeartbeats 2000000 in
set_option maxRecDepth 100000 in
theorem r14nodes {w : World} {x : Value} {R : List (List Int)} (h : GRef w x R) (hR : R.length ≤ 20000) (fa : Option Addr) (fc : Nat) (L : List Int) (hr : Reads w fa L) (hn : L.length ≤ 1000000) :
    Calls Tryz.prog 42 #[x, .slice fa L.length fc] w fun e w' => ∃ u, e = .returned u ∧ Own w' w.heap.size u (sel R.length L) ∧ Below w.heap.size w w' := by
  obtain ⟨xa, xc, us, rfl, _, _, _, _, _⟩ := h
  have hb0 := below1 w (.cells #[.slice xa R.length xc] 32)
  have hc0 : (w.alloc (.cells #[.slice xa R.length xc] 32)).cell? ⟨w.heap.size, 0, none⟩ = some (.slice xa R.length xc) := by simp [go_sem]
  have hri := r11rise fa fc L _ (hr.below hb0) (by omega)
  have hs0 : w.heap.size < (w.alloc (.cells #[.slice xa R.length xc] 32)).heap.size := by simp
  have hll : (rise L).length ≤ 1000000 := by
    have := rise_len L []
    unfold rise; simp at this ⊢; omega
  have HB0 := Lib.hid hb0
  clear hr hb0
  go_enter Tryz.func42, Tryz.ntmps42
  go_wp2_with fail
  generalize w.alloc (.cells #[.slice xa R.length xc] 32) = w1 at *
  refine hri.mono ?_; clear hri; rintro e w2 ⟨u, rfl, hu, hb2⟩
  have hc2 := (hb2.cell (p := ⟨w.heap.size, 0, none⟩) hs0).trans hc0
  obtain ⟨ua, uc, rfl, _, _, hur⟩ := hu
  have hB2 := HB0.out.trans (hb2.mono HB0.out.size)
  have HB2 := Lib.hid hB2
  have HU := Lib.hid hur
  have HC := Lib.hid hc2
  have hlt2 : w.heap.size < w2.heap.size := World.block_lt_of_cell? _ _ hc2
  have HE := Lib.hid (sel_rise R.length L)
  clear hc0 hb2 hur hB2 hc2 hs0 HB0
  generalize rise L = S at *
  go_wp2_with fail
  go_loopw [6, 7] (fun ov i wr => ∃ k : Nat, k ≤ S.length ∧ i = .int .i64 (k : Int) ∧ Own wr w2.heap.size ov ((S.take k).filter fun x => decide (gnd R.length x)) ∧ Below w2.heap.size w2 wr) (fun _ i _ => S.length - (RowKit.intOf i).toNat)
  case atStart => exact ⟨0, Nat.zero_le _, rfl, Own.nil _ _, Below.refl _ _⟩
  case round =>
    obtain ⟨k, hk, rfl, ho, hb⟩ := hrel
    have hc2 := (hb.cell (p := ⟨w.heap.size, 0, none⟩) hlt2).trans HC.out
    by_cases hlt : k < S.length
    · obtain ⟨b, off, rfl, hcx⟩ := (HU.out.below hb).2 k hlt
      have i0 : (0 : Int) ≤ (k : Int) := by omega
      have i1 : (k : Int) < (S.length : Int) := by omega
      have hst := sel_take (n := R.length) hlt
      have hlen : ((S.take k).filter fun x => decide (gnd R.length x)).length ≤ 1000000 := Nat.le_trans (List.length_filter_le _ _) (by rw [List.length_take]; omega)
      generalize (S.take k).filter (fun x => decide (gnd R.length x)) = Q at *
      generalize hQ2 : (S.take (k + 1)).filter (fun x => decide (gnd R.length x)) = Q2 at hst
      have HQ2 := Lib.hid hQ2
      clear hQ2
      have hsz := hb.size
      have HO := Lib.hid ho; have HB := Lib.hid hb
      generalize S.getD k 0 = z at *
      by_cases hg : gnd R.length z
      · rw [if_pos hg] at hst
        have d0 : decide ((0 : Int) ≤ z) = true := decide_eq_true hg.1
        have d1 : decide (z < (R.length : Int)) = true := decide_eq_true hg.2
        have HST := Lib.hid hst
        have HLT := Lib.hid hlt
        clear hst hg ho hb hlt hk
        go_wp2_with fail
        go_quiet (fail)
        go_wp2_with
          (at_builtin
           refine wp_push (wr.drewN nq) rfl (.tmp 31) (.tmp 36) rfl w2.heap.size _ Q z rfl (HO.out.below (below_drewN (Below.refl _ _) _)) rfl (by omega) hsz ?_
           intro v4 w4 o4 b4
           have O4 := Lib.hid o4; have B4 := Lib.hid ((below_drewN HB.out _).trans b4)
           clear o4 b4)
        go_roundw
        · exact ⟨k + 1, HLT.out, by go_num, by rw [HQ2.out, HST.out]; exact O4.out, B4.out⟩
        · have := HLT.out; simp [RowKit.intOf]; omega
      · rw [if_neg hg] at hst
        have HST := Lib.hid hst
        have HLT := Lib.hid hlt
        by_cases h0 : 0 ≤ z
        · have d0 : decide ((0 : Int) ≤ z) = true := decide_eq_true h0
          have d1 : decide (z < (R.length : Int)) = false := decide_eq_false fun q => hg ⟨h0, q⟩
          clear hst hg ho hb hlt hk h0
          go_wp2_with fail
          go_quiet (fail)
          go_wp2_with fail
          go_roundw
          · exact ⟨k + 1, HLT.out, by go_num, by rw [HQ2.out, HST.out]; exact HO.out.below (below_drewN (Below.refl _ _) _), below_drewN HB.out _⟩
          · have := HLT.out; simp [RowKit.intOf]; omega
        · have d0 : decide ((0 : Int) ≤ z) = false := decide_eq_false h0
          clear hst hg ho hb hlt hk h0
          go_wp2_with fail
          go_quiet (fail)
          go_wp2_with fail
          go_roundw
          · exact ⟨k + 1, HLT.out, by go_num, by rw [HQ2.out, HST.out]; exact HO.out.below (below_drewN (Below.refl _ _) _), below_drewN HB.out _⟩
          · have := HLT.out; simp [RowKit.intOf]; omega
    · obtain rfl : k = S.length := by omega
      rw [List.take_length] at ho
      rw [HE.out] at ho
      have hd0 : decide ((S.length : Int) < (S.length : Int)) = false := decide_eq_false (by omega)
      have HF := Lib.hid (And.intro (own_low ho HB2.out.size) (HB2.out.trans (hb.mono HB2.out.size)))
      clear ho hb hk hlt
      go_wp2_with fail
      go_ret
      exact ⟨_, rfl, HF.out.1, HF.out.2⟩
/-- Do the first k of a row of reads stand there? -/
theorem free_step {G A row : List Int} {k : Nat} (h : k < G.length) (h1 : ∀ x ∈ G.take k, x ∈ A → x ∈ row) (h2 : G.getD k 0 ∈ A → G.getD k 0 ∈ row) : ∀ x ∈ G.take (k + 1), x ∈ A → x ∈ row := fun x hx ha => by
  rw [List.take_succ_eq_append_getElem h] at hx
  rw [getD_lt _ _ h] at h2
  rcases List.mem_append.1 hx with q | q
  · exact h1 x q ha
  · rw [List.mem_singleton.1 q] at ha ⊢; exact h2 ha
set_option maxHeartbeats 2000000 in
set_option maxRecDepth 100000 in
theorem r14free {w : World} {x : Value} {R : List (List Int)} (h : GRef w x R) (hI : GrI R) {v : Nat} (hv : v < R.length) (aa ra : Option Addr) (ac rc : Nat) (A row : List Int) (hA : Reads w aa A) (hr : Reads w ra row) (hnA : A.length ≤ 1000000) (hnr : row.length ≤ 1000000) :
    Calls Tryz.prog 43 #[x, .int .i64 (v : Int), .slice aa A.length ac, .slice ra row.length rc] w fun e w' => e = .returned (.bool (fre R A row (v : Int))) ∧ Below w.heap.size w w' := by
  obtain ⟨xa, xc, us, rfl, h2, h3, h4, h5, h6⟩ := h
  obtain ⟨b, off, sa, sc, rfl, hcv, _, _, hrv⟩ := GRef.at h4 h5 h6 hv
  have hb0 := below1 w (.cells #[.slice (some ⟨b, off, none⟩) R.length xc] 32)
  have hc0 : (w.alloc (.cells #[.slice (some ⟨b, off, none⟩) R.length xc] 32)).cell? ⟨w.heap.size, 0, none⟩ = some (.slice (some ⟨b, off, none⟩) R.length xc) := by simp [go_sem]
  have hcv1 := (hb0.cell (World.block_lt_of_cell? _ _ hcv)).trans hcv
  have HRV := Lib.hid (hrv.below hb0)
  have HA := Lib.hid (hA.below hb0)
  have HR := Lib.hid (hr.below hb0)
  have i0 : (0 : Int) ≤ (v : Int) := by omega
  have i1 : (v : Int) < (R.length : Int) := by omega
  have hGl := hI.len v
  have hIh := hI.hi
  obtain ⟨q, hq⟩ : ∃ q, q = fre R A row (v : Int) := ⟨_, rfl⟩
  have hq2 := hq
  unfold fre at hq2
  rw [Int.toNat_natCast] at hq2
  rw [← hq]
  generalize gR R v = G at *
  have HQ := Lib.hid hq2
  have HB0 := Lib.hid hb0
  clear hrv hA hr hcv h2 h3 h4 h5 h6 hq hq2 hb0
  go_enter Tryz.func43, Tryz.ntmps43
  go_wp2_with fail
  generalize w.alloc (.cells #[.slice (some ⟨b, off, none⟩) R.length xc] 32) = w1 at *
  go_loopw [9] (fun i wr => ∃ k : Nat, k ≤ G.length ∧ i = .int .i64 (k : Int) ∧ (∀ x ∈ G.take k, x ∈ A → x ∈ row) ∧ wr = w1) (fun i _ => G.length - (RowKit.intOf i).toNat)
  case atStart => exact ⟨0, Nat.zero_le _, rfl, fun x hx => by simp at hx, rfl⟩
  case round =>
    obtain ⟨k, hk, rfl, hall, rfl⟩ := hrel
    by_cases hlt : k < G.length
    · obtain ⟨gb, go, rfl, hcx⟩ := HRV.out.2 k hlt
      have j0 : (0 : Int) ≤ (k : Int) := by omega
      have j1 : (k : Int) < (G.length : Int) := by omega
      have hA1 := has_any aa ac A (G.getD k 0) wr HA.out (by omega)
      have hR1 := has_any ra rc row (G.getD k 0) wr HR.out (by omega)
      have HST := Lib.hid (free_step hlt hall)
      have HNO : Hid (G.getD k 0 ∈ A → G.getD k 0 ∉ row → q = false) := fun q1 q2 => by
        rw [HQ.out]
        refine decide_eq_false fun q3 => q2 (q3 _ ?_ q1)
        rw [getD_lt _ _ hlt]; exact List.getElem_mem hlt
      generalize G.getD k 0 = z at *
      clear hall
      by_cases hzA : z ∈ A
      · rw [decide_eq_true hzA] at hA1
        by_cases hzR : z ∈ row
        · rw [decide_eq_true hzR] at hR1
          have HN := Lib.hid (HST.out fun _ => hzR)
          have HLT := Lib.hid hlt
          clear hzA hzR hlt hk
          go_wp2_with fail
          refine hA1.mono ?_; rintro e w2 ⟨rfl, rfl⟩
          go_wp2_with fail
          refine hR1.mono ?_; rintro e w2 ⟨rfl, rfl⟩
          go_wp2_with fail
          go_roundw
          · exact ⟨k + 1, HLT.out, by go_num, HN.out, by first | rfl | trivial⟩
          · have := HLT.out; simp [RowKit.intOf]; omega
        · rw [decide_eq_false hzR] at hR1
          have hqf := HNO.out hzA hzR
          subst hqf
          clear hzA hzR hlt hk
          go_wp2_with fail
          refine hA1.mono ?_; rintro e w2 ⟨rfl, rfl⟩
          go_wp2_with fail
          refine hR1.mono ?_; rintro e w2 ⟨rfl, rfl⟩
          go_wp2_with fail
          go_ret
          exact ⟨rfl, HB0.out⟩
      · rw [decide_eq_false hzA] at hA1
        have HN := Lib.hid (HST.out fun r => absurd r hzA)
        have HLT := Lib.hid hlt
        clear hzA hlt hk
        go_wp2_with fail
        refine hA1.mono ?_; rintro e w2 ⟨rfl, rfl⟩
        go_wp2_with fail
        go_roundw
        · exact ⟨k + 1, HLT.out, by go_num, HN.out, by first | rfl | trivial⟩
        · have := HLT.out; simp [RowKit.intOf]; omega
    · obtain rfl : k = G.length := by omega
      rw [List.take_length] at hall
      have hqt : q = true := by rw [HQ.out]; exact decide_eq_true hall
      subst hqt
      have hd0 : decide ((G.length : Int) < (G.length : Int)) = false := decide_eq_false (by omega)
      clear hall hk hlt
      go_wp2_with fail
      go_ret
      exact ⟨rfl, HB0.out⟩
/- The document's own Order (gavelkindref14). The conditions: the document's graph; at most 10^6 numbers. -/
section
variable {R : List (List Int)} {A out : List Int}
/-- The next one among those from place k on. -/
def nxk (R : List (List Int)) (A out : List Int) (k : Nat) : Int := ((A.drop k).find? (cand R A out)).getD (-1)
theorem nxk_step {j : Nat} (h : j < A.length) : nxk R A out j = if cand R A out (A.getD j 0) = true then A.getD j 0 else nxk R A out (j + 1) := by
  unfold nxk
  rw [drop_cons h, List.find?_cons]
  cases cand R A out (A.getD j 0) <;> simp
theorem nxk_top : nxk R A out A.length = -1 := by unfold nxk; rw [List.drop_length]; rfl
theorem nxk_all : nxk R A out 0 = (nxt R A out).getD (-1) := by unfold nxk nxt; rw [List.drop_zero]
theorem ord_full (hA : A.Nodup) (h : OrdP R A out) (hl : out.length = A.length) : IsOrd R A out ∧ ∀ x ∈ A, x ∈ out := by
  have hs := (sub_len h.nodup hA h.sub).2.1 hl
  refine ⟨⟨h, nxt_no fun y hy => ?_⟩, hs⟩
  cases hc : cand R A out y with
  | false => rfl
  | true => exact absurd (hs y hy) (cand_iff.1 hc).1
theorem ord_short (hA : A.Nodup) (h : OrdP R A out) (hl : out.length < A.length) : ∃ x ∈ A, x ∉ out := Classical.byContradiction fun q => by
  have := (sub_len h.nodup hA h.sub).2.2 fun x hx => Classical.byContradiction fun r => q ⟨x, hx, r⟩
  omega
theorem cand_eq {x : Int} : cand R A out x = (!decide (x ∈ out) && fre R A out x) := by
  unfold cand
  rw [decide_not]
end
set_option maxHeartbeats 4000000 in
set_option maxRecDepth 100000 in
theorem r14order {w : World} {x : Value} {R : List (List Int)} (h : GRef w x R) (hI : GrI R) (fa : Option Addr) (fc : Nat) (L : List Int) (hr : Reads w fa L) (hn : L.length ≤ 1000000) :
    Calls Tryz.prog 25 #[x, .slice fa L.length fc] w fun e w' => OrdAns e w w' R (sel R.length L) := by
  have hgx := h
  obtain ⟨xa, xc, us, rfl, _, _, _, _, _⟩ := h
  have hb0 := below1 w (.cells #[.slice xa R.length xc] 32)
  have hc0 : (w.alloc (.cells #[.slice xa R.length xc] 32)).cell? ⟨w.heap.size, 0, none⟩ = some (.slice xa R.length xc) := by simp [go_sem]
  have hIh := hI.hi
  have hno := r14nodes (hgx.below hb0) hIh fa fc L (hr.below hb0) hn
  have HG := Lib.hid (hgx.below hb0)
  have HB0 := Lib.hid hb0
  have HI := Lib.hid hI
  obtain ⟨bx, hbx⟩ : ∃ bx, bx = w.heap.size := ⟨_, rfl⟩
  clear hgx hr hb0 hI
  go_enter Tryz.func25, Tryz.ntmps25
  go_wp2_with fail
  have HBX := Lib.hid hbx
  rw [← hbx] at hc0 ⊢
  clear hbx
  generalize w.alloc (.cells #[.slice xa R.length xc] 32) = w1 at *
  refine hno.mono ?_; clear hno; rintro e w2 ⟨u, rfl, hu, hb2⟩
  have hAg : ∀ z ∈ sel R.length L, gnd R.length z := fun z hz => (mem_sel.1 hz).1
  have hAr := sel_rises R.length L
  generalize hsel : sel R.length L = A at *
  have HSEL := Lib.hid hsel
  clear hsel
  have hAin : ∀ z ∈ A, InR z := fun z hz => by have := hAg z hz; unfold gnd at this; unfold InR; omega
  have hAl : A.length ≤ R.length := nodup_len hAr.nodup hAg
  obtain ⟨ua, uc, rfl, _, hur⟩ := hu.reads hAin
  have hB2 := HB0.out.trans (hb2.mono HB0.out.size)
  have hc2 := (hb2.cell (p := ⟨bx, 0, none⟩) (World.block_lt_of_cell? _ _ hc0)).trans hc0
  have HG2 := Lib.hid (HG.out.below hb2)
  have HB2 := Lib.hid hB2
  have HU := Lib.hid hur
  have HC := Lib.hid hc2
  have HA := Lib.hid (And.intro hAg (And.intro hAr hAl))
  clear hu hb2 hB2 hur hc0 hc2 HG HB0 hAg hAr hAin
  go_wp2_with fail
  go_loopg [7] (A.length + 1) (fun g ov wr => ∃ out : List Int, A.length + 1 - out.length ≤ g ∧ OrdP R A out ∧ Own wr w2.heap.size ov out ∧ Below w2.heap.size w2 wr)
  case atStart => exact ⟨[], Nat.sub_le _ _, OrdP.nil, Own.nil _ _, Below.refl _ _⟩
  case round =>
    obtain ⟨out, hg, hO, ho, hb⟩ := hrel
    have hle := (sub_len hO.nodup HA.out.2.1.nodup hO.sub).1
    have hoin : ∀ z ∈ out, InR z := fun z hz => by have := HA.out.1 z (hO.sub z hz); unfold gnd at this; unfold InR; omega
    obtain ⟨oa, oc, rfl, _, hor⟩ := ho.reads hoin
    by_cases hlt : out.length < A.length
    · have d0 : decide ((out.length : Int) < (A.length : Int)) = true := decide_eq_true (by omega)
      have d0n : decide (out.length < A.length) = true := decide_eq_true hlt
      have HS := Lib.hid (ord_short HA.out.2.1.nodup hO hlt)
      have HO := Lib.hid hO
      have HOW := Lib.hid ho
      have HOR := Lib.hid hor
      have HBW := Lib.hid hb
      have e0 : wrap64 ((A.length : Int) - 1) = (A.length : Int) - 1 := by unfold wrap64; omega
      have HLT := Lib.hid hlt
      clear hO ho hor hb hlt hoin
      go_wp2_with fail
      go_loopw [8, 9] (fun nv iv wy => ∃ (k : Nat) (z : Int), k ≤ A.length ∧ z = (k : Int) - 1 ∧ iv = .int .i64 z ∧ nv = .int .i64 (nxk R A out k) ∧ Below wr.heap.size wr wy) (fun _ i _ => (RowKit.intOf i + 1).toNat)
      case atStart => exact ⟨A.length, _, Nat.le_refl _, rfl, rfl, by rw [nxk_top], Below.refl _ _⟩
      case round =>
        obtain ⟨k, z, hk, hz, rfl, rfl, hby⟩ := hrel
        have hsz := hby.size
        by_cases h0 : 0 ≤ z
        · obtain ⟨j, rfl⟩ := Int.eq_ofNat_of_zero_le h0
          obtain rfl : k = j + 1 := by omega
          have hj : j < A.length := by omega
          have hgx := HA.out.1 (A.getD j 0) (by rw [getD_lt _ _ hj]; exact List.getElem_mem hj)
          obtain ⟨x, hx⟩ : ∃ x : Nat, A.getD j 0 = ((x : Nat) : Int) := ⟨(A.getD j 0).toNat, by unfold gnd at hgx; omega⟩
          have hxl : x < R.length := by unfold gnd at hgx; omega
          have HBY := Lib.hid (HBW.out.trans (hby.mono HBW.out.size))
          obtain ⟨ub, uo, rfl, hcx⟩ := (HU.out.below HBY.out).2 j hj
          rw [hx] at hcx
          have hcb := (HBY.out.cell (p := ⟨bx, 0, none⟩) (World.block_lt_of_cell? _ _ HC.out)).trans HC.out
          have hS : Hid (∀ W', Below wr.heap.size wr W' → W'.cell? ⟨ub, uo + j, none⟩ = some (.int .i64 ((x : Nat) : Int)) ∧ W'.cell? ⟨bx, 0, none⟩ = some (.slice xa R.length xc)) := fun W' q => ⟨(q.cell (World.block_lt_of_cell? _ _ hcx)).trans hcx, (q.cell (World.block_lt_of_cell? _ _ hcb)).trans hcb⟩
          have hd := (Below.refl wr.heap.size wr).drew
          have hhas := has_any oa oc out ((x : Nat) : Int) wr.drew (HOR.out.below (hby.drew)) (by omega)
          have hfree := r14free (w := wr.drew) (HG2.out.below (HBY.out.drew)) HI.out hxl (some ⟨ub, uo, none⟩) oa uc oc A out (HU.out.below HBY.out.drew) (HOR.out.below (hby.drew)) (by omega) (by omega)
          have hst := nxk_step (R := R) (out := out) hj
          rw [hx, cand_eq] at hst
          have e1 : wrap64 ((j : Int) - 1) = (j : Int) - 1 := by unfold wrap64; omega
          have i0 : (0 : Int) ≤ (j : Int) := by omega
          have i1 : (j : Int) < (A.length : Int) := by omega
          have hkk := (Below.refl wr.heap.size wr).drew
          have HBW2 := Lib.hid hby
          generalize nxk R A out (j + 1) = n1 at *
          generalize hn0 : nxk R A out j = n0 at *
          have HN0 := Lib.hid hn0
          have HJ := Lib.hid hj
          clear hgx hx hcx hcb hz hk hn0 hby h0 hd
          by_cases hxo : ((x : Nat) : Int) ∈ out
          · rw [decide_eq_true hxo] at hhas hst
            simp only [Bool.not_true, Bool.false_and, Bool.false_eq_true, if_false] at hst
            have HST := Lib.hid hst
            clear hst hxo hfree
            go_wp2_with fail
            refine wp_region_held_drew (S := fun wz => wz.cell? ⟨ub, uo + j, none⟩ = some (.int .i64 ((x : Nat) : Int)) ∧ wz.cell? ⟨bx, 0, none⟩ = some (.slice xa R.length xc)) (by kernel_rfl) (hS.out _ (Below.refl _ _).drew) (fun hHeld => ?_)
            refine wpAnyH_take (i := 0) (v := ?_) rfl (by kernel_rfl) (by kernel_rfl) (by kernel_rfl) (fun _ _ _ h => h) (Or.inl ⟨by rfl, ?y0⟩) (by assumption) ?_
            case y0 => intro w hSw; (try dsimp only at hSw); go_simp; (try with_reducible rfl)
            (try simp only [Act.put, List.setIfInBounds_toArray, List.set_cons_zero, List.set_cons_succ, List.getElem_toArray, List.getElem_cons_zero, List.getElem_cons_succ])
            refine wpAnyH_take (i := 1) (v := ?_) rfl (by kernel_rfl) (by kernel_rfl) (by kernel_rfl) (fun _ _ _ h => h) (Or.inl ⟨by rfl, ?y1⟩) (by assumption) ?_
            case y1 => intro w hSw; (try dsimp only at hSw); go_simp; (try with_reducible rfl)
            (try simp only [Act.put, List.setIfInBounds_toArray, List.set_cons_zero, List.set_cons_succ, List.getElem_toArray, List.getElem_cons_zero, List.getElem_cons_succ])
            refine wpAnyH_take (i := 2) (v := ?_) rfl (by kernel_rfl) (by kernel_rfl) (by kernel_rfl) (fun _ _ _ h => h) (Or.inl ⟨by rfl, ?y2⟩) (by assumption) ?_
            case y2 => intro w hSw; (try dsimp only at hSw); go_simp; (try with_reducible rfl)
            (try simp only [Act.put, List.setIfInBounds_toArray, List.set_cons_zero, List.set_cons_succ, List.getElem_toArray, List.getElem_cons_zero, List.getElem_cons_succ])
            refine wpAnyH_take (i := 3) (v := ?_) rfl (by kernel_rfl) (by kernel_rfl) (by kernel_rfl) (fun _ _ _ h => h) (Or.inl ⟨by rfl, ?y3⟩) (by assumption) ?_
            case y3 => intro w hSw; (try dsimp only at hSw); go_simp; (try with_reducible rfl)
            (try simp only [Act.put, List.setIfInBounds_toArray, List.set_cons_zero, List.set_cons_succ, List.getElem_toArray, List.getElem_cons_zero, List.getElem_cons_succ])
            refine wpAnyH_take (i := 4) (v := ?_) rfl (by kernel_rfl) (by kernel_rfl) (by kernel_rfl) (fun _ _ _ h => h) (Or.inl ⟨by rfl, ?y4⟩) (by assumption) ?_
            case y4 => intro w hSw; (try dsimp only at hSw); go_simp; (try with_reducible rfl)
            (try simp only [Act.put, List.setIfInBounds_toArray, List.set_cons_zero, List.set_cons_succ, List.getElem_toArray, List.getElem_cons_zero, List.getElem_cons_succ])
            refine wpAnyH_ready (rs := [5]) (by kernel_rfl) (by simp) ?_
            refine AllReadyH.cons rfl (fun K hK => ?_) AllReadyH.nil
            go_simp
            refine hhas.mono ?_; clear hhas; rintro e y5 ⟨rfl, hy⟩
            replace hy := hy.symm
            subst hy
            refine hK.out _ _ (hS.out _ (Below.refl _ _).drew) (fun hHeld => ?_)
            clear hK K
            (try simp only [Act.put, List.setIfInBounds_toArray, List.set_cons_zero, List.set_cons_succ, List.getElem_toArray, List.getElem_cons_zero, List.getElem_cons_succ])
            refine wpAnyH_take (i := 6) (v := ?_) rfl (by kernel_rfl) (by kernel_rfl) (by kernel_rfl) (fun _ _ _ h => h) (Or.inl ⟨by rfl, ?y6⟩) (by assumption) ?_
            case y6 => intro w hSw; (try dsimp only at hSw); go_simp; (try with_reducible rfl)
            (try simp only [Act.put, List.setIfInBounds_toArray, List.set_cons_zero, List.set_cons_succ, List.getElem_toArray, List.getElem_cons_zero, List.getElem_cons_succ])
            refine wpAnyH_take (i := 7) (v := ?_) rfl (by kernel_rfl) (by kernel_rfl) (by kernel_rfl) (fun _ _ _ h => h) (Or.inl ⟨by rfl, ?y7⟩) (by assumption) ?_
            case y7 => intro w hSw; (try dsimp only at hSw); go_simp; (try with_reducible rfl)
            (try simp only [Act.put, List.setIfInBounds_toArray, List.set_cons_zero, List.set_cons_succ, List.getElem_toArray, List.getElem_cons_zero, List.getElem_cons_succ])
            refine wpAnyH_take (i := 8) (v := undef) rfl (by kernel_rfl) (by kernel_rfl) (by kernel_rfl) (fun _ _ _ h => h) (Or.inr ⟨by rfl, rfl⟩) (by assumption) ?_
            (try simp only [Act.put, List.setIfInBounds_toArray, List.set_cons_zero, List.set_cons_succ, List.getElem_toArray, List.getElem_cons_zero, List.getElem_cons_succ])
            refine wpAnyH_take (i := 9) (v := undef) rfl (by kernel_rfl) (by kernel_rfl) (by kernel_rfl) (fun _ _ _ h => h) (Or.inr ⟨by rfl, rfl⟩) (by assumption) ?_
            (try simp only [Act.put, List.setIfInBounds_toArray, List.set_cons_zero, List.set_cons_succ, List.getElem_toArray, List.getElem_cons_zero, List.getElem_cons_succ])
            refine wpAnyH_take (i := 10) (v := undef) rfl (by kernel_rfl) (by kernel_rfl) (by kernel_rfl) (fun _ _ _ h => h) (Or.inr ⟨by rfl, rfl⟩) (by assumption) ?_
            (try simp only [Act.put, List.setIfInBounds_toArray, List.set_cons_zero, List.set_cons_succ, List.getElem_toArray, List.getElem_cons_zero, List.getElem_cons_succ])
            refine wpAnyH_take (i := 11) (v := undef) rfl (by kernel_rfl) (by kernel_rfl) (by kernel_rfl) (fun _ _ _ h => h) (Or.inr ⟨by rfl, rfl⟩) (by assumption) ?_
            (try simp only [Act.put, List.setIfInBounds_toArray, List.set_cons_zero, List.set_cons_succ, List.getElem_toArray, List.getElem_cons_zero, List.getElem_cons_succ])
            refine wpAnyH_take (i := 12) (v := undef) rfl (by kernel_rfl) (by kernel_rfl) (by kernel_rfl) (fun _ _ _ h => h) (Or.inr ⟨by rfl, rfl⟩) (by assumption) ?_
            (try simp only [Act.put, List.setIfInBounds_toArray, List.set_cons_zero, List.set_cons_succ, List.getElem_toArray, List.getElem_cons_zero, List.getElem_cons_succ])
            refine wpAnyH_take (i := 13) (v := undef) rfl (by kernel_rfl) (by kernel_rfl) (by kernel_rfl) (fun _ _ _ h => h) (Or.inr ⟨by rfl, rfl⟩) (by assumption) ?_
            (try simp only [Act.put, List.setIfInBounds_toArray, List.set_cons_zero, List.set_cons_succ, List.getElem_toArray, List.getElem_cons_zero, List.getElem_cons_succ])
            refine wpAnyH_take (i := 14) (v := undef) rfl (by kernel_rfl) (by kernel_rfl) (by kernel_rfl) (fun _ _ _ h => h) (Or.inr ⟨by rfl, rfl⟩) (by assumption) ?_
            (try simp only [Act.put, List.setIfInBounds_toArray, List.set_cons_zero, List.set_cons_succ, List.getElem_toArray, List.getElem_cons_zero, List.getElem_cons_succ])
            refine wpAnyH_take (i := 15) (v := undef) rfl (by kernel_rfl) (by kernel_rfl) (by kernel_rfl) (fun _ _ _ h => h) (Or.inr ⟨by rfl, rfl⟩) (by assumption) ?_
            (try simp only [Act.put, List.setIfInBounds_toArray, List.set_cons_zero, List.set_cons_succ, List.getElem_toArray, List.getElem_cons_zero, List.getElem_cons_succ])
            refine wpAnyH_take (i := 16) (v := ?_) rfl (by kernel_rfl) (by kernel_rfl) (by kernel_rfl) (fun _ _ _ h => h) (Or.inl ⟨by rfl, ?y16⟩) (by assumption) ?_
            case y16 => intro w hSw; (try dsimp only at hSw); go_simp; (try with_reducible rfl)
            (try simp only [Act.put, List.setIfInBounds_toArray, List.set_cons_zero, List.set_cons_succ, List.getElem_toArray, List.getElem_cons_zero, List.getElem_cons_succ])
            refine wpAnyH_done (by kernel_rfl) ?_ _
            go_wp2_with fail
            go_roundw
            · exact ⟨j, _, by have := HJ.out; omega, rfl, rfl, by rw [HN0.out, HST.out], HBW2.out.drew⟩
            · simp [RowKit.intOf] <;> omega
          · rw [decide_eq_false hxo] at hhas hst
            simp only [Bool.not_false, Bool.true_and] at hst
            generalize fre R A out ((x : Nat) : Int) = f at *
            cases f with
            | true =>
              rw [if_pos rfl] at hst
              have HST := Lib.hid hst
              clear hst hxo
              go_wp2_with fail
              refine wp_region_held_drew (S := fun wz => wz.cell? ⟨ub, uo + j, none⟩ = some (.int .i64 ((x : Nat) : Int)) ∧ wz.cell? ⟨bx, 0, none⟩ = some (.slice xa R.length xc)) (by kernel_rfl) (hS.out _ (Below.refl _ _).drew) (fun hHeld => ?_)
              refine wpAnyH_take (i := 0) (v := ?_) rfl (by kernel_rfl) (by kernel_rfl) (by kernel_rfl) (fun _ _ _ h => h) (Or.inl ⟨by rfl, ?y0⟩) (by assumption) ?_
              case y0 => intro w hSw; (try dsimp only at hSw); go_simp; (try with_reducible rfl)
              (try simp only [Act.put, List.setIfInBounds_toArray, List.set_cons_zero, List.set_cons_succ, List.getElem_toArray, List.getElem_cons_zero, List.getElem_cons_succ])
              refine wpAnyH_take (i := 1) (v := ?_) rfl (by kernel_rfl) (by kernel_rfl) (by kernel_rfl) (fun _ _ _ h => h) (Or.inl ⟨by rfl, ?y1⟩) (by assumption) ?_
              case y1 => intro w hSw; (try dsimp only at hSw); go_simp; (try with_reducible rfl)
              (try simp only [Act.put, List.setIfInBounds_toArray, List.set_cons_zero, List.set_cons_succ, List.getElem_toArray, List.getElem_cons_zero, List.getElem_cons_succ])
              refine wpAnyH_take (i := 2) (v := ?_) rfl (by kernel_rfl) (by kernel_rfl) (by kernel_rfl) (fun _ _ _ h => h) (Or.inl ⟨by rfl, ?y2⟩) (by assumption) ?_
              case y2 => intro w hSw; (try dsimp only at hSw); go_simp; (try with_reducible rfl)
              (try simp only [Act.put, List.setIfInBounds_toArray, List.set_cons_zero, List.set_cons_succ, List.getElem_toArray, List.getElem_cons_zero, List.getElem_cons_succ])
              refine wpAnyH_take (i := 3) (v := ?_) rfl (by kernel_rfl) (by kernel_rfl) (by kernel_rfl) (fun _ _ _ h => h) (Or.inl ⟨by rfl, ?y3⟩) (by assumption) ?_
              case y3 => intro w hSw; (try dsimp only at hSw); go_simp; (try with_reducible rfl)
              (try simp only [Act.put, List.setIfInBounds_toArray, List.set_cons_zero, List.set_cons_succ, List.getElem_toArray, List.getElem_cons_zero, List.getElem_cons_succ])
              refine wpAnyH_take (i := 4) (v := ?_) rfl (by kernel_rfl) (by kernel_rfl) (by kernel_rfl) (fun _ _ _ h => h) (Or.inl ⟨by rfl, ?y4⟩) (by assumption) ?_
              case y4 => intro w hSw; (try dsimp only at hSw); go_simp; (try with_reducible rfl)
              (try simp only [Act.put, List.setIfInBounds_toArray, List.set_cons_zero, List.set_cons_succ, List.getElem_toArray, List.getElem_cons_zero, List.getElem_cons_succ])
              refine wpAnyH_ready (rs := [5]) (by kernel_rfl) (by simp) ?_
              refine AllReadyH.cons rfl (fun K hK => ?_) AllReadyH.nil
              go_simp
              refine hhas.mono ?_; clear hhas; rintro e y5 ⟨rfl, hy⟩
              replace hy := hy.symm
              subst hy
              refine hK.out _ _ (hS.out _ (Below.refl _ _).drew) (fun hHeld => ?_)
              clear hK K
              (try simp only [Act.put, List.setIfInBounds_toArray, List.set_cons_zero, List.set_cons_succ, List.getElem_toArray, List.getElem_cons_zero, List.getElem_cons_succ])
              refine wpAnyH_take (i := 6) (v := ?_) rfl (by kernel_rfl) (by kernel_rfl) (by kernel_rfl) (fun _ _ _ h => h) (Or.inl ⟨by rfl, ?y6⟩) (by assumption) ?_
              case y6 => intro w hSw; (try dsimp only at hSw); go_simp; (try with_reducible rfl)
              (try simp only [Act.put, List.setIfInBounds_toArray, List.set_cons_zero, List.set_cons_succ, List.getElem_toArray, List.getElem_cons_zero, List.getElem_cons_succ])
              refine wpAnyH_take (i := 7) (v := ?_) rfl (by kernel_rfl) (by kernel_rfl) (by kernel_rfl) (fun _ _ _ h => h) (Or.inl ⟨by rfl, ?y7⟩) (by assumption) ?_
              case y7 => intro w hSw; (try dsimp only at hSw); go_simp; (try with_reducible rfl)
              (try simp only [Act.put, List.setIfInBounds_toArray, List.set_cons_zero, List.set_cons_succ, List.getElem_toArray, List.getElem_cons_zero, List.getElem_cons_succ])
              refine wpAnyH_take (i := 8) (v := ?_) rfl (by kernel_rfl) (by kernel_rfl) (by kernel_rfl) (fun _ _ _ h => h) (Or.inl ⟨by rfl, ?y8⟩) (by assumption) ?_
              case y8 => intro w hSw; (try dsimp only at hSw); go_simp; (try with_reducible rfl)
              (try simp only [Act.put, List.setIfInBounds_toArray, List.set_cons_zero, List.set_cons_succ, List.getElem_toArray, List.getElem_cons_zero, List.getElem_cons_succ])
              refine wpAnyH_take (i := 9) (v := ?_) rfl (by kernel_rfl) (by kernel_rfl) (by kernel_rfl) (fun _ _ _ h => h) (Or.inl ⟨by rfl, ?y9⟩) (by assumption) ?_
              case y9 => intro w hSw; (try dsimp only at hSw); go_simp; (try with_reducible rfl)
              (try simp only [Act.put, List.setIfInBounds_toArray, List.set_cons_zero, List.set_cons_succ, List.getElem_toArray, List.getElem_cons_zero, List.getElem_cons_succ])
              refine wpAnyH_take (i := 10) (v := ?_) rfl (by kernel_rfl) (by kernel_rfl) (by kernel_rfl) (fun _ _ _ h => h) (Or.inl ⟨by rfl, ?y10⟩) (by assumption) ?_
              case y10 => intro w hSw; (try dsimp only at hSw); go_simp; (try with_reducible rfl)
              (try simp only [Act.put, List.setIfInBounds_toArray, List.set_cons_zero, List.set_cons_succ, List.getElem_toArray, List.getElem_cons_zero, List.getElem_cons_succ])
              refine wpAnyH_take (i := 11) (v := ?_) rfl (by kernel_rfl) (by kernel_rfl) (by kernel_rfl) (fun _ _ _ h => h) (Or.inl ⟨by rfl, ?y11⟩) (by assumption) ?_
              case y11 => intro w hSw; (try dsimp only at hSw); go_simp; (try with_reducible rfl)
              (try simp only [Act.put, List.setIfInBounds_toArray, List.set_cons_zero, List.set_cons_succ, List.getElem_toArray, List.getElem_cons_zero, List.getElem_cons_succ])
              refine wpAnyH_take (i := 12) (v := ?_) rfl (by kernel_rfl) (by kernel_rfl) (by kernel_rfl) (fun _ _ _ h => h) (Or.inl ⟨by rfl, ?y12⟩) (by assumption) ?_
              case y12 => intro w hSw; (try dsimp only at hSw); go_simp; (try with_reducible rfl)
              (try simp only [Act.put, List.setIfInBounds_toArray, List.set_cons_zero, List.set_cons_succ, List.getElem_toArray, List.getElem_cons_zero, List.getElem_cons_succ])
              refine wpAnyH_take (i := 13) (v := ?_) rfl (by kernel_rfl) (by kernel_rfl) (by kernel_rfl) (fun _ _ _ h => h) (Or.inl ⟨by rfl, ?y13⟩) (by assumption) ?_
              case y13 => intro w hSw; (try dsimp only at hSw); go_simp; (try with_reducible rfl)
              (try simp only [Act.put, List.setIfInBounds_toArray, List.set_cons_zero, List.set_cons_succ, List.getElem_toArray, List.getElem_cons_zero, List.getElem_cons_succ])
              refine wpAnyH_take (i := 14) (v := ?_) rfl (by kernel_rfl) (by kernel_rfl) (by kernel_rfl) (fun _ _ _ h => h) (Or.inl ⟨by rfl, ?y14⟩) (by assumption) ?_
              case y14 => intro w hSw; (try dsimp only at hSw); go_simp; (try with_reducible rfl)
              (try simp only [Act.put, List.setIfInBounds_toArray, List.set_cons_zero, List.set_cons_succ, List.getElem_toArray, List.getElem_cons_zero, List.getElem_cons_succ])
              refine wpAnyH_ready (rs := [15]) (by kernel_rfl) (by simp) ?_
              refine AllReadyH.cons rfl (fun K hK => ?_) AllReadyH.nil
              go_simp
              refine hfree.mono ?_; clear hfree; rintro e y6 ⟨rfl, hb6⟩
              have HB6 := Lib.hid hb6
              clear hb6
              refine hK.out _ _ (hS.out _ ((Below.refl _ _).drew.trans HB6.out)) (fun hHeld => ?_)
              clear hK K
              (try simp only [Act.put, List.setIfInBounds_toArray, List.set_cons_zero, List.set_cons_succ, List.getElem_toArray, List.getElem_cons_zero, List.getElem_cons_succ])
              refine wpAnyH_take (i := 16) (v := ?_) rfl (by kernel_rfl) (by kernel_rfl) (by kernel_rfl) (fun _ _ _ h => h) (Or.inl ⟨by rfl, ?y16⟩) (by assumption) ?_
              case y16 => intro w hSw; (try dsimp only at hSw); go_simp; (try with_reducible rfl)
              (try simp only [Act.put, List.setIfInBounds_toArray, List.set_cons_zero, List.set_cons_succ, List.getElem_toArray, List.getElem_cons_zero, List.getElem_cons_succ])
              refine wpAnyH_done (by kernel_rfl) ?_ _
              have hc6 := (hS.out _ ((Below.refl _ _).drew.trans HB6.out)).1
              go_wp2_with fail
              go_roundw
              · exact ⟨j, _, by have := HJ.out; omega, rfl, rfl, by rw [HN0.out, HST.out], (HBW2.out.drew).trans (HB6.out.mono (by have := HBW2.out.size; exact this))⟩
              · simp [RowKit.intOf] <;> omega
            | false =>
              rw [if_neg (by simp)] at hst
              have HST := Lib.hid hst
              clear hst hxo
              go_wp2_with fail
              refine wp_region_held_drew (S := fun wz => wz.cell? ⟨ub, uo + j, none⟩ = some (.int .i64 ((x : Nat) : Int)) ∧ wz.cell? ⟨bx, 0, none⟩ = some (.slice xa R.length xc)) (by kernel_rfl) (hS.out _ (Below.refl _ _).drew) (fun hHeld => ?_)
              refine wpAnyH_take (i := 0) (v := ?_) rfl (by kernel_rfl) (by kernel_rfl) (by kernel_rfl) (fun _ _ _ h => h) (Or.inl ⟨by rfl, ?y0⟩) (by assumption) ?_
              case y0 => intro w hSw; (try dsimp only at hSw); go_simp; (try with_reducible rfl)
              (try simp only [Act.put, List.setIfInBounds_toArray, List.set_cons_zero, List.set_cons_succ, List.getElem_toArray, List.getElem_cons_zero, List.getElem_cons_succ])
              refine wpAnyH_take (i := 1) (v := ?_) rfl (by kernel_rfl) (by kernel_rfl) (by kernel_rfl) (fun _ _ _ h => h) (Or.inl ⟨by rfl, ?y1⟩) (by assumption) ?_
              case y1 => intro w hSw; (try dsimp only at hSw); go_simp; (try with_reducible rfl)
              (try simp only [Act.put, List.setIfInBounds_toArray, List.set_cons_zero, List.set_cons_succ, List.getElem_toArray, List.getElem_cons_zero, List.getElem_cons_succ])
              refine wpAnyH_take (i := 2) (v := ?_) rfl (by kernel_rfl) (by kernel_rfl) (by kernel_rfl) (fun _ _ _ h => h) (Or.inl ⟨by rfl, ?y2⟩) (by assumption) ?_
              case y2 => intro w hSw; (try dsimp only at hSw); go_simp; (try with_reducible rfl)
              (try simp only [Act.put, List.setIfInBounds_toArray, List.set_cons_zero, List.set_cons_succ, List.getElem_toArray, List.getElem_cons_zero, List.getElem_cons_succ])
              refine wpAnyH_take (i := 3) (v := ?_) rfl (by kernel_rfl) (by kernel_rfl) (by kernel_rfl) (fun _ _ _ h => h) (Or.inl ⟨by rfl, ?y3⟩) (by assumption) ?_
              case y3 => intro w hSw; (try dsimp only at hSw); go_simp; (try with_reducible rfl)
              (try simp only [Act.put, List.setIfInBounds_toArray, List.set_cons_zero, List.set_cons_succ, List.getElem_toArray, List.getElem_cons_zero, List.getElem_cons_succ])
              refine wpAnyH_take (i := 4) (v := ?_) rfl (by kernel_rfl) (by kernel_rfl) (by kernel_rfl) (fun _ _ _ h => h) (Or.inl ⟨by rfl, ?y4⟩) (by assumption) ?_
              case y4 => intro w hSw; (try dsimp only at hSw); go_simp; (try with_reducible rfl)
              (try simp only [Act.put, List.setIfInBounds_toArray, List.set_cons_zero, List.set_cons_succ, List.getElem_toArray, List.getElem_cons_zero, List.getElem_cons_succ])
              refine wpAnyH_ready (rs := [5]) (by kernel_rfl) (by simp) ?_
              refine AllReadyH.cons rfl (fun K hK => ?_) AllReadyH.nil
              go_simp
              refine hhas.mono ?_; clear hhas; rintro e y5 ⟨rfl, hy⟩
              replace hy := hy.symm
              subst hy
              refine hK.out _ _ (hS.out _ (Below.refl _ _).drew) (fun hHeld => ?_)
              clear hK K
              (try simp only [Act.put, List.setIfInBounds_toArray, List.set_cons_zero, List.set_cons_succ, List.getElem_toArray, List.getElem_cons_zero, List.getElem_cons_succ])
              refine wpAnyH_take (i := 6) (v := ?_) rfl (by kernel_rfl) (by kernel_rfl) (by kernel_rfl) (fun _ _ _ h => h) (Or.inl ⟨by rfl, ?y6⟩) (by assumption) ?_
              case y6 => intro w hSw; (try dsimp only at hSw); go_simp; (try with_reducible rfl)
              (try simp only [Act.put, List.setIfInBounds_toArray, List.set_cons_zero, List.set_cons_succ, List.getElem_toArray, List.getElem_cons_zero, List.getElem_cons_succ])
              refine wpAnyH_take (i := 7) (v := ?_) rfl (by kernel_rfl) (by kernel_rfl) (by kernel_rfl) (fun _ _ _ h => h) (Or.inl ⟨by rfl, ?y7⟩) (by assumption) ?_
              case y7 => intro w hSw; (try dsimp only at hSw); go_simp; (try with_reducible rfl)
              (try simp only [Act.put, List.setIfInBounds_toArray, List.set_cons_zero, List.set_cons_succ, List.getElem_toArray, List.getElem_cons_zero, List.getElem_cons_succ])
              refine wpAnyH_take (i := 8) (v := ?_) rfl (by kernel_rfl) (by kernel_rfl) (by kernel_rfl) (fun _ _ _ h => h) (Or.inl ⟨by rfl, ?y8⟩) (by assumption) ?_
              case y8 => intro w hSw; (try dsimp only at hSw); go_simp; (try with_reducible rfl)
              (try simp only [Act.put, List.setIfInBounds_toArray, List.set_cons_zero, List.set_cons_succ, List.getElem_toArray, List.getElem_cons_zero, List.getElem_cons_succ])
              refine wpAnyH_take (i := 9) (v := ?_) rfl (by kernel_rfl) (by kernel_rfl) (by kernel_rfl) (fun _ _ _ h => h) (Or.inl ⟨by rfl, ?y9⟩) (by assumption) ?_
              case y9 => intro w hSw; (try dsimp only at hSw); go_simp; (try with_reducible rfl)
              (try simp only [Act.put, List.setIfInBounds_toArray, List.set_cons_zero, List.set_cons_succ, List.getElem_toArray, List.getElem_cons_zero, List.getElem_cons_succ])
              refine wpAnyH_take (i := 10) (v := ?_) rfl (by kernel_rfl) (by kernel_rfl) (by kernel_rfl) (fun _ _ _ h => h) (Or.inl ⟨by rfl, ?y10⟩) (by assumption) ?_
              case y10 => intro w hSw; (try dsimp only at hSw); go_simp; (try with_reducible rfl)
              (try simp only [Act.put, List.setIfInBounds_toArray, List.set_cons_zero, List.set_cons_succ, List.getElem_toArray, List.getElem_cons_zero, List.getElem_cons_succ])
              refine wpAnyH_take (i := 11) (v := ?_) rfl (by kernel_rfl) (by kernel_rfl) (by kernel_rfl) (fun _ _ _ h => h) (Or.inl ⟨by rfl, ?y11⟩) (by assumption) ?_
              case y11 => intro w hSw; (try dsimp only at hSw); go_simp; (try with_reducible rfl)
              (try simp only [Act.put, List.setIfInBounds_toArray, List.set_cons_zero, List.set_cons_succ, List.getElem_toArray, List.getElem_cons_zero, List.getElem_cons_succ])
              refine wpAnyH_take (i := 12) (v := ?_) rfl (by kernel_rfl) (by kernel_rfl) (by kernel_rfl) (fun _ _ _ h => h) (Or.inl ⟨by rfl, ?y12⟩) (by assumption) ?_
              case y12 => intro w hSw; (try dsimp only at hSw); go_simp; (try with_reducible rfl)
              (try simp only [Act.put, List.setIfInBounds_toArray, List.set_cons_zero, List.set_cons_succ, List.getElem_toArray, List.getElem_cons_zero, List.getElem_cons_succ])
              refine wpAnyH_take (i := 13) (v := ?_) rfl (by kernel_rfl) (by kernel_rfl) (by kernel_rfl) (fun _ _ _ h => h) (Or.inl ⟨by rfl, ?y13⟩) (by assumption) ?_
              case y13 => intro w hSw; (try dsimp only at hSw); go_simp; (try with_reducible rfl)
              (try simp only [Act.put, List.setIfInBounds_toArray, List.set_cons_zero, List.set_cons_succ, List.getElem_toArray, List.getElem_cons_zero, List.getElem_cons_succ])
              refine wpAnyH_take (i := 14) (v := ?_) rfl (by kernel_rfl) (by kernel_rfl) (by kernel_rfl) (fun _ _ _ h => h) (Or.inl ⟨by rfl, ?y14⟩) (by assumption) ?_
              case y14 => intro w hSw; (try dsimp only at hSw); go_simp; (try with_reducible rfl)
              (try simp only [Act.put, List.setIfInBounds_toArray, List.set_cons_zero, List.set_cons_succ, List.getElem_toArray, List.getElem_cons_zero, List.getElem_cons_succ])
              refine wpAnyH_ready (rs := [15]) (by kernel_rfl) (by simp) ?_
              refine AllReadyH.cons rfl (fun K hK => ?_) AllReadyH.nil
              go_simp
              refine hfree.mono ?_; clear hfree; rintro e y6 ⟨rfl, hb6⟩
              have HB6 := Lib.hid hb6
              clear hb6
              refine hK.out _ _ (hS.out _ ((Below.refl _ _).drew.trans HB6.out)) (fun hHeld => ?_)
              clear hK K
              (try simp only [Act.put, List.setIfInBounds_toArray, List.set_cons_zero, List.set_cons_succ, List.getElem_toArray, List.getElem_cons_zero, List.getElem_cons_succ])
              refine wpAnyH_take (i := 16) (v := ?_) rfl (by kernel_rfl) (by kernel_rfl) (by kernel_rfl) (fun _ _ _ h => h) (Or.inl ⟨by rfl, ?y16⟩) (by assumption) ?_
              case y16 => intro w hSw; (try dsimp only at hSw); go_simp; (try with_reducible rfl)
              (try simp only [Act.put, List.setIfInBounds_toArray, List.set_cons_zero, List.set_cons_succ, List.getElem_toArray, List.getElem_cons_zero, List.getElem_cons_succ])
              refine wpAnyH_done (by kernel_rfl) ?_ _
              go_wp2_with fail
              go_roundw
              · exact ⟨j, _, by have := HJ.out; omega, rfl, rfl, by rw [HN0.out, HST.out], (HBW2.out.drew).trans (HB6.out.mono (by have := HBW2.out.size; exact this))⟩
              · simp [RowKit.intOf] <;> omega
        · obtain rfl : k = 0 := by omega
          obtain rfl : z = -1 := by omega
          have hbw := HBW.out.trans (hby.mono HBW.out.size)
          have HBF := Lib.hid (HB2.out.trans (hbw.mono HB2.out.size))
          have how := HOW.out.below hby
          have HBY := Lib.hid hby
          have HBWW := Lib.hid hbw
          have hszw := hbw.size
          rw [nxk_all]
          cases hq : nxt R A out with
          | none =>
            have HIO : Hid (IsOrd R A out) := ⟨HO.out, hq⟩
            clear hq hby hbw how hz hk
            simp only [Option.getD_none]
            go_wp2_with fail
            go_ret2
            rw [HSEL.out]
            exact ⟨_, out, true, rfl, Own.nil _ _, HIO.out, ⟨fun _ => HS.out, fun _ => rfl⟩, HBF.out⟩
          | some y =>
            have hy := nxt_some hq
            have hyg := HA.out.1 y hy.1
            have HN : Hid (OrdP R A (out ++ [y])) := HO.out.push hq
            have d1 : decide (y < 0) = false := decide_eq_false (by unfold gnd at hyg; omega)
            have hyi : InR y := by unfold gnd at hyg; unfold InR; omega
            have HW := Lib.hid how
            clear hq hby hbw how hz hk hy hyg
            simp only [Option.getD_some]
            go_wp2_with
              (at_builtin
               refine wp_push wr rfl (.tmp 48) (.tmp 50) rfl w2.heap.size _ out y rfl HW.out rfl (by omega) hszw ?_
               intro v4 w4 o4 b4
               have O4 := Lib.hid o4; have B4 := Lib.hid (HBWW.out.trans b4)
               clear o4 b4)
            go_roundg (gk - 1)
            case measure => omega
            case rel => exact ⟨out ++ [y], by rw [List.length_append, List.length_singleton]; omega, HN.out, O4.out, B4.out⟩
    · have hfu := ord_full HA.out.2.1.nodup hO (by omega)
      have d0 : decide ((out.length : Int) < (A.length : Int)) = false := decide_eq_false (by omega)
      have d0n : decide (out.length < A.length) = false := decide_eq_false (by omega)
      have HF := Lib.hid (And.intro hfu (And.intro (own_low ho HB2.out.size) (HB2.out.trans (hb.mono HB2.out.size))))
      clear hO ho hor hb hfu hoin
      go_wp2_with fail
      go_ret2
      rw [HSEL.out]
      exact ⟨_, out, false, rfl, HF.out.2.1, HF.out.1.1, ⟨fun q => (by cases q), fun ⟨x, h1, h2⟩ => absurd (HF.out.1.2 x h1) h2⟩, HF.out.2.2⟩
end Go.Proofs.YtbaeanpdjdcheaaGreat
