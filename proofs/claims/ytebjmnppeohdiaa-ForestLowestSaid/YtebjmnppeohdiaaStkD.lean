/-
  The document's Above and Last of layer 18. The condition: a row of at most 1000000.
-/
import Derived.Test.YtebjmnppeohdiaaStkB
import Derived.Test.YtebjmnppeohdiaaRfH
import Derived.Deep.QuietTactic
import Derived.BigQuiet
import Derived.WalkSmall
import Derived.Deep.DeepCutAuto
import Derived.Deep.RegionHeld3
namespace Go.Proofs.Ytebjmnppeohdiaa
open Go.RowKit
set_option linter.unusedSimpArgs false
set_option linter.unusedVariables false

/-- How long a slice is. -/
def sln : Value → Nat
  | .slice _ n _ => n
  | _ => 0
theorem own_sln {w : World} {base : Nat} {v : Value} {L : List Int} (h : Own w base v L) : sln v = L.length := by
  rcases h.2 with ⟨rfl, h0⟩ | ⟨g, cap, cur, rfl, _⟩
  · exact h0.symm
  · rfl
theorem nx_in {L : List K4} (hL : ∀ s ∈ L, ok4 s) (p x : Int) : InR (nx L p x) := by
  unfold nx
  split
  · exact zero_in
  · exact (hel_ok hL x p).2.1
set_option maxHeartbeats 4000000 in
set_option maxRecDepth 100000 in
theorem r18above (a : Option Addr) (c : Nat) (L : List K4) (x p : Int) (w : World) (hL : RdQ w a L) (hn : L.length ≤ 1000000) (hx : x ≠ 0) :
    Calls Try.prog 40 #[.slice a L.length c, .int .i64 x, .int .i64 p] w fun e w' => ∃ v, e = .returned v ∧ ∃ O, Own w' w.heap.size v O ∧ (∀ z ∈ O, InR z) ∧ O.length ≤ 1000000 ∧ (x ∈ O ↔ Back (nx L p) x) ∧ Below w.heap.size w w' := by
  have HW : Hid (∀ k, InR (way (nx L p) (k + 1) x)) := fun k => nx_in hL.1 _ _
  have HL := Lib.hid hL; clear hL
  have HX := Lib.hid hx
  have hA := r18at a c L x p w HL.out hn
  rw [← nx_ne hx] at hA
  have HS : Hid (nx L p x = way (nx L p) (0 + 1) x) := rfl
  obtain ⟨z0, hz0⟩ : ∃ z, z = nx L p x := ⟨_, rfl⟩
  rw [← hz0] at hA
  have HS : Hid (z0 = way (nx L p) (0 + 1) x) := hz0
  clear hz0 hx
  go_enter Try.func40, Try.ntmps40
  go_wp2_with fail
  refine hA.mono ?_; clear hA; rintro e w1 ⟨rfl, hb1⟩
  have HB1 := Lib.hid hb1; clear hb1
  generalize shv L x p = sh at *
  go_wp2_with fail
  go_loopw [7, 8] (fun vo va wr => ∃ m, va = .int .i64 (way (nx L p) (m + 1) x) ∧ Own wr w.heap.size vo (abv (nx L p) m x) ∧ (abv (nx L p) m x).Nodup ∧ (∀ z ∈ abv (nx L p) m x, z ≠ 0) ∧ Below w.heap.size w wr) (fun vo _ _ => L.length + 1 - sln vo)
  case atStart => exact ⟨0, by rw [HS.out], Own.nil _ _, List.nodup_nil, fun z hz => (by cases hz), HB1.out⟩
  case round =>
    clear HB1 HS
    obtain ⟨m, rfl, ho, hnd, hnz, hb⟩ := hrel
    have hmm := abv_few hnd hnz
    have HE : Hid (way (nx L p) (m + 1) x = 0 ∨ way (nx L p) (m + 1) x ∈ abv (nx L p) m x → (x ∈ abv (nx L p) m x ↔ Back (nx L p) x)) := fun q => abv_end (nx_zero L p) HX.out q
    have HIN : Hid (∀ z ∈ abv (nx L p) m x, InR z) := fun z hz => by
      obtain ⟨j, h1, h2, rfl⟩ := mem_abv.1 hz
      have := HW.out (j - 1)
      rwa [show j - 1 + 1 = j by omega] at this
    have HSU : Hid (abv (nx L p) (m + 1) x = abv (nx L p) m x ++ [way (nx L p) (m + 1) x]) := abv_succ _ _ _
    have HZI : Hid (InR (way (nx L p) (m + 1) x)) := HW.out m
    have HZU : Hid (way (nx L p) (m + 1) x ≠ 0 → way (nx L p) (m + 1 + 1) x = upv L (way (nx L p) (m + 1) x) p) := fun q => nx_ne q
    have HLEN : Hid ((abv (nx L p) m x).length = m) := abv_len _ _ _
    have HM : Hid ((abv (nx L p) m x).length ≤ L.length) := by show _ ≤ _; rw [abv_len]; exact hmm
    generalize abv (nx L p) m x = O at *
    generalize way (nx L p) (m + 1) x = z at *
    have HO := Lib.hid ho
    obtain ⟨ra, rc, rfl, -, hR⟩ := ho.reads HIN.out
    have hOl : O.length ≤ 1000000 := by have := HM.out; omega
    have HND := Lib.hid (And.intro hnd hnz)
    have HB := Lib.hid hb
    clear ho hnd hnz hb hmm
    by_cases h0 : z = 0
    · have HEE : Hid (x ∈ O ↔ Back (nx L p) x) := HE.out (Or.inl h0)
      subst h0
      clear hR
      go_wp2_with fail
      go_ret
      exact ⟨_, rfl, O, HO.out, HIN.out, hOl, HEE.out, HB.out⟩
    · have e0 : (z != 0) = true := by simpa using h0
      have hh := has_any ra rc O z wr hR (by omega)
      by_cases hmem : z ∈ O
      · rw [decide_eq_true hmem] at hh
        have HEE : Hid (x ∈ O ↔ Back (nx L p) x) := HE.out (Or.inr hmem)
        clear hR hmem h0
        go_wp2_with fail
        refine hh.mono ?_; clear hh; rintro e w4 ⟨rfl, rfl⟩
        go_wp2_with fail
        go_ret
        exact ⟨_, rfl, O, HO.out, HIN.out, hOl, HEE.out, HB.out⟩
      · rw [decide_eq_false hmem] at hh
        have HNM := Lib.hid hmem
        have HN0 := Lib.hid h0
        clear hR hmem h0
        go_wp2_with fail
        refine hh.mono ?_; clear hh; rintro e w4 ⟨rfl, rfl⟩
        have hsz := HB.out.size
        go_wp2_with (at_builtin; refine wp_push wr rfl (.tmp 25) (.tmp 27) rfl w.heap.size _ O z rfl HO.out rfl (by omega) hsz ?_; intro v5 w5 ho5 hb5)
        have hat := r18at a c L z p w5 (HL.out.below ((HB.out.trans hb5).mono (Nat.le_refl _))) hn
        rw [← HZU.out HN0.out] at hat
        have HO5 := Lib.hid ho5
        have HS5 : Hid (sln v5 = O.length + 1) := by show _ = _; rw [own_sln ho5]; simp
        have HB5 := Lib.hid (HB.out.trans hb5)
        have hin5 : ∀ y ∈ O ++ [z], InR y := by
          intro y hy
          rcases List.mem_append.1 hy with q | q
          · exact HIN.out y q
          · rw [List.mem_singleton.1 q]; exact HZI.out
        obtain ⟨a5, c5, hv5⟩ := (ho5.sl hin5).form
        rw [show (O ++ [z]).length = O.length + 1 by simp] at hv5
        subst hv5
        clear hin5
        clear ho5 hb5
        refine hat.mono ?_; clear hat; rintro e w6 ⟨rfl, hb6⟩
        have HB6 : Hid (Below w.heap.size w w6) := HB5.out.trans (hb6.mono HB5.out.size)
        have HO6 := Lib.hid (HO5.out.below hb6)
        clear hb6
        generalize shv L z p = sh2 at *
        go_wp2_with fail
        go_roundw
        · exact ⟨m + 1, rfl, by rw [HSU.out]; exact HO6.out, by
            rw [HSU.out]
            refine List.nodup_append.2 ⟨HND.out.1, by simp, fun y hy u hu => ?_⟩
            rw [List.mem_singleton.1 hu]
            exact fun q => HNM.out (q ▸ hy), by
            rw [HSU.out]
            intro y hy
            rcases List.mem_append.1 hy with q | q
            · exact HND.out.2 y q
            · rw [List.mem_singleton.1 q]; exact HN0.out, HB6.out⟩
        · have := HM.out; simp [sln]; omega
theorem nxe_bad {A : List K4} {s : K4} {n c : Int} (h : wrg s n = c) (hc : c ≠ 0) : nxe A s n = c := by unfold nxe; rw [h, if_pos hc]
theorem nxe_good {A : List K4} {s : K4} {n : Int} (h : wrg s n = 0) : nxe A s n = if goes (A ++ [s]) s.1 = true then 26 else 0 := by unfold nxe; rw [h, if_neg (fun q => q rfl)]
set_option maxHeartbeats 8000000 in
set_option maxRecDepth 100000 in
theorem r18last (a : Option Addr) (c : Nat) (L : List K4) (k : Nat) (n : Int) (w : World) (hL : RdQ w a L) (hn : L.length ≤ 1000000) (hk : L.length = k + 1) :
    Calls Try.prog 50 #[.slice a L.length c, .int .i64 n] w fun e w' => e = .returned (.int .i64 (nxe (L.take k) (L.getD k z4) n)) ∧ Below w.heap.size w w' := by
  have HL := Lib.hid hL
  have hlt : k < L.length := by omega
  have HT : Hid (L.take k ++ [L.getD k z4] = L) := by
    have h := take4 hlt
    rw [← hk, List.take_length] at h
    exact h.symm
  obtain ⟨b, off, rfl, c0, c1, c2, c3⟩ := hL.2 k hlt
  have i0 : (0 : Int) ≤ (k : Int) := by omega
  have i1 : (k : Int) < (L.length : Int) := by omega
  have hw1 : wrap64 ((L.length : Int) - 1) = (k : Int) := by unfold wrap64; omega
  have hw2 : IntKind.i64.wrap ((L.length : Int) - 1) = (k : Int) := by simp [IntKind.wrap, IntKind.signed, IntKind.bits]; omega
  generalize L.take k = A at *
  generalize L.getD k z4 = s at *
  have hb := below1 w (.cells #[.int .i64 s.1, .int .i64 s.2.1, .int .i64 s.2.2.1, .int .i64 s.2.2.2] 75)
  obtain ⟨g0, g1, g2, g3⟩ := new4 (w := w) (s := s) (Below.refl _ _)
  have HB := Lib.hid hb
  clear hL hk hlt hb
  obtain ⟨r, hr⟩ : ∃ r, r = nxe A s n := ⟨_, rfl⟩
  rw [← hr]
  have HR := Lib.hid hr; clear hr
  go_enter Try.func50, Try.ntmps50
  go_upto_region 2 with fail
  have HG0 := Lib.hid g0
  clear c0 c1 c2 c3 hw1 hw2
  generalize hW : w.alloc (.cells #[.int .i64 s.1, .int .i64 s.2.1, .int .i64 s.2.2.1, .int .i64 s.2.2.2] 75) = W at *
  obtain ⟨bs, hbs⟩ : ∃ bs, bs = w.heap.size := ⟨_, rfl⟩
  rw [← hbs] at g0 g1 g2 g3 HG0 ⊢
  have HBS := Lib.hid hbs; clear hbs hW
  by_cases h1 : s.1 < 1
  · have d1 : decide (s.1 < 1) = true := decide_eq_true h1
    have hv : wrg s n = 20 := by unfold wrg; rw [if_pos (by omega)]
    clear h1
    have HRV : Hid (r = 20) := HR.out.trans (nxe_bad hv (by decide))
    clear hv
    go_wp2_with fail
    go_ret
    exact ⟨by rw [HRV.out] <;> rfl, HB.out⟩
  · have d1 : decide (s.1 < 1) = false := decide_eq_false h1
    by_cases h2 : n < s.1
    · have d2 : decide (n < s.1) = true := decide_eq_true h2
      have hv : wrg s n = 20 := by unfold wrg; rw [if_pos (by omega)]
      clear h1 h2
      have HRV : Hid (r = 20) := HR.out.trans (nxe_bad hv (by decide))
      clear hv
      go_wp2_with fail
      go_ret
      exact ⟨by rw [HRV.out] <;> rfl, HB.out⟩
    · have d2 : decide (n < s.1) = false := decide_eq_false h2
      by_cases h3 : s.2.1 < 0
      · have d3 : decide (s.2.1 < 0) = true := decide_eq_true h3
        have hv : wrg s n = 20 := by unfold wrg; rw [if_pos (by omega)]
        clear h1 h2 h3
        have HRV : Hid (r = 20) := HR.out.trans (nxe_bad hv (by decide))
        clear hv
        go_wp2_with fail
        go_ret
        exact ⟨by rw [HRV.out] <;> rfl, HB.out⟩
      · have d3 : decide (s.2.1 < 0) = false := decide_eq_false h3
        by_cases h4 : n < s.2.1
        · have d4 : decide (n < s.2.1) = true := decide_eq_true h4
          have hv : wrg s n = 20 := by unfold wrg; rw [if_pos (by omega)]
          clear h1 h2 h3 h4
          have HRV : Hid (r = 20) := HR.out.trans (nxe_bad hv (by decide))
          clear hv
          go_wp2_with fail
          go_ret
          exact ⟨by rw [HRV.out] <;> rfl, HB.out⟩
        · have d4 : decide (n < s.2.1) = false := decide_eq_false h4
          by_cases h5 : s.2.2.1 < 0
          · have d5 : decide (s.2.2.1 < 0) = true := decide_eq_true h5
            have hv : wrg s n = 12 := by unfold wrg; rw [if_neg (by omega), if_pos (by omega)]
            clear h1 h2 h3 h4 h5
            have HRV : Hid (r = 12) := HR.out.trans (nxe_bad hv (by decide))
            clear hv
            go_wp2_with fail
            go_ret
            exact ⟨by rw [HRV.out] <;> rfl, HB.out⟩
          · have d5 : decide (s.2.2.1 < 0) = false := decide_eq_false h5
            by_cases h6 : 10000 < s.2.2.1
            · have d6 : decide (10000 < s.2.2.1) = true := decide_eq_true h6
              have hv : wrg s n = 12 := by unfold wrg; rw [if_neg (by omega), if_pos (by omega)]
              clear h1 h2 h3 h4 h5 h6
              have HRV : Hid (r = 12) := HR.out.trans (nxe_bad hv (by decide))
              clear hv
              go_wp2_with fail
              go_ret
              exact ⟨by rw [HRV.out] <;> rfl, HB.out⟩
            · have d6 : decide (10000 < s.2.2.1) = false := decide_eq_false h6
              by_cases h7 : s.2.1 = 0
              · have d7 : (s.2.1 == 0) = true := by simpa using h7
                by_cases hq : s.2.2.1 = 10000
                · have dq : (s.2.2.1 != 10000) = false := by simpa using hq
                  by_cases h8 : s.2.2.2 < 0
                  · have d8 : decide (s.2.2.2 < 0) = true := decide_eq_true h8
                    have hv : wrg s n = 22 := by unfold wrg; rw [if_neg (by omega), if_neg (by omega), if_pos (by omega)]
                    clear h1 h2 h3 h4 h5 h6 h7 hq h8
                    have HRV : Hid (r = 22) := HR.out.trans (nxe_bad hv (by decide))
                    clear hv
                    go_wp2_with fail
                    go_ret
                    exact ⟨by rw [HRV.out] <;> rfl, HB.out⟩
                  · have d8 : decide (s.2.2.2 < 0) = false := decide_eq_false h8
                    by_cases h9 : 24 ≤ s.2.2.2
                    · have d9 : decide (24 ≤ s.2.2.2) = true := decide_eq_true h9
                      have hv : wrg s n = 22 := by unfold wrg; rw [if_neg (by omega), if_neg (by omega), if_pos (by omega)]
                      clear h1 h2 h3 h4 h5 h6 h7 hq h8 h9
                      have HRV : Hid (r = 22) := HR.out.trans (nxe_bad hv (by decide))
                      clear hv
                      go_wp2_with fail
                      go_ret
                      exact ⟨by rw [HRV.out] <;> rfl, HB.out⟩
                    · have d9 : decide (24 ≤ s.2.2.2) = false := decide_eq_false h9
                      have hv : wrg s n = 0 := by unfold wrg; rw [if_neg (by omega), if_neg (by omega), if_neg (by omega)]
                      clear h1 h2 h3 h4 h5 h6 h7 hq h8 h9
                      have HNE : Hid (s.1 ≠ 0) := fun q => by have := wrg_zero hv; omega
                      have HRV : Hid (r = if goes L s.1 = true then (26 : Int) else 0) := HR.out.trans ((nxe_good hv).trans (by rw [HT.out]))
                      clear hv
                      go_wp2_with fail
                      clear d1 d2 d3 d4 d5 d6 d7 d8 d9
                      try clear dq
                      go_loopw [6] (fun i wr => ∃ p : Nat, p ≤ 24 ∧ i = .int .i64 (p : Int) ∧ (∀ q : Nat, q < p → ¬ Back (nx L (q : Int)) s.1) ∧ Below w.heap.size w wr ∧ wr.cell? ⟨bs, 0, none⟩ = some (.int .i64 s.1)) (fun i _ => 24 - (RowKit.intOf i).toNat)
                      case atStart => exact ⟨0, by omega, rfl, fun q hq => by omega, HB.out, HG0.out⟩
                      case round =>
                        obtain ⟨p, hp, rfl, hok, hb, g0⟩ := hrel
                        have HOK := Lib.hid hok; clear hok
                        by_cases hlt : p < 24
                        · have i0 : decide (p < 24) = true := decide_eq_true hlt
                          have i1 : decide ((p : Int) < 24) = true := decide_eq_true (by omega)
                          have e1 : wrap64 ((p : Int) + 1) = (p : Int) + 1 := by unfold wrap64; omega
                          have hlb : bs < wr.heap.size := World.block_lt_of_cell? wr _ g0
                          have hS : Hid (∀ wz, Below wr.heap.size wr wz → wz.cell? ⟨bs, 0, none⟩ = some (.int .i64 s.1)) := fun wz h => (h.cell (p := ⟨bs, 0, none⟩) hlb).trans g0
                          have hab := r18above (some ⟨b, off, none⟩) c L s.1 (p : Int) wr.drew ((HL.out.below hb).below (Below.refl _ _).drew) hn HNE.out
                          have HB := Lib.hid hb
                          have HLT := Lib.hid hlt
                          clear hb hlb
                          go_wp2_with fail
                          refine wp_region_held_drew (S := fun wz => wz.cell? ⟨bs, 0, none⟩ = some (.int .i64 s.1)) (by kernel_rfl) (hS.out _ (Below.refl _ _).drew) (fun hHeld => ?_)
                          refine wpAnyH_take (i := 0) (v := ?_) rfl (by kernel_rfl) (by kernel_rfl) (by kernel_rfl) (fun _ _ _ h => h) (Or.inl ⟨by rfl, ?y0⟩) (by assumption) ?_
                          case y0 => intro w hSw; (try dsimp only at hSw); go_simp; (try with_reducible rfl)
                          (try simp only [Act.put, List.setIfInBounds_toArray, List.set_cons_zero, List.set_cons_succ, List.getElem_toArray, List.getElem_cons_zero, List.getElem_cons_succ])
                          refine wpAnyH_take (i := 1) (v := ?_) rfl (by kernel_rfl) (by kernel_rfl) (by kernel_rfl) (fun _ _ _ h => h) (Or.inl ⟨by rfl, ?y1⟩) (by assumption) ?_
                          case y1 => intro w hSw; (try dsimp only at hSw); go_simp; (try with_reducible rfl)
                          (try simp only [Act.put, List.setIfInBounds_toArray, List.set_cons_zero, List.set_cons_succ, List.getElem_toArray, List.getElem_cons_zero, List.getElem_cons_succ])
                          refine wpAnyH_take (i := 2) (v := ?_) rfl (by kernel_rfl) (by kernel_rfl) (by kernel_rfl) (fun _ _ _ h => h) (Or.inl ⟨by rfl, ?y2⟩) (by assumption) ?_
                          case y2 => intro w hSw; (try dsimp only at hSw); go_simp; (try with_reducible rfl)
                          (try simp only [Act.put, List.setIfInBounds_toArray, List.set_cons_zero, List.set_cons_succ, List.getElem_toArray, List.getElem_cons_zero, List.getElem_cons_succ])
                          refine wpAnyH_take (i := 3) (v := ?_) rfl (by kernel_rfl) (by kernel_rfl) (by kernel_rfl) (fun _ _ _ h => h) (Or.inl ⟨by rfl, ?y3⟩) (by assumption) ?_
                          case y3 => intro w hSw; (try dsimp only at hSw); go_simp; (try with_reducible rfl)
                          (try simp only [Act.put, List.setIfInBounds_toArray, List.set_cons_zero, List.set_cons_succ, List.getElem_toArray, List.getElem_cons_zero, List.getElem_cons_succ])
                          refine wpAnyH_take (i := 5) (v := ?_) rfl (by kernel_rfl) (by kernel_rfl) (by kernel_rfl) (fun _ _ _ h => h) (Or.inl ⟨by rfl, ?y5⟩) (by assumption) ?_
                          case y5 => intro w hSw; (try dsimp only at hSw); go_simp; (try with_reducible rfl)
                          (try simp only [Act.put, List.setIfInBounds_toArray, List.set_cons_zero, List.set_cons_succ, List.getElem_toArray, List.getElem_cons_zero, List.getElem_cons_succ])
                          refine wpAnyH_take (i := 6) (v := ?_) rfl (by kernel_rfl) (by kernel_rfl) (by kernel_rfl) (fun _ _ _ h => h) (Or.inl ⟨by rfl, ?y6⟩) (by assumption) ?_
                          case y6 => intro w hSw; (try dsimp only at hSw); go_simp; (try with_reducible rfl)
                          (try simp only [Act.put, List.setIfInBounds_toArray, List.set_cons_zero, List.set_cons_succ, List.getElem_toArray, List.getElem_cons_zero, List.getElem_cons_succ])
                          refine wpAnyH_ready (rs := [4]) (by kernel_rfl) (by simp) ?_
                          refine AllReadyH.cons rfl (fun K hK => ?_) AllReadyH.nil
                          go_simp
                          refine hab.mono ?_; clear hab; rintro e y4 ⟨v4, rfl, O, ho4, hin4, hl4, hbk, hb4⟩
                          have hb4 : Below wr.heap.size wr y4 := (Below.refl _ _).drew.trans hb4
                          obtain ⟨a4, c4, rfl, -, hR4⟩ := ho4.reads hin4
                          have hh4 := has_any a4 c4 O s.1 y4 hR4 (by omega)
                          have HB4 := Lib.hid hb4; have HBK := Lib.hid hbk
                          clear hb4 hbk ho4 hin4 hR4
                          refine hK.out _ _ (hS.out _ HB4.out) (fun hHeld => ?_)
                          clear hK K
                          (try simp only [Act.put, List.setIfInBounds_toArray, List.set_cons_zero, List.set_cons_succ, List.getElem_toArray, List.getElem_cons_zero, List.getElem_cons_succ])
                          refine wpAnyH_ready (rs := [7]) (by kernel_rfl) (by simp) ?_
                          refine AllReadyH.cons rfl (fun K hK => ?_) AllReadyH.nil
                          go_simp
                          refine hh4.mono ?_; clear hh4; rintro e y7 ⟨rfl, rfl⟩
                          refine hK.out _ _ (hS.out _ HB4.out) (fun hHeld => ?_)
                          clear hK K
                          (try simp only [Act.put, List.setIfInBounds_toArray, List.set_cons_zero, List.set_cons_succ, List.getElem_toArray, List.getElem_cons_zero, List.getElem_cons_succ])
                          refine wpAnyH_done (by kernel_rfl) ?_ _
                          by_cases hbk : s.1 ∈ O
                          · have hd : decide (s.1 ∈ O) = true := decide_eq_true hbk
                            have HR : Hid ((if goes L s.1 = true then (26 : Int) else 0) = 26) := if_pos ((goes_is HNE.out).2 ⟨p, HLT.out, HBK.out.1 hbk⟩)
                            rw [hd]
                            clear hbk
                            go_wp2_with fail
                            go_ret
                            exact ⟨by rw [HRV.out, HR.out] <;> rfl, HB.out.trans (HB4.out.mono HB.out.size)⟩
                          · have hd : decide (s.1 ∈ O) = false := decide_eq_false hbk
                            have HNB : Hid (¬ Back (nx L (p : Int)) s.1) := fun q => hbk (HBK.out.2 q)
                            rw [hd]
                            clear hbk
                            go_wp2_with fail
                            go_roundw
                            · exact ⟨p + 1, by omega, by go_num, fun q hq => by
                                rcases Nat.lt_or_ge q p with r | r
                                · exact HOK.out q r
                                · rw [show q = p by omega]; exact HNB.out, HB.out.trans (HB4.out.mono HB.out.size), hS.out _ HB4.out⟩
                            · simp [RowKit.intOf]; omega
                        · obtain rfl : p = 24 := by omega
                          have HR : Hid ((if goes L s.1 = true then (26 : Int) else 0) = 0) := if_neg (fun q => by
                            obtain ⟨k, h1, h2⟩ := (goes_is HNE.out).1 q
                            exact HOK.out k h1 h2)
                          have HB := Lib.hid hb
                          clear hb g0
                          go_wp2_with fail
                          go_ret
                          exact ⟨by rw [HRV.out, HR.out] <;> rfl, HB.out⟩
                · have dq : (s.2.2.1 != 10000) = true := by simpa using hq
                  have hv : wrg s n = 12 := by unfold wrg; rw [if_neg (by omega), if_pos (by omega)]
                  clear h1 h2 h3 h4 h5 h6 h7 hq
                  have HRV : Hid (r = 12) := HR.out.trans (nxe_bad hv (by decide))
                  clear hv
                  go_wp2_with fail
                  go_ret
                  exact ⟨by rw [HRV.out] <;> rfl, HB.out⟩
              · have d7 : (s.2.1 == 0) = false := by simpa using h7
                by_cases h8 : s.2.2.2 < 0
                · have d8 : decide (s.2.2.2 < 0) = true := decide_eq_true h8
                  have hv : wrg s n = 22 := by unfold wrg; rw [if_neg (by omega), if_neg (by omega), if_pos (by omega)]
                  clear h1 h2 h3 h4 h5 h6 h7 h8
                  have HRV : Hid (r = 22) := HR.out.trans (nxe_bad hv (by decide))
                  clear hv
                  go_wp2_with fail
                  go_ret
                  exact ⟨by rw [HRV.out] <;> rfl, HB.out⟩
                · have d8 : decide (s.2.2.2 < 0) = false := decide_eq_false h8
                  by_cases h9 : 24 ≤ s.2.2.2
                  · have d9 : decide (24 ≤ s.2.2.2) = true := decide_eq_true h9
                    have hv : wrg s n = 22 := by unfold wrg; rw [if_neg (by omega), if_neg (by omega), if_pos (by omega)]
                    clear h1 h2 h3 h4 h5 h6 h7 h8 h9
                    have HRV : Hid (r = 22) := HR.out.trans (nxe_bad hv (by decide))
                    clear hv
                    go_wp2_with fail
                    go_ret
                    exact ⟨by rw [HRV.out] <;> rfl, HB.out⟩
                  · have d9 : decide (24 ≤ s.2.2.2) = false := decide_eq_false h9
                    have hv : wrg s n = 0 := by unfold wrg; rw [if_neg (by omega), if_neg (by omega), if_neg (by omega)]
                    clear h1 h2 h3 h4 h5 h6 h7 h8 h9
                    have HNE : Hid (s.1 ≠ 0) := fun q => by have := wrg_zero hv; omega
                    have HRV : Hid (r = if goes L s.1 = true then (26 : Int) else 0) := HR.out.trans ((nxe_good hv).trans (by rw [HT.out]))
                    clear hv
                    go_wp2_with fail
                    clear d1 d2 d3 d4 d5 d6 d7 d8 d9
                    try clear dq
                    go_loopw [6] (fun i wr => ∃ p : Nat, p ≤ 24 ∧ i = .int .i64 (p : Int) ∧ (∀ q : Nat, q < p → ¬ Back (nx L (q : Int)) s.1) ∧ Below w.heap.size w wr ∧ wr.cell? ⟨bs, 0, none⟩ = some (.int .i64 s.1)) (fun i _ => 24 - (RowKit.intOf i).toNat)
                    case atStart => exact ⟨0, by omega, rfl, fun q hq => by omega, HB.out, HG0.out⟩
                    case round =>
                      obtain ⟨p, hp, rfl, hok, hb, g0⟩ := hrel
                      have HOK := Lib.hid hok; clear hok
                      by_cases hlt : p < 24
                      · have i0 : decide (p < 24) = true := decide_eq_true hlt
                        have i1 : decide ((p : Int) < 24) = true := decide_eq_true (by omega)
                        have e1 : wrap64 ((p : Int) + 1) = (p : Int) + 1 := by unfold wrap64; omega
                        have hlb : bs < wr.heap.size := World.block_lt_of_cell? wr _ g0
                        have hS : Hid (∀ wz, Below wr.heap.size wr wz → wz.cell? ⟨bs, 0, none⟩ = some (.int .i64 s.1)) := fun wz h => (h.cell (p := ⟨bs, 0, none⟩) hlb).trans g0
                        have hab := r18above (some ⟨b, off, none⟩) c L s.1 (p : Int) wr.drew ((HL.out.below hb).below (Below.refl _ _).drew) hn HNE.out
                        have HB := Lib.hid hb
                        have HLT := Lib.hid hlt
                        clear hb hlb
                        go_wp2_with fail
                        refine wp_region_held_drew (S := fun wz => wz.cell? ⟨bs, 0, none⟩ = some (.int .i64 s.1)) (by kernel_rfl) (hS.out _ (Below.refl _ _).drew) (fun hHeld => ?_)
                        refine wpAnyH_take (i := 0) (v := ?_) rfl (by kernel_rfl) (by kernel_rfl) (by kernel_rfl) (fun _ _ _ h => h) (Or.inl ⟨by rfl, ?y0⟩) (by assumption) ?_
                        case y0 => intro w hSw; (try dsimp only at hSw); go_simp; (try with_reducible rfl)
                        (try simp only [Act.put, List.setIfInBounds_toArray, List.set_cons_zero, List.set_cons_succ, List.getElem_toArray, List.getElem_cons_zero, List.getElem_cons_succ])
                        refine wpAnyH_take (i := 1) (v := ?_) rfl (by kernel_rfl) (by kernel_rfl) (by kernel_rfl) (fun _ _ _ h => h) (Or.inl ⟨by rfl, ?y1⟩) (by assumption) ?_
                        case y1 => intro w hSw; (try dsimp only at hSw); go_simp; (try with_reducible rfl)
                        (try simp only [Act.put, List.setIfInBounds_toArray, List.set_cons_zero, List.set_cons_succ, List.getElem_toArray, List.getElem_cons_zero, List.getElem_cons_succ])
                        refine wpAnyH_take (i := 2) (v := ?_) rfl (by kernel_rfl) (by kernel_rfl) (by kernel_rfl) (fun _ _ _ h => h) (Or.inl ⟨by rfl, ?y2⟩) (by assumption) ?_
                        case y2 => intro w hSw; (try dsimp only at hSw); go_simp; (try with_reducible rfl)
                        (try simp only [Act.put, List.setIfInBounds_toArray, List.set_cons_zero, List.set_cons_succ, List.getElem_toArray, List.getElem_cons_zero, List.getElem_cons_succ])
                        refine wpAnyH_take (i := 3) (v := ?_) rfl (by kernel_rfl) (by kernel_rfl) (by kernel_rfl) (fun _ _ _ h => h) (Or.inl ⟨by rfl, ?y3⟩) (by assumption) ?_
                        case y3 => intro w hSw; (try dsimp only at hSw); go_simp; (try with_reducible rfl)
                        (try simp only [Act.put, List.setIfInBounds_toArray, List.set_cons_zero, List.set_cons_succ, List.getElem_toArray, List.getElem_cons_zero, List.getElem_cons_succ])
                        refine wpAnyH_take (i := 5) (v := ?_) rfl (by kernel_rfl) (by kernel_rfl) (by kernel_rfl) (fun _ _ _ h => h) (Or.inl ⟨by rfl, ?y5⟩) (by assumption) ?_
                        case y5 => intro w hSw; (try dsimp only at hSw); go_simp; (try with_reducible rfl)
                        (try simp only [Act.put, List.setIfInBounds_toArray, List.set_cons_zero, List.set_cons_succ, List.getElem_toArray, List.getElem_cons_zero, List.getElem_cons_succ])
                        refine wpAnyH_take (i := 6) (v := ?_) rfl (by kernel_rfl) (by kernel_rfl) (by kernel_rfl) (fun _ _ _ h => h) (Or.inl ⟨by rfl, ?y6⟩) (by assumption) ?_
                        case y6 => intro w hSw; (try dsimp only at hSw); go_simp; (try with_reducible rfl)
                        (try simp only [Act.put, List.setIfInBounds_toArray, List.set_cons_zero, List.set_cons_succ, List.getElem_toArray, List.getElem_cons_zero, List.getElem_cons_succ])
                        refine wpAnyH_ready (rs := [4]) (by kernel_rfl) (by simp) ?_
                        refine AllReadyH.cons rfl (fun K hK => ?_) AllReadyH.nil
                        go_simp
                        refine hab.mono ?_; clear hab; rintro e y4 ⟨v4, rfl, O, ho4, hin4, hl4, hbk, hb4⟩
                        have hb4 : Below wr.heap.size wr y4 := (Below.refl _ _).drew.trans hb4
                        obtain ⟨a4, c4, rfl, -, hR4⟩ := ho4.reads hin4
                        have hh4 := has_any a4 c4 O s.1 y4 hR4 (by omega)
                        have HB4 := Lib.hid hb4; have HBK := Lib.hid hbk
                        clear hb4 hbk ho4 hin4 hR4
                        refine hK.out _ _ (hS.out _ HB4.out) (fun hHeld => ?_)
                        clear hK K
                        (try simp only [Act.put, List.setIfInBounds_toArray, List.set_cons_zero, List.set_cons_succ, List.getElem_toArray, List.getElem_cons_zero, List.getElem_cons_succ])
                        refine wpAnyH_ready (rs := [7]) (by kernel_rfl) (by simp) ?_
                        refine AllReadyH.cons rfl (fun K hK => ?_) AllReadyH.nil
                        go_simp
                        refine hh4.mono ?_; clear hh4; rintro e y7 ⟨rfl, rfl⟩
                        refine hK.out _ _ (hS.out _ HB4.out) (fun hHeld => ?_)
                        clear hK K
                        (try simp only [Act.put, List.setIfInBounds_toArray, List.set_cons_zero, List.set_cons_succ, List.getElem_toArray, List.getElem_cons_zero, List.getElem_cons_succ])
                        refine wpAnyH_done (by kernel_rfl) ?_ _
                        by_cases hbk : s.1 ∈ O
                        · have hd : decide (s.1 ∈ O) = true := decide_eq_true hbk
                          have HR : Hid ((if goes L s.1 = true then (26 : Int) else 0) = 26) := if_pos ((goes_is HNE.out).2 ⟨p, HLT.out, HBK.out.1 hbk⟩)
                          rw [hd]
                          clear hbk
                          go_wp2_with fail
                          go_ret
                          exact ⟨by rw [HRV.out, HR.out] <;> rfl, HB.out.trans (HB4.out.mono HB.out.size)⟩
                        · have hd : decide (s.1 ∈ O) = false := decide_eq_false hbk
                          have HNB : Hid (¬ Back (nx L (p : Int)) s.1) := fun q => hbk (HBK.out.2 q)
                          rw [hd]
                          clear hbk
                          go_wp2_with fail
                          go_roundw
                          · exact ⟨p + 1, by omega, by go_num, fun q hq => by
                              rcases Nat.lt_or_ge q p with r | r
                              · exact HOK.out q r
                              · rw [show q = p by omega]; exact HNB.out, HB.out.trans (HB4.out.mono HB.out.size), hS.out _ HB4.out⟩
                          · simp [RowKit.intOf]; omega
                      · obtain rfl : p = 24 := by omega
                        have HR : Hid ((if goes L s.1 = true then (26 : Int) else 0) = 0) := if_neg (fun q => by
                          obtain ⟨k, h1, h2⟩ := (goes_is HNE.out).1 q
                          exact HOK.out k h1 h2)
                        have HB := Lib.hid hb
                        clear hb g0
                        go_wp2_with fail
                        go_ret
                        exact ⟨by rw [HRV.out, HR.out] <;> rfl, HB.out⟩
end Go.Proofs.Ytebjmnppeohdiaa
