/-
  InternBack of layer 8 answers true over a table's contracts, for whatever number and structs. The conditions: the contracts.
-/
import Derived.Test.YteeonglebimnlaaIntK
import Derived.Deep.QuietTactic
import Derived.BigQuiet
import Derived.WalkSmall
namespace Go.Proofs.Yteeonglebimnlaa
open Go.RowKit
set_option linter.unusedSimpArgs false
set_option linter.unusedVariables false

/-- The numbers of keys. -/
def nums (K P : List K4) : List Value := P.map (fun q => Value.int .i64 (gix K q : Int))
theorem nums_len (K P : List K4) : (nums K P).length = P.length := by simp [nums]
theorem nums_one (K P : List K4) : ∀ u ∈ nums K P, u.oneCell' = true := by
  intro u hu
  obtain ⟨z, _, rfl⟩ := List.mem_map.1 hu
  rfl
theorem nums_same {K K' P : List K4} (h : ∀ q ∈ P, gix K' q = gix K q) : nums K' P = nums K P := by
  unfold nums
  apply List.map_congr_left
  intro q hq
  rw [h q hq]
/-- What holds at the first loop's head. -/
structure BaRel (T : TabK) (w : World) (B : Nat) (m : Int) (z : Nat) (s7 s8 i : Value) (wr : World) : Prop where
  out : ∃ (k : Nat) (K P : List K4) (F : Nat → Prop), k ≤ z ∧ i = .int .i64 (k : Int) ∧ T.Rep wr B m K F ∧ OwnO F wr w.heap.size 3 1 s7 P.length (nums K P) ∧ OwnO F wr w.heap.size 46 4 s8 P.length (row4 P) ∧ (∀ b, s7.ownBlock = some b → s8.ownBlock ≠ some b) ∧ (∀ q ∈ P, q ∈ K) ∧ Below w.heap.size w wr ∧ (∀ j, F j → w.heap.size ≤ j) ∧ K.length ≤ k ∧ P.length ≤ k

/-- Two rows read as numbers and as keys. -/
def ReadsN (w : World) (a7 a8 : Option Addr) (K P : List K4) : Prop := ∀ i, i < P.length → ∃ b off b' off', a7 = some ⟨b, off, none⟩ ∧ a8 = some ⟨b', off', none⟩ ∧ w.cell? ⟨b, off + i, none⟩ = some (.int .i64 (gix K (P.getD i (0, 0, 0, 0)) : Int)) ∧ w.cell? ⟨b', off' + i * 4, none⟩ = some (.int .i64 (P.getD i (0, 0, 0, 0)).1) ∧ w.cell? ⟨b', off' + i * 4 + 1, none⟩ = some (.int .i64 (P.getD i (0, 0, 0, 0)).2.1) ∧ w.cell? ⟨b', off' + i * 4 + 2, none⟩ = some (.int .i64 (P.getD i (0, 0, 0, 0)).2.2.1) ∧ w.cell? ⟨b', off' + i * 4 + 3, none⟩ = some (.int .i64 (P.getD i (0, 0, 0, 0)).2.2.2)
theorem reads_n {w : World} {a7 a8 : Option Addr} {n7 n8 c7 c8 : Nat} {K P : List K4} (h7 : SlC w (.slice a7 n7 c7) 1 P.length (nums K P)) (h8 : SlC w (.slice a8 n8 c8) 4 P.length (row4 P)) : ReadsN w a7 a8 K P := by
  intro i hi
  obtain ⟨a7, _, e7, _, _, _, r7⟩ := h7
  obtain ⟨a8, _, e8, _, _, _, r8⟩ := h8
  cases e7; cases e8
  obtain ⟨b, off, q7, z7⟩ := r7 i (by rw [nums_len]; exact hi)
  have hr : ∀ j, j < 4 → ∃ b' off', a8 = some ⟨b', off', none⟩ ∧ w.cell? ⟨b', off' + (i * 4 + j), none⟩ = (cells4 (P.getD i (0, 0, 0, 0)))[j]? := fun j hj => by
    obtain ⟨b', off', q8, z8⟩ := r8 (i * 4 + j) (by rw [row4_len]; omega)
    rw [row4_at P i j hi hj] at z8
    exact ⟨b', off', q8, z8⟩
  obtain ⟨b', off', q8, z0⟩ := hr 0 (by omega)
  obtain ⟨_, _, q, z1⟩ := hr 1 (by omega)
  rw [q8] at q; cases q
  obtain ⟨_, _, q, z2⟩ := hr 2 (by omega)
  rw [q8] at q; cases q
  obtain ⟨_, _, q, z3⟩ := hr 3 (by omega)
  rw [q8] at q; cases q
  refine ⟨b, off, b', off', q7, q8, ?_, z0, z1, z2, z3⟩
  rw [z7]
  simp [nums, hi]
theorem ReadsN.below {w w' : World} {a7 a8 : Option Addr} {K P : List K4} (h : ReadsN w a7 a8 K P) (hb : Below w.heap.size w w') : ReadsN w' a7 a8 K P := by
  intro i hi
  obtain ⟨b, off, b', off', q7, q8, z, z0, z1, z2, z3⟩ := h i hi
  have k7 : b < w.heap.size := World.block_lt_of_cell? w _ z
  have k8 : b' < w.heap.size := World.block_lt_of_cell? w _ z0
  exact ⟨b, off, b', off', q7, q8, (hb.cell (p := ⟨b, _, none⟩) k7).trans z, (hb.cell (p := ⟨b', _, none⟩) k8).trans z0, (hb.cell (p := ⟨b', _, none⟩) k8).trans z1, (hb.cell (p := ⟨b', _, none⟩) k8).trans z2, (hb.cell (p := ⟨b', _, none⟩) k8).trans z3⟩
theorem same_num {K : List K4} {p q : K4} (h : p ∈ K) : ((gix K p : Int) == (gix K q : Int)) = (p.1 == q.1 && (p.2.1 == q.2.1 && (p.2.2.1 == q.2.2.1 && p.2.2.2 == q.2.2.2))) := by
  by_cases e : p = q
  · subst e; simp
  · have h1 : ((gix K p : Int) == (gix K q : Int)) = false := by
      rw [beq_eq_false_iff_ne]
      intro r
      exact e (gix_inj h (by omega))
    rw [h1]
    obtain ⟨p1, p2, p3, p4⟩ := p
    obtain ⟨q1, q2, q3, q4⟩ := q
    have : ¬ (p1 = q1 ∧ p2 = q2 ∧ p3 = q3 ∧ p4 = q4) := fun r => e (by rw [r.1, r.2.1, r.2.2.1, r.2.2.2])
    by_cases r1 : p1 = q1 <;> by_cases r2 : p2 = q2 <;> by_cases r3 : p3 = q3 <;> by_cases r4 : p4 = q4 <;> simp_all

set_option maxHeartbeats 8000000 in
set_option maxRecDepth 100000 in
theorem back8 (TI : TabI) (hN : NilS) (T : TabK) (m : Int) (a : Option Addr) (c : Nat) (l : List K4) (w : World) (hl : Reads4 w a l) (hbig : (l.length : Int) ≤ 9223372036854775807) :
    Calls Try.prog 4 #[.int .i64 m, .slice a l.length c] w fun e w' => e = .returned (.bool true) ∧ Below w.heap.size w w' := by
  have haw := i_awake TI hN
  by_cases ho : 1 ≤ m ∧ m ≤ 20000
  · have hA := T.new_ok m w ho.1 ho.2
    have HL := Lib.hid hl
    clear hl hbig ho
    go_enter Try.func4, Try.ntmps4
    go_wp2_with fail
    refine hA.mono ?_; rintro e w1 ⟨B, F, rfl, hR, hb1, hF⟩
    clear hA
    by_cases h1 : 100 < l.length
    · go_wp2_with fail
      refine (haw _).mono ?_; rintro e w3 ⟨rfl, hb3⟩
      go_wp2_with fail
      go_ret
      exact ⟨rfl, hb1.trans (hb3.mono hb1.size)⟩
    · have HZ := Lib.hid h1
      have H0 : Hid (BaRel T w B m l.length (.slice none 0 0) (.slice none 0 0) (.int .i64 0) w1) := ⟨⟨0, [], [], F, Nat.zero_le _, rfl, hR, OwnO.nil _ _ _ _ _, OwnO.nil _ _ _ _ _, fun b q => by (cases q), by simp, hb1, hF, Nat.zero_le _, Nat.zero_le _⟩⟩
      clear hR hb1 hF
      go_wp2_with fail
      go_loopw [7, 8, 9] (fun s7 s8 i wr => BaRel T w B m l.length s7 s8 i wr) (fun _ _ i _ => l.length - (intOf i).toNat)
      case atStart => exact H0.out
      case round =>
        clear H0
        obtain ⟨k, K, P, F, hk, rfl, hR, h7, h8, h78, hP, hbw, hF, hKl, hPl⟩ := hrel.out
        clear hrel
        have HBW := Lib.hid hbw; have HF := Lib.hid hF; have HR := Lib.hid hR; have H7 := Lib.hid h7; have H8 := Lib.hid h8; have H78 := Lib.hid h78; have HP := Lib.hid hP
        by_cases hlt : k < l.length
        · obtain ⟨b, off, rfl, hc1, hc2, hc3, hc4, hs⟩ := HL.out k hlt
          have hbk : b < w.heap.size := World.block_lt_of_cell? w _ hc1
          have HC : Hid (∀ wy, Below w.heap.size w wy → wy.cell? ⟨b, off + k * 4, none⟩ = some (.int .i64 (l.getD k (0, 0, 0, 0)).1) ∧ wy.cell? ⟨b, off + k * 4 + 1, none⟩ = some (.int .i64 (l.getD k (0, 0, 0, 0)).2.1) ∧ wy.cell? ⟨b, off + k * 4 + 2, none⟩ = some (.int .i64 (l.getD k (0, 0, 0, 0)).2.2.1) ∧ wy.cell? ⟨b, off + k * 4 + 3, none⟩ = some (.int .i64 (l.getD k (0, 0, 0, 0)).2.2.2)) := fun wy h => ⟨(h.cell (p := ⟨b, _, none⟩) hbk).trans hc1, (h.cell (p := ⟨b, _, none⟩) hbk).trans hc2, (h.cell (p := ⟨b, _, none⟩) hbk).trans hc3, (h.cell (p := ⟨b, _, none⟩) hbk).trans hc4⟩
          clear hc1 hc2 hc3 hc4
          generalize l.getD k (0, 0, 0, 0) = s at *
          have i0 : (0 : Int) ≤ (k : Int) := by omega
          have i1 : (k : Int) < (l.length : Int) := by omega
          have HLT := Lib.hid hlt; have HSS := Lib.hid hs; have HKL := Lib.hid hKl; have HPL := Lib.hid hPl
          have hinv := T.inv hR
          have hid1 := T.id s hR hs
          by_cases hful : ¬ s ∈ K ∧ m ≤ (K.length : Int)
          · have hg := gid_full hinv.2.1 hful.1 hful.2
            rw [hg.1, hg.2.1, hg.2.2.1] at hid1
            have HG := Lib.hid hg
            clear hk hR h7 h8 h78 hP hbw hF hKl hPl hs hlt hinv hg hful
            obtain ⟨c1, c2, c3, c4⟩ := HC.out _ HBW.out
            go_wp2_with fail
            refine hid1.mono ?_; rintro e w3 ⟨rfl, F', hR', ht, hF'⟩
            clear c1 c2 c3 c4
            have HR' := Lib.hid hR'
            have H7' := Lib.hid (H7.out.turn ht (fun b q => (H7.out.2 b q).2) hF')
            have H8' := Lib.hid (H8.out.turn ht (fun b q => (H8.out.2 b q).2) hF')
            have HBW' := Lib.hid (HBW.out.trans (ht.below HF.out HBW.out.size))
            have HF' : Hid (∀ j, F' j → w.heap.size ≤ j) := fun j q => (hF' j q).elim (HF.out j) (fun q => Nat.le_trans HBW.out.size q)
            clear hR' ht hF' hid1 HR H7 H8 HBW HF
            obtain ⟨c1, c2, c3, c4⟩ := HC.out _ HBW'.out
            have hfd := T.find trivial s HR'.out HSS.out
            rw [HG.out.2.2.2.1, HG.out.2.2.2.2.1] at hfd
            go_wp2_with fail
            refine hfd.mono ?_; rintro e w4 ⟨rfl, hb4⟩
            have hln := T.len (T.below HR'.out hb4)
            rw [HG.out.2.2.2.2.2] at hln
            clear c1 c2 c3 c4 hfd
            go_wp2_with fail
            refine hln.mono ?_; rintro e w5 ⟨rfl, hb5⟩
            have J5 := Lib.hid (hb4.trans (hb5.mono hb4.size)); clear hb4 hb5 hln
            go_wp2_with fail
            go_roundw
            · exact ⟨⟨k + 1, K, P, F', by have := HLT.out; omega, by go_num, T.below HR'.out J5.out, H7'.out.below J5.out, H8'.out.below J5.out, H78.out, HP.out, HBW'.out.trans (J5.out.mono HBW'.out.size), HF'.out, by have := HKL.out; omega, by have := HPL.out; omega⟩⟩
            · have := HLT.out; simp [intOf]; omega
          · have hg := gid_there (K := K) (m := m) (s := s) (0, 0, 0, 0) (by
              by_cases q : s ∈ K
              · exact Or.inl q
              · exact Or.inr (fun r => hful ⟨q, r⟩))
            rw [hg.1, hg.2.2.1] at hid1
            have hsK := gat (0, 0, 0, 0) hg.2.1
            have hnm : nums (gidK K m s) P = nums K P := nums_same (fun q hq => (hg.2.2.2.1 q (hP q hq)).2)
            have hPP : ∀ q ∈ P, q ∈ gidK K m s := fun q hq => (hg.2.2.2.1 q (hP q hq)).1
            have hln : (gidK K m s).length ≤ k + 1 := by have := hg.2.2.2.2; omega
            have hIn : InR (gix (gidK K m s) s : Int) := by
              have := gix_lt hg.2.1
              have := HLT.out
              have := HZ.out
              unfold InR; omega
            rw [← hnm] at h7
            have hik := hg.2.1
            have H7 := Lib.hid h7; have HIK := Lib.hid hik; clear hik
            have HLN := Lib.hid hln; have HPP := Lib.hid hPP; have HIN := Lib.hid hIn; have HSK := Lib.hid hsK
            clear hk hR h7 h8 h78 hP hbw hF hKl hPl hs hlt hinv hg hful hnm hPP hln hIn hsK HP
            generalize gidK K m s = K' at *
            generalize hnn : (gix K' s : Int) = n at *
            have HNN := Lib.hid hnn; clear hnn
            obtain ⟨c1, c2, c3, c4⟩ := HC.out _ HBW.out
            go_wp2_with fail
            refine hid1.mono ?_; rintro e w3 ⟨rfl, F', hR', ht, hF'⟩
            clear c1 c2 c3 c4
            have HR' := Lib.hid hR'
            have H7' := Lib.hid (H7.out.turn ht (fun b q => (H7.out.2 b q).2) hF')
            have H8' := Lib.hid (H8.out.turn ht (fun b q => (H8.out.2 b q).2) hF')
            have HBW' := Lib.hid (HBW.out.trans (ht.below HF.out HBW.out.size))
            have HF' : Hid (∀ j, F' j → w.heap.size ≤ j) := fun j q => (hF' j q).elim (HF.out j) (fun q => Nat.le_trans HBW.out.size q)
            clear hR' ht hF' hid1 HR H7 H8 HBW HF
            have hky := T.key trivial n HR'.out HIN.out
            rw [HSK.out.1, HSK.out.2.1] at hky
            unfold enc4 at hky
            go_wp2_with fail
            refine hky.mono ?_; rintro e w4 ⟨rfl, hb4⟩
            have J4 := hb4.trans ((below1 w4 (.cells #[.int .i64 s.1, .int .i64 s.2.1, .int .i64 s.2.2.1, .int .i64 s.2.2.2] 46)).mono hb4.size)
            have hfd := T.find trivial s (T.below HR'.out J4) HSS.out
            rw [HSK.out.2.2.1, HSK.out.2.2.2] at hfd
            obtain ⟨c1, c2, c3, c4⟩ := HC.out _ (HBW'.out.trans (J4.mono HBW'.out.size))
            clear hky
            go_wp2_with fail
            refine hfd.mono ?_; rintro e w5 ⟨rfl, hb5⟩
            have hd := new4 (s := s) hb5
            have J5 := Lib.hid (J4.trans (hb5.mono J4.size))
            clear c1 c2 c3 c4 hfd hb4 hb5 J4
            have HR5 := Lib.hid (T.below HR'.out J5.out)
            have H75 := Lib.hid (H7'.out.below J5.out); have H85 := Lib.hid (H8'.out.below J5.out)
            have HB5 := Lib.hid (HBW'.out.trans (J5.out.mono HBW'.out.size))
            clear HR' H7' H8' HBW' J5
            obtain ⟨c1, c2, c3, c4⟩ := HC.out _ HB5.out
            obtain ⟨d1, d2, d3, d4⟩ := hd
            go_upto_region 16 with fail
            go_quiet (fail)
            have e1 : (!(s.1 == s.1 && (s.2.1 == s.2.1 && (s.2.2.1 == s.2.2.1 && s.2.2.2 == s.2.2.2)))) = false := by simp
            clear c1 c2 c3 c4 d1 d2 d3 d4
            have HFT : Hid (∀ j, F' j → j < w5.heap.size) := T.foot HR5.out
            have HPZ := Lib.hid (show P.length + 1 ≤ 1000000000 by have := HZ.out; have := HLT.out; have := HPL.out; omega)
            go_wp2_with (first
              | (at_builtin; refine wpList_push1 rfl (.tmp 115) (.tmp 117) 28 rfl F' w.heap.size 3 1 8 (.int .i64 0) (by kernel_rfl) int_info rfl (by decide) [.int .i64 n] rfl _ _ _ rfl (H75.out.drewN _) rfl (by intro u hu; simp at hu; subst hu; rfl) HPZ.out (by decide) HB5.out.size HFT.out ?_
                 intro v7 w7 o7 t7 l7
                 have HO7 := Lib.hid o7; have HT7 := Lib.hid t7; have HL7 := Lib.hid l7; clear o7 t7 l7
                 have hd7 := HT7.out.below (B := w.heap.size) (fun j q => (World.ownsRow.lt H75.out.1 j q).1) HB5.out.size
                 have hb7 : Below w.heap.size w w7 := (below_drewN HB5.out _).trans hd7
                 clear hd7
                 have HB7 := Lib.hid hb7; clear hb7
                 obtain ⟨c1, c2, c3, c4⟩ := HC.out _ HB7.out)
              | (at_builtin; refine wpList_push1 rfl (.tmp 119) (.tmp 124) 41 rfl F' w.heap.size 46 4 32 (.agg #[.int .i64 0, .int .i64 0, .int .i64 0, .int .i64 0]) (by kernel_rfl) stake_info rfl (by decide) [.int .i64 s.1, .int .i64 s.2.1, .int .i64 s.2.2.1, .int .i64 s.2.2.2] rfl _ _ _ rfl ((H85.out.drewN _).turn HT7.out (fun b q r => H78.out b r q) (fun j q => Or.inl q)) rfl (cells4_one s) HPZ.out (by decide) HB7.out.size (fun j q => Nat.lt_of_lt_of_le (HFT.out j q) HT7.out.size) ?_
                 intro v8 w8 o8 t8 l8
                 have HO8 := Lib.hid o8; have HT8 := Lib.hid t8; have HL8 := Lib.hid l8; clear o8 t8 l8))
            go_roundw
            · have hd7 : ∀ b, v7.ownBlock = some b → ¬ u8.ownBlock = some b := by
                intro b q r
                rcases HL7.out with e | ⟨g, e, hg⟩
                · exact H78.out b (e ▸ q) r
                · rw [e] at q
                  cases q
                  exact Nat.lt_irrefl _ (Nat.lt_of_lt_of_le (H85.out.2 _ r).1 hg)
              have hnn : nums K' (P ++ [s]) = nums K' P ++ [.int .i64 n] := by simp [nums, HNN.out]
              refine ⟨⟨k + 1, K', P ++ [s], F', by have := HLT.out; omega, by go_num, ?_, ?_, ?_, ?_, ?_, ?_, HF'.out, HLN.out, by have := HPL.out; simp; omega⟩⟩
              · exact T.turn (T.turn (T.below HR5.out (below_drewN (Below.refl _ _) _)) HT7.out (fun j q r => (H75.out.2 j r).2 q)) HT8.out (fun j q r => (H85.out.2 j r).2 q)
              · rw [hnn, List.length_append]
                exact HO7.out.turn HT8.out hd7 (fun j q => Or.inl q)
              · rw [← row4_app, List.length_append]
                exact HO8.out
              · intro b q r
                rcases HL8.out with e | ⟨g, e, hg⟩
                · exact hd7 b q (e ▸ r)
                · rw [e] at r
                  cases r
                  exact Nat.lt_irrefl _ (Nat.lt_of_lt_of_le (HO7.out.2 _ q).1 hg)
              · intro q hq
                rcases List.mem_append.1 hq with hq | hq
                · exact HPP.out q hq
                · rw [List.mem_singleton.1 hq]; exact HIK.out
              · have hd8 := HT8.out.below (B := w.heap.size) (fun j q => (World.ownsRow.lt H85.out.1 j q).1) HB7.out.size
                exact HB7.out.trans hd8
            · have := HLT.out; simp [intOf]; omega
        · obtain rfl : k = l.length := by omega
          obtain ⟨_, _, hf7⟩ := (ownsRow_slc h7.1).form
          obtain ⟨_, _, hf8⟩ := (ownsRow_slc h8.1).form
          subst hf7
          subst hf8
          have HRD := Lib.hid (reads_n (ownsRow_slc h7.1) (ownsRow_slc h8.1))
          have HPZ := Lib.hid (show P.length ≤ 100 by have := HZ.out; omega)
          have HKZ := Lib.hid hKl
          clear hk hlt hR h7 h8 h78 hP hbw hF hKl hPl H7 H8 H78
          generalize wr = wE at *
          go_wp2_with fail
          go_loopw [18] (fun i wx => ∃ k : Nat, k ≤ P.length ∧ i = .int .i64 (k : Int) ∧ Below wE.heap.size wE wx) (fun i _ => P.length - (intOf i).toNat)
          case atStart => exact ⟨0, Nat.zero_le _, rfl, Below.refl _ _⟩
          case round =>
            obtain ⟨k, hk, rfl, hbx⟩ := hrel
            have hpz := HPZ.out
            by_cases hlt : k < P.length
            · go_wp2_with fail
              go_loopw [19] (fun j wy => ∃ q : Nat, q ≤ k ∧ j = .int .i64 (q : Int) ∧ Below wE.heap.size wE wy) (fun j _ => k - (intOf j).toNat)
              case atStart => exact ⟨0, Nat.zero_le _, rfl, hbx⟩
              case round =>
                clear hbx
                obtain ⟨q, hq, rfl, hbx⟩ := hrel
                by_cases hql : q < k
                · obtain ⟨b, off, b', off', rfl, rfl, x, x0, x1, x2, x3⟩ := (HRD.out.below hbx) k hlt
                  obtain ⟨_, _, _, _, f1, f2, y, y0, y1, y2, y3⟩ := (HRD.out.below hbx) q (Nat.lt_trans hql hlt)
                  cases f1; cases f2
                  have hsm := same_num (K := K) (p := P.getD k (0, 0, 0, 0)) (q := P.getD q (0, 0, 0, 0)) (HP.out _ (by rw [show P.getD k (0, 0, 0, 0) = P[k] by simp [List.getD, hlt]]; exact List.getElem_mem _))
                  generalize P.getD k (0, 0, 0, 0) = u at *
                  generalize P.getD q (0, 0, 0, 0) = v at *
                  generalize (gix K u : Int) = n at *
                  generalize (gix K v : Int) = n' at *
                  have hes := fun wx => eq_stake u.1 u.2.1 u.2.2.1 u.2.2.2 v.1 v.2.1 v.2.2.1 v.2.2.2 wx
                  rw [← hsm] at hes
                  clear hsm
                  generalize hne : (n == n') = e at *
                  have i0 : (0 : Int) ≤ (k : Int) := by omega
                  have i1 : (k : Int) < (P.length : Int) := by omega
                  have i2 : (0 : Int) ≤ (q : Int) := by omega
                  have i3 : (q : Int) < (P.length : Int) := by omega
                  go_upto_region 26 with fail
                  go_quiet (fail)
                  have e2 : (e != e) = false := by cases e <;> rfl
                  go_wp2_with fail
                  go_roundw
                  · exact ⟨q + 1, by omega, by go_num, below_drewN hbx _⟩
                  · simp [intOf]; omega
                · obtain rfl : q = k := by omega
                  go_wp2_with fail
                  go_roundw
                  · exact ⟨q + 1, by omega, by go_num, hbx⟩
                  · simp [intOf]; omega
            · obtain rfl : k = P.length := by omega
              clear hlt hk
              have HBX := Lib.hid hbx; clear hbx hpz
              go_wp2_with fail
              go_loopw [20] (fun j wy => ∃ q : Nat, q ≤ K.length ∧ j = .int .i64 (q : Int) ∧ Below wE.heap.size wE wy) (fun j _ => K.length - (intOf j).toNat)
              case atStart => exact ⟨0, Nat.zero_le _, rfl, HBX.out⟩
              case round =>
                clear HBX
                obtain ⟨q, hq, rfl, hbx⟩ := hrel
                have hR := T.below HR.out hbx
                have hl1 := T.len hR
                have HRx := Lib.hid hR
                have HBx := Lib.hid hbx
                have hkz := HKZ.out
                have hlz := HZ.out
                by_cases hql : q < K.length
                · have hinv := T.inv hR
                  have hg := gidx (0, 0, 0, 0) hinv.1 q hql
                  have hoks : Hid (ok4 (K.getD q (0, 0, 0, 0))) := hinv.2.2.2.2 _ hg.2.2.2
                  have HIQ : Hid (InR (q : Int)) := by show InR (q : Int); unfold InR; omega
                  have HG := Lib.hid (And.intro hg.1 (And.intro hg.2.1 (And.intro hg.2.2.1 (gat (0, 0, 0, 0) hg.2.2.2).2.2.2)))
                  have HQL := Lib.hid hql
                  clear hinv hg hR hbx
                  have hq2 : (q : Int) < 200 := by omega
                  have hq3 : (q : Int) < (K.length : Int) := by omega
                  go_wp2_with fail
                  refine hl1.mono ?_; rintro e w3 ⟨rfl, hb3⟩
                  have hky := T.key trivial (q : Int) (T.below HRx.out hb3) HIQ.out
                  rw [HG.out.1, HG.out.2.1] at hky
                  unfold enc4 at hky
                  have hf : ∀ wy, Below wr.heap.size wr wy → _ := fun wy h => T.find trivial (K.getD q (0, 0, 0, 0)) (T.below HRx.out h) hoks.out
                  simp only [HG.out.2.2.1, HG.out.2.2.2] at hf
                  unfold enc4 at hf
                  clear HG
                  generalize K.getD q (0, 0, 0, 0) = s at *
                  have HF4 := Lib.hid hf
                  clear hf hoks
                  go_wp2_with fail
                  refine hky.mono ?_; rintro e w4 ⟨rfl, hb4⟩
                  obtain ⟨d1, d2, d3, d4⟩ := new4 (w := w4) (s := s) (Below.refl _ _)
                  have J5 := Lib.hid ((hb3.trans (hb4.mono hb3.size)).trans ((below1 w4 (.cells #[.int .i64 s.1, .int .i64 s.2.1, .int .i64 s.2.2.1, .int .i64 s.2.2.2] 46)).mono (Nat.le_trans hb3.size hb4.size)))
                  clear hb3 hb4 hky hl1
                  go_wp2_with fail
                  refine (HF4.out _ J5.out).mono ?_; rintro e w5 ⟨rfl, hb5⟩
                  have J6 := Lib.hid (J5.out.trans (hb5.mono J5.out.size)); clear J5 hb5 d1 d2 d3 d4
                  go_wp2_with fail
                  go_roundw
                  · exact ⟨q + 1, by omega, by go_num, HBx.out.trans (J6.out.mono HBx.out.size)⟩
                  · simp [intOf]; omega
                · obtain rfl : q = K.length := by omega
                  have hle : decide ((K.length : Int) ≤ (l.length : Int)) = true := decide_eq_true (by omega)
                  have HIQ : Hid (InR (K.length : Int)) := by show InR (K.length : Int); unfold InR; omega
                  have hkey : ∀ wy, Below wr.heap.size wr wy → _ := fun wy h => T.key trivial (K.length : Int) (T.below HRx.out h) HIQ.out
                  simp only [gend] at hkey
                  unfold enc4 at hkey
                  generalize gkey (0, 0, 0, 0) K (K.length : Int) = s at *
                  have hlen : ∀ wy, Below wr.heap.size wr wy → _ := fun wy h => T.len (T.below HRx.out h)
                  have HKE := Lib.hid hkey; have HLE := Lib.hid hlen
                  clear hkey hlen hR hbx hq hql
                  go_wp2_with fail
                  refine hl1.mono ?_; rintro e w3 ⟨rfl, hb3⟩
                  go_wp2_with fail
                  refine (HLE.out _ hb3).mono ?_; rintro e w4 ⟨rfl, hb4⟩
                  have J4 := Lib.hid (hb3.trans (hb4.mono hb3.size)); clear hb3 hb4 hl1
                  go_wp2_with fail
                  refine (HKE.out _ J4.out).mono ?_; rintro e w5 ⟨rfl, hb5⟩
                  have J5 := Lib.hid ((J4.out.trans (hb5.mono J4.out.size)).trans ((below1 w5 (.cells #[.int .i64 s.1, .int .i64 s.2.1, .int .i64 s.2.2.1, .int .i64 s.2.2.2] 46)).mono (Nat.le_trans J4.out.size hb5.size)))
                  clear J4 hb5
                  go_wp2_with fail
                  refine (HLE.out _ J5.out).mono ?_; rintro e w6 ⟨rfl, hb6⟩
                  have J6 := Lib.hid (J5.out.trans (hb6.mono J5.out.size)); clear J5 hb6
                  go_wp2_with fail
                  refine (haw _).mono ?_; rintro e w7 ⟨rfl, hb7⟩
                  go_wp2_with fail
                  go_ret
                  exact ⟨rfl, HBW.out.trans ((HBx.out.trans ((J6.out.trans (hb7.mono J6.out.size)).mono HBx.out.size)).mono HBW.out.size)⟩
  · have hA := T.new_no m w ho
    clear hl hbig ho
    go_enter Try.func4, Try.ntmps4
    go_wp2_with fail
    refine hA.mono ?_; rintro e w1 ⟨rfl, hb1⟩
    clear hA
    by_cases h1 : 100 < l.length
    · go_wp2_with fail
      refine (haw _).mono ?_; rintro e w3 ⟨rfl, hb3⟩
      go_wp2_with fail
      go_ret
      exact ⟨rfl, hb1.trans (hb3.mono hb1.size)⟩
    · go_wp2_with fail
      refine (haw _).mono ?_; rintro e w3 ⟨rfl, hb3⟩
      go_wp2_with fail
      go_ret
      exact ⟨rfl, hb1.trans (hb3.mono hb1.size)⟩
end Go.Proofs.Yteeonglebimnlaa
