/-
  BitsRise of layer 11 answers true over the landed set, for whatever row and number. The conditions: the row reads as its list; the library's table lies as it was laid.
-/
import Derived.Test.YtiolicadnomagaaDoorBtF
import Derived.Deep.DeepCutAuto
import Derived.Deep.RegionHeld3
namespace Go.Proofs.YtiolicadnomagaaDoor
open Go.RowKit
set_option linter.unusedSimpArgs false
set_option linter.unusedVariables false

theorem rises_step {S : List Int} (h : Rises S) {k : Nat} (hk : k + 1 < S.length) : S.getD k 0 < S.getD (k + 1) 0 := by
  rw [getD_lt _ _ (by omega), getD_lt _ _ hk]
  exact List.pairwise_iff_getElem.1 h k (k + 1) (by omega) hk (by omega)
theorem slice_11 (a : Option Addr) (n c p : Nat) (h0 : (0 : Int) ≤ (p : Int)) (h : (p : Int) ≤ (c : Int)) (w : World) : (Instr.slice 26 (.slice a n c) none (some (.int .i64 (p : Int))) none).run Tryd.prog w = .ok (.slice a p c) w := by
  rw [run_slice_h w 26 a n c Tryd.underlying26 .i64 (p : Int) h0 h]
  rcases a with _ | x <;> simp [go_sem, sliced, Addr.add]
/-- What holds at both loops' heads. -/
structure RsRel (w : World) (B : Nat) (F : Nat → Prop) (S : List Int) (v : Value) (n : Nat) (i : Value) (wr : World) : Prop where
  out : ∃ k : Nat, k ≤ n ∧ i = .int .i64 (k : Int) ∧ OneS w wr B S F ∧ Sl wr v S
set_option maxHeartbeats 8000000 in
set_option maxRecDepth 100000 in
theorem rises11 (a : Option Addr) (c : Nat) (l : List Int) (m : Int) (w : World) (hl : Reads w a l) (hbig : (l.length : Int) ≤ 9223372036854775807) (hm : InR m) (hT : TabD w) :
    Calls Tryd.prog 5 #[.slice a l.length c, .int .i64 m] w fun e w' => e = .returned (.bool true) ∧ Below w.heap.size w w' := by
  have hf1 := filled11 a c l w hl hbig
  have HL := Lib.hid hl; have HT := Lib.hid hT; have HM := Lib.hid hm
  have hmem := Lib.hid (mem_fil l)
  clear hl hbig hT hm
  go_enter Tryd.func5, Tryd.ntmps5
  go_wp2_with fail
  refine hf1.mono ?_; rintro e w1 ⟨B, F, rfl, h1⟩
  have H1 := Lib.hid h1
  clear hf1 h1
  generalize fil l = S at *
  have haw := b_awake w1 (HT.out.below H1.out.b)
  by_cases hc : 100 < l.length ∨ m < 1
  · have HAW := Lib.hid haw
    clear haw
    by_cases hc2 : 100 < l.length
    · have d2 : decide (100 < (l.length : Int)) = true := decide_eq_true (by omega)
      go_wp2_with fail
      all_goals (refine HAW.out.mono ?_; rintro e w4 ⟨rfl, hb4⟩)
      all_goals go_wp2_with fail
      all_goals go_ret
      all_goals exact ⟨rfl, H1.out.b.trans (hb4.mono H1.out.b.size)⟩
    · have d2 : decide (100 < (l.length : Int)) = false := decide_eq_false (by omega)
      have d3 : decide (m < 1) = true := decide_eq_true (by omega)
      go_wp2_with fail
      all_goals (refine HAW.out.mono ?_; rintro e w4 ⟨rfl, hb4⟩)
      all_goals go_wp2_with fail
      all_goals go_ret
      all_goals exact ⟨rfl, H1.out.b.trans (hb4.mono H1.out.b.size)⟩
  · have d2 : decide (100 < (l.length : Int)) = false := decide_eq_false (by omega)
    have d3 : decide (m < 1) = false := decide_eq_false (by omega)
    have HN : Hid (l.length ≤ 100 ∧ 1 ≤ m) := ⟨by omega, by omega⟩
    clear haw hc
    have hal := all_s H1.out.r (HT.out.below H1.out.b)
    go_wp2_with fail
    refine hal.mono ?_; rintro e w2 ⟨u, rfl, hu, hb⟩
    obtain ⟨ax, cx, rfl, hcx, hcx0, rx⟩ := hu
    have HX0 : Hid (RsRel w B F S (.slice ax S.length cx) S.length (.int .i64 0) w2) := ⟨⟨0, Nat.zero_le _, rfl, H1.out.below hb, ax, cx, rfl, hcx, hcx0, rx⟩⟩
    have HSH : Hid (S.length ≤ 65536 ∧ Rises S) := ⟨H1.out.r.short, H1.out.r.rises⟩
    have HCX : Hid (S.length ≤ cx) := hcx
    clear hal hb rx hcx hcx0
    go_wp2_with fail
    go_loopw [7] (fun i wr => RsRel w B F S (.slice ax S.length cx) S.length i wr) (fun i _ => S.length - (intOf i).toNat)
    case atStart => exact HX0.out
    case round =>
      clear HX0
      obtain ⟨k, hk, rfl, hO, hV⟩ := hrel.out
      clear hrel
      by_cases hlt : k < S.length
      · obtain ⟨_, _, e7, h2, h3, rx⟩ := hV
        cases e7
        obtain ⟨b, off, hb0, hc⟩ := rx.2 k hlt
        subst hb0
        have hzi := rx.at k hlt
        have hzS : S.getD k 0 ∈ S := by rw [getD_lt _ _ hlt]; exact List.getElem_mem hlt
        have hzl : S.getD k 0 ∈ l := ((hmem.out _).1 hzS).2
        have HO := Lib.hid hO; have HVV : Hid (Sl wr (.slice (some ⟨b, off, none⟩) S.length cx) S) := ⟨_, _, rfl, h2, h3, rx⟩
        have KB := Lib.hid (Below.refl wr.heap.size wr)
        have HRH := Lib.hid (fun wz (hb : Below wr.heap.size wr wz) => has_any a c l (S.getD k 0) wz ((HL.out.below hO.b).below hb) (by have := HN.out; omega))
        rw [decide_eq_true hzl] at HRH
        have HHS := Lib.hid (fun wz (hb : Below wr.heap.size wr wz) => has_s (hO.below hb).r (S.getD k 0) hzi)
        rw [decide_eq_true hzS] at HHS
        have hu1 : wrap64 ((k : Int) + 1) = ((k + 1 : Nat) : Int) := by have := HSH.out; unfold wrap64; omega
        have hu2 : IntKind.i64.wrap ((k : Int) + 1) = ((k + 1 : Nat) : Int) := by have := HSH.out; simp [IntKind.wrap, IntKind.signed, IntKind.bits]; omega
        have HLT := Lib.hid hlt
        have i0 : (0 : Int) ≤ (k : Int) := by omega
        have i1 : (k : Int) < (S.length : Int) := by omega
        by_cases hk0 : k = 0
        · have g0 : decide ((0 : Int) < (k : Int)) = false := decide_eq_false (by omega)
          have g0' : decide (0 < k) = false := decide_eq_false (by omega)
          have hbw : b < wr.heap.size := World.block_lt_of_cell? wr _ hc
          have HCC : Hid (∀ wz, Below wr.heap.size wr wz → wz.cell? ⟨b, off + k, none⟩ = some (.int .i64 (S.getD k 0))) := fun wz hb => (hb.cell (p := ⟨b, _, none⟩) hbw).trans hc
          clear hO rx h2 h3 hzi hzS hzl hlt hk hbw hk0
          generalize S.getD k 0 = z at *
          go_wp2_with fail
          refine wp_region_held_drew (S := (fun wz => wz.cell? ⟨b, off + k, none⟩ = some (.int .i64 z))) (by kernel_rfl) (HCC.out _ KB.out.drew) (fun hHeld => ?_)
          refine wpAnyH_take (i := 0) (v := ?_) rfl (by kernel_rfl) (by kernel_rfl) (by kernel_rfl) (fun _ _ _ h => h) (Or.inl ⟨by rfl, ?y0⟩) (by assumption) ?_
          case y0 => intro w hSw; (try dsimp only at hSw); go_simp; (try with_reducible rfl)
          (try simp only [Act.put, List.setIfInBounds_toArray, List.set_cons_zero, List.set_cons_succ, List.getElem_toArray, List.getElem_cons_zero, List.getElem_cons_succ])
          refine wpAnyH_take (i := 1) (v := ?_) rfl (by kernel_rfl) (by kernel_rfl) (by kernel_rfl) (fun _ _ _ h => h) (Or.inl ⟨by rfl, ?y1⟩) (by assumption) ?_
          case y1 => intro w hSw; (try dsimp only at hSw); go_simp; (try with_reducible rfl)
          (try simp only [Act.put, List.setIfInBounds_toArray, List.set_cons_zero, List.set_cons_succ, List.getElem_toArray, List.getElem_cons_zero, List.getElem_cons_succ])
          refine wpAnyH_take (i := 2) (v := ?_) rfl (by kernel_rfl) (by kernel_rfl) (by kernel_rfl) (fun _ _ _ h => h) (Or.inl ⟨by rfl, ?y2⟩) (by assumption) ?_
          case y2 => intro w hSw; (try dsimp only at hSw); go_simp; (try with_reducible rfl)
          (try simp only [Act.put, List.setIfInBounds_toArray, List.set_cons_zero, List.set_cons_succ, List.getElem_toArray, List.getElem_cons_zero, List.getElem_cons_succ])
          refine wpAnyH_take (i := 3) (v := undef) rfl (by kernel_rfl) (by kernel_rfl) (by kernel_rfl) (fun _ _ _ h => h) (Or.inr ⟨by rfl, rfl⟩) (by assumption) ?_
          (try simp only [Act.put, List.setIfInBounds_toArray, List.set_cons_zero, List.set_cons_succ, List.getElem_toArray, List.getElem_cons_zero, List.getElem_cons_succ])
          refine wpAnyH_take (i := 4) (v := undef) rfl (by kernel_rfl) (by kernel_rfl) (by kernel_rfl) (fun _ _ _ h => h) (Or.inr ⟨by rfl, rfl⟩) (by assumption) ?_
          (try simp only [Act.put, List.setIfInBounds_toArray, List.set_cons_zero, List.set_cons_succ, List.getElem_toArray, List.getElem_cons_zero, List.getElem_cons_succ])
          refine wpAnyH_take (i := 5) (v := undef) rfl (by kernel_rfl) (by kernel_rfl) (by kernel_rfl) (fun _ _ _ h => h) (Or.inr ⟨by rfl, rfl⟩) (by assumption) ?_
          (try simp only [Act.put, List.setIfInBounds_toArray, List.set_cons_zero, List.set_cons_succ, List.getElem_toArray, List.getElem_cons_zero, List.getElem_cons_succ])
          refine wpAnyH_take (i := 6) (v := undef) rfl (by kernel_rfl) (by kernel_rfl) (by kernel_rfl) (fun _ _ _ h => h) (Or.inr ⟨by rfl, rfl⟩) (by assumption) ?_
          (try simp only [Act.put, List.setIfInBounds_toArray, List.set_cons_zero, List.set_cons_succ, List.getElem_toArray, List.getElem_cons_zero, List.getElem_cons_succ])
          refine wpAnyH_take (i := 7) (v := undef) rfl (by kernel_rfl) (by kernel_rfl) (by kernel_rfl) (fun _ _ _ h => h) (Or.inr ⟨by rfl, rfl⟩) (by assumption) ?_
          (try simp only [Act.put, List.setIfInBounds_toArray, List.set_cons_zero, List.set_cons_succ, List.getElem_toArray, List.getElem_cons_zero, List.getElem_cons_succ])
          refine wpAnyH_take (i := 8) (v := undef) rfl (by kernel_rfl) (by kernel_rfl) (by kernel_rfl) (fun _ _ _ h => h) (Or.inr ⟨by rfl, rfl⟩) (by assumption) ?_
          (try simp only [Act.put, List.setIfInBounds_toArray, List.set_cons_zero, List.set_cons_succ, List.getElem_toArray, List.getElem_cons_zero, List.getElem_cons_succ])
          refine wpAnyH_take (i := 9) (v := undef) rfl (by kernel_rfl) (by kernel_rfl) (by kernel_rfl) (fun _ _ _ h => h) (Or.inr ⟨by rfl, rfl⟩) (by assumption) ?_
          (try simp only [Act.put, List.setIfInBounds_toArray, List.set_cons_zero, List.set_cons_succ, List.getElem_toArray, List.getElem_cons_zero, List.getElem_cons_succ])
          refine wpAnyH_take (i := 10) (v := undef) rfl (by kernel_rfl) (by kernel_rfl) (by kernel_rfl) (fun _ _ _ h => h) (Or.inr ⟨by rfl, rfl⟩) (by assumption) ?_
          (try simp only [Act.put, List.setIfInBounds_toArray, List.set_cons_zero, List.set_cons_succ, List.getElem_toArray, List.getElem_cons_zero, List.getElem_cons_succ])
          refine wpAnyH_take (i := 11) (v := undef) rfl (by kernel_rfl) (by kernel_rfl) (by kernel_rfl) (fun _ _ _ h => h) (Or.inr ⟨by rfl, rfl⟩) (by assumption) ?_
          (try simp only [Act.put, List.setIfInBounds_toArray, List.set_cons_zero, List.set_cons_succ, List.getElem_toArray, List.getElem_cons_zero, List.getElem_cons_succ])
          refine wpAnyH_take (i := 12) (v := undef) rfl (by kernel_rfl) (by kernel_rfl) (by kernel_rfl) (fun _ _ _ h => h) (Or.inr ⟨by rfl, rfl⟩) (by assumption) ?_
          (try simp only [Act.put, List.setIfInBounds_toArray, List.set_cons_zero, List.set_cons_succ, List.getElem_toArray, List.getElem_cons_zero, List.getElem_cons_succ])
          refine wpAnyH_take (i := 13) (v := ?_) rfl (by kernel_rfl) (by kernel_rfl) (by kernel_rfl) (fun _ _ _ h => h) (Or.inl ⟨by rfl, ?y13⟩) (by assumption) ?_
          case y13 => intro w hSw; (try dsimp only at hSw); go_simp; (try with_reducible rfl)
          (try simp only [Act.put, List.setIfInBounds_toArray, List.set_cons_zero, List.set_cons_succ, List.getElem_toArray, List.getElem_cons_zero, List.getElem_cons_succ])
          refine wpAnyH_take (i := 14) (v := ?_) rfl (by kernel_rfl) (by kernel_rfl) (by kernel_rfl) (fun _ _ _ h => h) (Or.inl ⟨by rfl, ?y14⟩) (by assumption) ?_
          case y14 => intro w hSw; (try dsimp only at hSw); go_simp; (try with_reducible rfl)
          (try simp only [Act.put, List.setIfInBounds_toArray, List.set_cons_zero, List.set_cons_succ, List.getElem_toArray, List.getElem_cons_zero, List.getElem_cons_succ])
          refine wpAnyH_take (i := 15) (v := ?_) rfl (by kernel_rfl) (by kernel_rfl) (by kernel_rfl) (fun _ _ _ h => h) (Or.inl ⟨by rfl, ?y15⟩) (by assumption) ?_
          case y15 => intro w hSw; (try dsimp only at hSw); go_simp; (try with_reducible rfl)
          (try simp only [Act.put, List.setIfInBounds_toArray, List.set_cons_zero, List.set_cons_succ, List.getElem_toArray, List.getElem_cons_zero, List.getElem_cons_succ])
          refine wpAnyH_take (i := 16) (v := ?_) rfl (by kernel_rfl) (by kernel_rfl) (by kernel_rfl) (fun _ _ _ h => h) (Or.inl ⟨by rfl, ?y16⟩) (by assumption) ?_
          case y16 => intro w hSw; (try dsimp only at hSw); go_simp; (try with_reducible rfl)
          (try simp only [Act.put, List.setIfInBounds_toArray, List.set_cons_zero, List.set_cons_succ, List.getElem_toArray, List.getElem_cons_zero, List.getElem_cons_succ])
          refine wpAnyH_take (i := 17) (v := ?_) rfl (by kernel_rfl) (by kernel_rfl) (by kernel_rfl) (fun _ _ _ h => h) (Or.inl ⟨by rfl, ?y17⟩) (by assumption) ?_
          case y17 => intro w hSw; (try dsimp only at hSw); go_simp; (try with_reducible rfl)
          (try simp only [Act.put, List.setIfInBounds_toArray, List.set_cons_zero, List.set_cons_succ, List.getElem_toArray, List.getElem_cons_zero, List.getElem_cons_succ])
          refine wpAnyH_take (i := 18) (v := ?_) rfl (by kernel_rfl) (by kernel_rfl) (by kernel_rfl) (fun _ _ _ h => h) (Or.inl ⟨by rfl, ?y18⟩) (by assumption) ?_
          case y18 => intro w hSw; (try dsimp only at hSw); go_simp; (try with_reducible rfl)
          (try simp only [Act.put, List.setIfInBounds_toArray, List.set_cons_zero, List.set_cons_succ, List.getElem_toArray, List.getElem_cons_zero, List.getElem_cons_succ])
          refine wpAnyH_take (i := 19) (v := ?_) rfl (by kernel_rfl) (by kernel_rfl) (by kernel_rfl) (fun _ _ _ h => h) (Or.inl ⟨by rfl, ?y19⟩) (by assumption) ?_
          case y19 => intro w hSw; (try dsimp only at hSw); go_simp; (try with_reducible rfl)
          (try simp only [Act.put, List.setIfInBounds_toArray, List.set_cons_zero, List.set_cons_succ, List.getElem_toArray, List.getElem_cons_zero, List.getElem_cons_succ])
          refine wpAnyH_ready (rs := [20]) (by kernel_rfl) (by simp) ?_
          refine AllReadyH.cons rfl (fun K hK => ?_) AllReadyH.nil
          go_simp
          refine (HRH.out _ KB.out.drew).mono ?_; rintro e wn ⟨rfl, rfl⟩
          replace KB := Lib.hid KB.out.drew
          refine hK.out _ _ (HCC.out _ KB.out) (fun hHeld => ?_)
          clear hK K
          (try simp only [Act.put, List.setIfInBounds_toArray, List.set_cons_zero, List.set_cons_succ, List.getElem_toArray, List.getElem_cons_zero, List.getElem_cons_succ])
          refine wpAnyH_take (i := 21) (v := ?_) rfl (by kernel_rfl) (by kernel_rfl) (by kernel_rfl) (fun _ _ _ h => h) (Or.inl ⟨by rfl, ?y21⟩) (by assumption) ?_
          case y21 => intro w hSw; (try dsimp only at hSw); go_simp; (try with_reducible rfl)
          (try simp only [Act.put, List.setIfInBounds_toArray, List.set_cons_zero, List.set_cons_succ, List.getElem_toArray, List.getElem_cons_zero, List.getElem_cons_succ])
          refine wpAnyH_take (i := 22) (v := ?_) rfl (by kernel_rfl) (by kernel_rfl) (by kernel_rfl) (fun _ _ _ h => h) (Or.inl ⟨by rfl, ?y22⟩) (by assumption) ?_
          case y22 => intro w hSw; (try dsimp only at hSw); go_simp; (try with_reducible rfl)
          (try simp only [Act.put, List.setIfInBounds_toArray, List.set_cons_zero, List.set_cons_succ, List.getElem_toArray, List.getElem_cons_zero, List.getElem_cons_succ])
          refine wpAnyH_take (i := 23) (v := ?_) rfl (by kernel_rfl) (by kernel_rfl) (by kernel_rfl) (fun _ _ _ h => h) (Or.inl ⟨by rfl, ?y23⟩) (by assumption) ?_
          case y23 => intro w hSw; (try dsimp only at hSw); go_simp; (try with_reducible rfl)
          (try simp only [Act.put, List.setIfInBounds_toArray, List.set_cons_zero, List.set_cons_succ, List.getElem_toArray, List.getElem_cons_zero, List.getElem_cons_succ])
          refine wpAnyH_take (i := 24) (v := ?_) rfl (by kernel_rfl) (by kernel_rfl) (by kernel_rfl) (fun _ _ _ h => h) (Or.inl ⟨by rfl, ?y24⟩) (by assumption) ?_
          case y24 => intro w hSw; (try dsimp only at hSw); go_simp; (try with_reducible rfl)
          (try simp only [Act.put, List.setIfInBounds_toArray, List.set_cons_zero, List.set_cons_succ, List.getElem_toArray, List.getElem_cons_zero, List.getElem_cons_succ])
          refine wpAnyH_take (i := 25) (v := ?_) rfl (by kernel_rfl) (by kernel_rfl) (by kernel_rfl) (fun _ _ _ h => h) (Or.inl ⟨by rfl, ?y25⟩) (by assumption) ?_
          case y25 => intro w hSw; (try dsimp only at hSw); go_simp; (try with_reducible rfl)
          (try simp only [Act.put, List.setIfInBounds_toArray, List.set_cons_zero, List.set_cons_succ, List.getElem_toArray, List.getElem_cons_zero, List.getElem_cons_succ])
          refine wpAnyH_take (i := 26) (v := ?_) rfl (by kernel_rfl) (by kernel_rfl) (by kernel_rfl) (fun _ _ _ h => h) (Or.inl ⟨by rfl, ?y26⟩) (by assumption) ?_
          case y26 => intro w hSw; (try dsimp only at hSw); go_simp; (try with_reducible rfl)
          (try simp only [Act.put, List.setIfInBounds_toArray, List.set_cons_zero, List.set_cons_succ, List.getElem_toArray, List.getElem_cons_zero, List.getElem_cons_succ])
          refine wpAnyH_take (i := 27) (v := ?_) rfl (by kernel_rfl) (by kernel_rfl) (by kernel_rfl) (fun _ _ _ h => h) (Or.inl ⟨by rfl, ?y27⟩) (by assumption) ?_
          case y27 => intro w hSw; (try dsimp only at hSw); go_simp; (try with_reducible rfl)
          (try simp only [Act.put, List.setIfInBounds_toArray, List.set_cons_zero, List.set_cons_succ, List.getElem_toArray, List.getElem_cons_zero, List.getElem_cons_succ])
          refine wpAnyH_take (i := 28) (v := ?_) rfl (by kernel_rfl) (by kernel_rfl) (by kernel_rfl) (fun _ _ _ h => h) (Or.inl ⟨by rfl, ?y28⟩) (by assumption) ?_
          case y28 => intro w hSw; (try dsimp only at hSw); go_simp; (try with_reducible rfl)
          (try simp only [Act.put, List.setIfInBounds_toArray, List.set_cons_zero, List.set_cons_succ, List.getElem_toArray, List.getElem_cons_zero, List.getElem_cons_succ])
          refine wpAnyH_ready (rs := [29]) (by kernel_rfl) (by simp) ?_
          refine AllReadyH.cons rfl (fun K hK => ?_) AllReadyH.nil
          go_simp
          refine (HHS.out _ KB.out).mono ?_; rintro e wn ⟨rfl, hbn⟩
          replace KB := Lib.hid (KB.out.trans (hbn.mono KB.out.size)); clear hbn
          refine hK.out _ _ (HCC.out _ KB.out) (fun hHeld => ?_)
          clear hK K
          (try simp only [Act.put, List.setIfInBounds_toArray, List.set_cons_zero, List.set_cons_succ, List.getElem_toArray, List.getElem_cons_zero, List.getElem_cons_succ])
          refine wpAnyH_take (i := 30) (v := ?_) rfl (by kernel_rfl) (by kernel_rfl) (by kernel_rfl) (fun _ _ _ h => h) (Or.inl ⟨by rfl, ?y30⟩) (by assumption) ?_
          case y30 => intro w hSw; (try dsimp only at hSw); go_simp; (try with_reducible rfl)
          (try simp only [Act.put, List.setIfInBounds_toArray, List.set_cons_zero, List.set_cons_succ, List.getElem_toArray, List.getElem_cons_zero, List.getElem_cons_succ])
          refine wpAnyH_take (i := 31) (v := ?_) rfl (by kernel_rfl) (by kernel_rfl) (by kernel_rfl) (fun _ _ _ h => h) (Or.inl ⟨by rfl, ?y31⟩) (by assumption) ?_
          case y31 => intro w hSw; (try dsimp only at hSw); go_simp; (try with_reducible rfl)
          (try simp only [Act.put, List.setIfInBounds_toArray, List.set_cons_zero, List.set_cons_succ, List.getElem_toArray, List.getElem_cons_zero, List.getElem_cons_succ])
          refine wpAnyH_done (by kernel_rfl) ?_ _
          go_wp2_with fail
          go_roundw
          · exact ⟨⟨k + 1, by have := HLT.out; omega, by first | with_reducible rfl | go_num, HO.out.below KB.out, HVV.out.below KB.out⟩⟩
          · have := HLT.out; simp [intOf]; omega
        · have g0 : decide ((0 : Int) < (k : Int)) = true := decide_eq_true (by omega)
          have g0' : decide (0 < k) = true := decide_eq_true (by omega)
          have hbw : b < wr.heap.size := World.block_lt_of_cell? wr _ hc
          obtain ⟨b', off', hb1, hc'⟩ := rx.2 (k - 1) (by omega)
          cases hb1
          have hrs := rises_step HSH.out.2 (k := k - 1) (by omega)
          rw [show k - 1 + 1 = k by omega] at hrs
          have g1 : decide (S.getD k 0 ≤ S.getD (k - 1) 0) = false := decide_eq_false (by omega)
          have hsub : IntKind.i64.wrap ((k : Int) - 1) = ((k - 1 : Nat) : Int) := by have := HSH.out; simp [IntKind.wrap, IntKind.signed, IntKind.bits]; omega
          have hsub2 : wrap64 ((k : Int) - 1) = ((k - 1 : Nat) : Int) := by have := HSH.out; unfold wrap64; omega
          have j0 : (0 : Int) ≤ ((k - 1 : Nat) : Int) := by omega
          have j1 : ((k - 1 : Nat) : Int) < (S.length : Int) := by omega
          have HCC : Hid (∀ wz, Below wr.heap.size wr wz → wz.cell? ⟨b, off + k, none⟩ = some (.int .i64 (S.getD k 0)) ∧ wz.cell? ⟨b, off + (k - 1), none⟩ = some (.int .i64 (S.getD (k - 1) 0))) := fun wz hb => ⟨(hb.cell (p := ⟨b, _, none⟩) hbw).trans hc, (hb.cell (p := ⟨b, _, none⟩) hbw).trans hc'⟩
          clear hO rx h2 h3 hzi hzS hzl hlt hk hbw hk0 hc' hrs
          generalize S.getD (k - 1) 0 = y at *
          generalize S.getD k 0 = z at *
          go_wp2_with fail
          refine wp_region_held_drew (S := (fun wz => wz.cell? ⟨b, off + k, none⟩ = some (.int .i64 z) ∧ wz.cell? ⟨b, off + (k - 1), none⟩ = some (.int .i64 y))) (by kernel_rfl) (HCC.out _ KB.out.drew) (fun hHeld => ?_)
          refine wpAnyH_take (i := 0) (v := ?_) rfl (by kernel_rfl) (by kernel_rfl) (by kernel_rfl) (fun _ _ _ h => h) (Or.inl ⟨by rfl, ?y0⟩) (by assumption) ?_
          case y0 => intro w hSw; (try dsimp only at hSw); go_simp; (try with_reducible rfl)
          (try simp only [Act.put, List.setIfInBounds_toArray, List.set_cons_zero, List.set_cons_succ, List.getElem_toArray, List.getElem_cons_zero, List.getElem_cons_succ])
          refine wpAnyH_take (i := 1) (v := ?_) rfl (by kernel_rfl) (by kernel_rfl) (by kernel_rfl) (fun _ _ _ h => h) (Or.inl ⟨by rfl, ?y1⟩) (by assumption) ?_
          case y1 => intro w hSw; (try dsimp only at hSw); go_simp; (try with_reducible rfl)
          (try simp only [Act.put, List.setIfInBounds_toArray, List.set_cons_zero, List.set_cons_succ, List.getElem_toArray, List.getElem_cons_zero, List.getElem_cons_succ])
          refine wpAnyH_take (i := 2) (v := ?_) rfl (by kernel_rfl) (by kernel_rfl) (by kernel_rfl) (fun _ _ _ h => h) (Or.inl ⟨by rfl, ?y2⟩) (by assumption) ?_
          case y2 => intro w hSw; (try dsimp only at hSw); go_simp; (try with_reducible rfl)
          (try simp only [Act.put, List.setIfInBounds_toArray, List.set_cons_zero, List.set_cons_succ, List.getElem_toArray, List.getElem_cons_zero, List.getElem_cons_succ])
          refine wpAnyH_take (i := 3) (v := ?_) rfl (by kernel_rfl) (by kernel_rfl) (by kernel_rfl) (fun _ _ _ h => h) (Or.inl ⟨by rfl, ?y3⟩) (by assumption) ?_
          case y3 => intro w hSw; (try dsimp only at hSw); go_simp; (try with_reducible rfl)
          (try simp only [Act.put, List.setIfInBounds_toArray, List.set_cons_zero, List.set_cons_succ, List.getElem_toArray, List.getElem_cons_zero, List.getElem_cons_succ])
          refine wpAnyH_take (i := 4) (v := ?_) rfl (by kernel_rfl) (by kernel_rfl) (by kernel_rfl) (fun _ _ _ h => h) (Or.inl ⟨by rfl, ?y4⟩) (by assumption) ?_
          case y4 => intro w hSw; (try dsimp only at hSw); go_simp; (try with_reducible rfl)
          (try simp only [Act.put, List.setIfInBounds_toArray, List.set_cons_zero, List.set_cons_succ, List.getElem_toArray, List.getElem_cons_zero, List.getElem_cons_succ])
          refine wpAnyH_take (i := 5) (v := ?_) rfl (by kernel_rfl) (by kernel_rfl) (by kernel_rfl) (fun _ _ _ h => h) (Or.inl ⟨by rfl, ?y5⟩) (by assumption) ?_
          case y5 => intro w hSw; (try dsimp only at hSw); go_simp; (try with_reducible rfl)
          (try simp only [Act.put, List.setIfInBounds_toArray, List.set_cons_zero, List.set_cons_succ, List.getElem_toArray, List.getElem_cons_zero, List.getElem_cons_succ])
          refine wpAnyH_take (i := 6) (v := ?_) rfl (by kernel_rfl) (by kernel_rfl) (by kernel_rfl) (fun _ _ _ h => h) (Or.inl ⟨by rfl, ?y6⟩) (by assumption) ?_
          case y6 => intro w hSw; (try dsimp only at hSw); go_simp; (try with_reducible rfl)
          (try simp only [Act.put, List.setIfInBounds_toArray, List.set_cons_zero, List.set_cons_succ, List.getElem_toArray, List.getElem_cons_zero, List.getElem_cons_succ])
          refine wpAnyH_take (i := 7) (v := ?_) rfl (by kernel_rfl) (by kernel_rfl) (by kernel_rfl) (fun _ _ _ h => h) (Or.inl ⟨by rfl, ?y7⟩) (by assumption) ?_
          case y7 => intro w hSw; (try dsimp only at hSw); go_simp; (try with_reducible rfl)
          (try simp only [Act.put, List.setIfInBounds_toArray, List.set_cons_zero, List.set_cons_succ, List.getElem_toArray, List.getElem_cons_zero, List.getElem_cons_succ])
          refine wpAnyH_take (i := 8) (v := ?_) rfl (by kernel_rfl) (by kernel_rfl) (by kernel_rfl) (fun _ _ _ h => h) (Or.inl ⟨by rfl, ?y8⟩) (by assumption) ?_
          case y8 => intro w hSw; (try dsimp only at hSw); go_simp; (try with_reducible rfl)
          (try simp only [Act.put, List.setIfInBounds_toArray, List.set_cons_zero, List.set_cons_succ, List.getElem_toArray, List.getElem_cons_zero, List.getElem_cons_succ])
          refine wpAnyH_take (i := 9) (v := ?_) rfl (by kernel_rfl) (by kernel_rfl) (by kernel_rfl) (fun _ _ _ h => h) (Or.inl ⟨by rfl, ?y9⟩) (by assumption) ?_
          case y9 => intro w hSw; (try dsimp only at hSw); go_simp; (try with_reducible rfl)
          (try simp only [Act.put, List.setIfInBounds_toArray, List.set_cons_zero, List.set_cons_succ, List.getElem_toArray, List.getElem_cons_zero, List.getElem_cons_succ])
          refine wpAnyH_take (i := 10) (v := ?_) rfl (by kernel_rfl) (by kernel_rfl) (by kernel_rfl) (fun _ _ _ h => h) (Or.inl ⟨by rfl, ?y10⟩) (by assumption) ?_
          case y10 => intro w hSw; (try dsimp only at hSw); go_simp; (try with_reducible rfl)
          (try simp only [Act.put, List.setIfInBounds_toArray, List.set_cons_zero, List.set_cons_succ, List.getElem_toArray, List.getElem_cons_zero, List.getElem_cons_succ])
          refine wpAnyH_take (i := 11) (v := ?_) rfl (by kernel_rfl) (by kernel_rfl) (by kernel_rfl) (fun _ _ _ h => h) (Or.inl ⟨by rfl, ?y11⟩) (by assumption) ?_
          case y11 => intro w hSw; (try dsimp only at hSw); go_simp; (try with_reducible rfl)
          (try simp only [Act.put, List.setIfInBounds_toArray, List.set_cons_zero, List.set_cons_succ, List.getElem_toArray, List.getElem_cons_zero, List.getElem_cons_succ])
          refine wpAnyH_take (i := 12) (v := ?_) rfl (by kernel_rfl) (by kernel_rfl) (by kernel_rfl) (fun _ _ _ h => h) (Or.inl ⟨by rfl, ?y12⟩) (by assumption) ?_
          case y12 => intro w hSw; (try dsimp only at hSw); go_simp; (try with_reducible rfl)
          (try simp only [Act.put, List.setIfInBounds_toArray, List.set_cons_zero, List.set_cons_succ, List.getElem_toArray, List.getElem_cons_zero, List.getElem_cons_succ])
          refine wpAnyH_take (i := 13) (v := ?_) rfl (by kernel_rfl) (by kernel_rfl) (by kernel_rfl) (fun _ _ _ h => h) (Or.inl ⟨by rfl, ?y13⟩) (by assumption) ?_
          case y13 => intro w hSw; (try dsimp only at hSw); go_simp; (try with_reducible rfl)
          (try simp only [Act.put, List.setIfInBounds_toArray, List.set_cons_zero, List.set_cons_succ, List.getElem_toArray, List.getElem_cons_zero, List.getElem_cons_succ])
          refine wpAnyH_take (i := 14) (v := ?_) rfl (by kernel_rfl) (by kernel_rfl) (by kernel_rfl) (fun _ _ _ h => h) (Or.inl ⟨by rfl, ?y14⟩) (by assumption) ?_
          case y14 => intro w hSw; (try dsimp only at hSw); go_simp; (try with_reducible rfl)
          (try simp only [Act.put, List.setIfInBounds_toArray, List.set_cons_zero, List.set_cons_succ, List.getElem_toArray, List.getElem_cons_zero, List.getElem_cons_succ])
          refine wpAnyH_take (i := 15) (v := ?_) rfl (by kernel_rfl) (by kernel_rfl) (by kernel_rfl) (fun _ _ _ h => h) (Or.inl ⟨by rfl, ?y15⟩) (by assumption) ?_
          case y15 => intro w hSw; (try dsimp only at hSw); go_simp; (try with_reducible rfl)
          (try simp only [Act.put, List.setIfInBounds_toArray, List.set_cons_zero, List.set_cons_succ, List.getElem_toArray, List.getElem_cons_zero, List.getElem_cons_succ])
          refine wpAnyH_take (i := 16) (v := ?_) rfl (by kernel_rfl) (by kernel_rfl) (by kernel_rfl) (fun _ _ _ h => h) (Or.inl ⟨by rfl, ?y16⟩) (by assumption) ?_
          case y16 => intro w hSw; (try dsimp only at hSw); go_simp; (try with_reducible rfl)
          (try simp only [Act.put, List.setIfInBounds_toArray, List.set_cons_zero, List.set_cons_succ, List.getElem_toArray, List.getElem_cons_zero, List.getElem_cons_succ])
          refine wpAnyH_take (i := 17) (v := ?_) rfl (by kernel_rfl) (by kernel_rfl) (by kernel_rfl) (fun _ _ _ h => h) (Or.inl ⟨by rfl, ?y17⟩) (by assumption) ?_
          case y17 => intro w hSw; (try dsimp only at hSw); go_simp; (try with_reducible rfl)
          (try simp only [Act.put, List.setIfInBounds_toArray, List.set_cons_zero, List.set_cons_succ, List.getElem_toArray, List.getElem_cons_zero, List.getElem_cons_succ])
          refine wpAnyH_take (i := 18) (v := ?_) rfl (by kernel_rfl) (by kernel_rfl) (by kernel_rfl) (fun _ _ _ h => h) (Or.inl ⟨by rfl, ?y18⟩) (by assumption) ?_
          case y18 => intro w hSw; (try dsimp only at hSw); go_simp; (try with_reducible rfl)
          (try simp only [Act.put, List.setIfInBounds_toArray, List.set_cons_zero, List.set_cons_succ, List.getElem_toArray, List.getElem_cons_zero, List.getElem_cons_succ])
          refine wpAnyH_take (i := 19) (v := ?_) rfl (by kernel_rfl) (by kernel_rfl) (by kernel_rfl) (fun _ _ _ h => h) (Or.inl ⟨by rfl, ?y19⟩) (by assumption) ?_
          case y19 => intro w hSw; (try dsimp only at hSw); go_simp; (try with_reducible rfl)
          (try simp only [Act.put, List.setIfInBounds_toArray, List.set_cons_zero, List.set_cons_succ, List.getElem_toArray, List.getElem_cons_zero, List.getElem_cons_succ])
          refine wpAnyH_ready (rs := [20]) (by kernel_rfl) (by simp) ?_
          refine AllReadyH.cons rfl (fun K hK => ?_) AllReadyH.nil
          go_simp
          refine (HRH.out _ KB.out.drew).mono ?_; rintro e wn ⟨rfl, rfl⟩
          replace KB := Lib.hid KB.out.drew
          refine hK.out _ _ (HCC.out _ KB.out) (fun hHeld => ?_)
          clear hK K
          (try simp only [Act.put, List.setIfInBounds_toArray, List.set_cons_zero, List.set_cons_succ, List.getElem_toArray, List.getElem_cons_zero, List.getElem_cons_succ])
          refine wpAnyH_take (i := 21) (v := ?_) rfl (by kernel_rfl) (by kernel_rfl) (by kernel_rfl) (fun _ _ _ h => h) (Or.inl ⟨by rfl, ?y21⟩) (by assumption) ?_
          case y21 => intro w hSw; (try dsimp only at hSw); go_simp; (try with_reducible rfl)
          (try simp only [Act.put, List.setIfInBounds_toArray, List.set_cons_zero, List.set_cons_succ, List.getElem_toArray, List.getElem_cons_zero, List.getElem_cons_succ])
          refine wpAnyH_take (i := 22) (v := ?_) rfl (by kernel_rfl) (by kernel_rfl) (by kernel_rfl) (fun _ _ _ h => h) (Or.inl ⟨by rfl, ?y22⟩) (by assumption) ?_
          case y22 => intro w hSw; (try dsimp only at hSw); go_simp; (try with_reducible rfl)
          (try simp only [Act.put, List.setIfInBounds_toArray, List.set_cons_zero, List.set_cons_succ, List.getElem_toArray, List.getElem_cons_zero, List.getElem_cons_succ])
          refine wpAnyH_take (i := 23) (v := ?_) rfl (by kernel_rfl) (by kernel_rfl) (by kernel_rfl) (fun _ _ _ h => h) (Or.inl ⟨by rfl, ?y23⟩) (by assumption) ?_
          case y23 => intro w hSw; (try dsimp only at hSw); go_simp; (try with_reducible rfl)
          (try simp only [Act.put, List.setIfInBounds_toArray, List.set_cons_zero, List.set_cons_succ, List.getElem_toArray, List.getElem_cons_zero, List.getElem_cons_succ])
          refine wpAnyH_take (i := 24) (v := ?_) rfl (by kernel_rfl) (by kernel_rfl) (by kernel_rfl) (fun _ _ _ h => h) (Or.inl ⟨by rfl, ?y24⟩) (by assumption) ?_
          case y24 => intro w hSw; (try dsimp only at hSw); go_simp; (try with_reducible rfl)
          (try simp only [Act.put, List.setIfInBounds_toArray, List.set_cons_zero, List.set_cons_succ, List.getElem_toArray, List.getElem_cons_zero, List.getElem_cons_succ])
          refine wpAnyH_take (i := 25) (v := ?_) rfl (by kernel_rfl) (by kernel_rfl) (by kernel_rfl) (fun _ _ _ h => h) (Or.inl ⟨by rfl, ?y25⟩) (by assumption) ?_
          case y25 => intro w hSw; (try dsimp only at hSw); go_simp; (try with_reducible rfl)
          (try simp only [Act.put, List.setIfInBounds_toArray, List.set_cons_zero, List.set_cons_succ, List.getElem_toArray, List.getElem_cons_zero, List.getElem_cons_succ])
          refine wpAnyH_take (i := 26) (v := ?_) rfl (by kernel_rfl) (by kernel_rfl) (by kernel_rfl) (fun _ _ _ h => h) (Or.inl ⟨by rfl, ?y26⟩) (by assumption) ?_
          case y26 => intro w hSw; (try dsimp only at hSw); go_simp; (try with_reducible rfl)
          (try simp only [Act.put, List.setIfInBounds_toArray, List.set_cons_zero, List.set_cons_succ, List.getElem_toArray, List.getElem_cons_zero, List.getElem_cons_succ])
          refine wpAnyH_take (i := 27) (v := ?_) rfl (by kernel_rfl) (by kernel_rfl) (by kernel_rfl) (fun _ _ _ h => h) (Or.inl ⟨by rfl, ?y27⟩) (by assumption) ?_
          case y27 => intro w hSw; (try dsimp only at hSw); go_simp; (try with_reducible rfl)
          (try simp only [Act.put, List.setIfInBounds_toArray, List.set_cons_zero, List.set_cons_succ, List.getElem_toArray, List.getElem_cons_zero, List.getElem_cons_succ])
          refine wpAnyH_take (i := 28) (v := ?_) rfl (by kernel_rfl) (by kernel_rfl) (by kernel_rfl) (fun _ _ _ h => h) (Or.inl ⟨by rfl, ?y28⟩) (by assumption) ?_
          case y28 => intro w hSw; (try dsimp only at hSw); go_simp; (try with_reducible rfl)
          (try simp only [Act.put, List.setIfInBounds_toArray, List.set_cons_zero, List.set_cons_succ, List.getElem_toArray, List.getElem_cons_zero, List.getElem_cons_succ])
          refine wpAnyH_ready (rs := [29]) (by kernel_rfl) (by simp) ?_
          refine AllReadyH.cons rfl (fun K hK => ?_) AllReadyH.nil
          go_simp
          refine (HHS.out _ KB.out).mono ?_; rintro e wn ⟨rfl, hbn⟩
          replace KB := Lib.hid (KB.out.trans (hbn.mono KB.out.size)); clear hbn
          refine hK.out _ _ (HCC.out _ KB.out) (fun hHeld => ?_)
          clear hK K
          (try simp only [Act.put, List.setIfInBounds_toArray, List.set_cons_zero, List.set_cons_succ, List.getElem_toArray, List.getElem_cons_zero, List.getElem_cons_succ])
          refine wpAnyH_take (i := 30) (v := ?_) rfl (by kernel_rfl) (by kernel_rfl) (by kernel_rfl) (fun _ _ _ h => h) (Or.inl ⟨by rfl, ?y30⟩) (by assumption) ?_
          case y30 => intro w hSw; (try dsimp only at hSw); go_simp; (try with_reducible rfl)
          (try simp only [Act.put, List.setIfInBounds_toArray, List.set_cons_zero, List.set_cons_succ, List.getElem_toArray, List.getElem_cons_zero, List.getElem_cons_succ])
          refine wpAnyH_take (i := 31) (v := ?_) rfl (by kernel_rfl) (by kernel_rfl) (by kernel_rfl) (fun _ _ _ h => h) (Or.inl ⟨by rfl, ?y31⟩) (by assumption) ?_
          case y31 => intro w hSw; (try dsimp only at hSw); go_simp; (try with_reducible rfl)
          (try simp only [Act.put, List.setIfInBounds_toArray, List.set_cons_zero, List.set_cons_succ, List.getElem_toArray, List.getElem_cons_zero, List.getElem_cons_succ])
          refine wpAnyH_done (by kernel_rfl) ?_ _
          go_wp2_with fail
          go_roundw
          · exact ⟨⟨k + 1, by have := HLT.out; omega, by first | with_reducible rfl | go_num, HO.out.below KB.out, HVV.out.below KB.out⟩⟩
          · have := HLT.out; simp [intOf]; omega
      · obtain rfl : k = S.length := by omega
        have HO := Lib.hid hO; have HVV := Lib.hid hV
        have H20 : Hid (RsRel w B F S (.slice ax S.length cx) l.length (.int .i64 0) wr) := ⟨⟨0, Nat.zero_le _, rfl, hO, hV⟩⟩
        clear hO hV hlt hk HO HVV
        go_wp2_with fail
        go_loopw [8] (fun i wy => RsRel w B F S (.slice ax S.length cx) l.length i wy) (fun i _ => l.length - (intOf i).toNat)
        case atStart => exact H20.out
        case round =>
          clear H20
          obtain ⟨k, hk, rfl, hO, hV⟩ := hrel.out
          clear hrel
          by_cases hlt : k < l.length
          · obtain ⟨_, _, e7, h2, h3, rx⟩ := hV
            cases e7
            obtain ⟨b, off, rfl, hc⟩ := (HL.out.below hO.b).2 k hlt
            have hni := HL.out.at k hlt
            have hnl : l.getD k 0 ∈ l := by rw [getD_lt _ _ hlt]; exact List.getElem_mem hlt
            have hin : decide (l.getD k 0 ∈ S) = decide (OkB (l.getD k 0)) := decide_eq_decide.2 ⟨fun q => ((hmem.out _).1 q).1, fun q => (hmem.out _).2 ⟨q, hnl⟩⟩
            have hrh := has_any ax cx S (l.getD k 0) wr rx (by have := HSH.out; omega)
            have hhs := has_s hO.r (l.getD k 0) hni
            rw [hin] at hrh hhs
            have HO := Lib.hid hO; have HVV : Hid (Sl wr (.slice ax S.length cx) S) := ⟨_, _, rfl, h2, h3, rx⟩
            have hu1 : wrap64 ((k : Int) + 1) = ((k + 1 : Nat) : Int) := by have := HN.out; unfold wrap64; omega
            have hu2 : IntKind.i64.wrap ((k : Int) + 1) = ((k + 1 : Nat) : Int) := by have := HN.out; simp [IntKind.wrap, IntKind.signed, IntKind.bits]; omega
            have HLT := Lib.hid hlt
            have i0 : (0 : Int) ≤ (k : Int) := by omega
            have i1 : (k : Int) < (l.length : Int) := by omega
            clear hO rx h2 h3 hni hnl hin hlt hk
            generalize l.getD k 0 = n at *
            by_cases q0 : 0 ≤ n
            · have d0 : decide (0 ≤ n) = true := decide_eq_true q0
              by_cases q1 : n < 65536
              · have d1 : decide (n < 65536) = true := decide_eq_true q1
                rw [decide_eq_true (show OkB n from ⟨q0, by omega⟩)] at hrh hhs
                clear q0 q1
                go_wp2_with fail
                refine hrh.mono ?_; rintro e w5 ⟨rfl, rfl⟩
                go_wp2_with fail
                refine hhs.mono ?_; rintro e w6 ⟨rfl, hb6⟩
                have H6 := Lib.hid (HO.out.below hb6); have V6 := Lib.hid (HVV.out.below hb6)
                clear hb6 hhs hrh
                go_wp2_with fail
                go_roundw
                · exact ⟨⟨k + 1, by have := HLT.out; omega, by first | with_reducible rfl | go_num, H6.out, V6.out⟩⟩
                · have := HLT.out; simp [intOf]; omega
              · have d1 : decide (n < 65536) = false := decide_eq_false q1
                rw [decide_eq_false (show ¬ OkB n from fun q => q1 (by have := q.2; omega))] at hrh hhs
                clear q0 q1
                go_wp2_with fail
                refine hrh.mono ?_; rintro e w5 ⟨rfl, rfl⟩
                go_wp2_with fail
                refine hhs.mono ?_; rintro e w6 ⟨rfl, hb6⟩
                have H6 := Lib.hid (HO.out.below hb6); have V6 := Lib.hid (HVV.out.below hb6)
                clear hb6 hhs hrh
                go_wp2_with fail
                go_roundw
                · exact ⟨⟨k + 1, by have := HLT.out; omega, by first | with_reducible rfl | go_num, H6.out, V6.out⟩⟩
                · have := HLT.out; simp [intOf]; omega
            · have d0 : decide (0 ≤ n) = false := decide_eq_false q0
              rw [decide_eq_false (show ¬ OkB n from fun q => q0 q.1)] at hrh hhs
              clear q0
              go_wp2_with fail
              refine hrh.mono ?_; rintro e w5 ⟨rfl, rfl⟩
              go_wp2_with fail
              refine hhs.mono ?_; rintro e w6 ⟨rfl, hb6⟩
              have H6 := Lib.hid (HO.out.below hb6); have V6 := Lib.hid (HVV.out.below hb6)
              clear hb6 hhs hrh
              go_wp2_with fail
              go_roundw
              · exact ⟨⟨k + 1, by have := HLT.out; omega, by first | with_reducible rfl | go_num, H6.out, V6.out⟩⟩
              · have := HLT.out; simp [intOf]; omega
          · obtain rfl : k = l.length := by omega
            have H5 := Lib.hid hO; have V5 := Lib.hid hV
            obtain ⟨_, _, e7, h2, h3, rx⟩ := hV
            cases e7
            have HRX := Lib.hid rx; have HCX0 := Lib.hid h3
            have HLL := Lib.hid HN.out.2
            obtain ⟨L2, hL2⟩ : ∃ L2, L2 = S.take m.toNat := ⟨_, rfl⟩
            have hl2 : (L2.length : Int) = if m ≤ (S.length : Int) then m else (S.length : Int) := by
              rw [hL2, List.length_take]; have := HN.out.2
              split <;> omega
            have HL2 := Lib.hid hL2; have HL2L := Lib.hid hl2
            have HR2 : Hid (∀ wz, Below wr.heap.size wr wz → Reads wz ax L2) := fun wz hb => by
              rw [HL2.out]
              have h := HRX.out.below hb
              exact ⟨fun z hz => h.1 z (List.mem_of_mem_take hz), fun i hi => by
                have hi' : i < S.length := by rw [List.length_take] at hi; omega
                obtain ⟨b, off, e1, e2⟩ := h.2 i hi'
                refine ⟨b, off, e1, ?_⟩
                rw [e2, getD_lt _ _ hi, getD_lt _ _ hi', List.getElem_take]⟩
            have HFS := Lib.hid (fun wz (hb : Below wr.heap.size wr wz) => first_s (H5.out.below hb).r (HT.out.below (H5.out.below hb).b) m HN.out.2)
            rw [← HL2.out] at HFS
            have HLN := Lib.hid (fun wz (hb : Below wr.heap.size wr wz) => len_s (H5.out.below hb).r)
            have HAW := Lib.hid (fun wz (hb : Below wr.heap.size wr wz) => b_awake wz (HT.out.below (H5.out.below hb).b))
            have HSM : Hid (∀ a2 c2 wz, Reads wz a2 L2 → Below wr.heap.size wr wz → Calls Tryd.prog 13 #[.slice a2 L2.length c2, .slice ax L2.length cx] wz fun e w' => e = .returned (.bool true) ∧ Below wz.heap.size wz w') := fun a2 c2 wz h hb => by
              have := same_any a2 ax c2 cx L2 L2 wz h (HR2.out wz hb) (by have := HSH.out.1; rw [HL2.out, List.length_take]; omega)
              rwa [decide_eq_true rfl] at this
            have KB := Lib.hid (Below.refl wr.heap.size wr)
            have hmn : (if (S.length : Int) < m then (S.length : Int) else m) = (L2.length : Int) := by rw [hl2]; split <;> split <;> omega
            have j0 : (0 : Int) ≤ (L2.length : Int) := by omega
            have j1 : (L2.length : Int) ≤ (cx : Int) := by
              have h1 : L2.length ≤ S.length := by rw [hL2, List.length_take]; omega
              omega
            have hsl := slice_11 ax S.length cx L2.length j0 j1
            have hsl2 := fun w => (run_sliceAt_slice w 26 (.slice ax S.length cx) none (some (.int .i64 (L2.length : Int))) none Tryd.underlying26).trans (hsl w)
            clear hO h2 h3 rx hL2 hl2 hlt hk
            go_wp2_with fail
            go_region_held3 (fun _ => True) (trivial)
              (first
                | (go_at_call 20; (with_reducible first | refine (HFS.out _ KB.out).mono ?_ | refine (HFS.out _ KB.out.drew).mono ?_); rintro e wn ⟨u2, rfl, hu2, hbn⟩; (first | replace KB := Lib.hid (KB.out.trans (hbn.mono KB.out.size)) | replace KB := Lib.hid (KB.out.drew.trans (hbn.mono KB.out.drew.size))); obtain ⟨a2, c2', rfl, _, _, hrd2⟩ := hu2; have U := Lib.hid hrd2; clear hbn hrd2)
                | (go_at_call 13; (with_reducible refine (HSM.out _ _ _ U.out KB.out).mono ?_); rintro e wn ⟨rfl, hbn⟩; replace KB := Lib.hid (KB.out.trans (hbn.mono KB.out.size)); clear hbn)
                | (go_at_call 10; (with_reducible refine (HLN.out _ KB.out).mono ?_); rintro e wn ⟨rfl, hbn⟩; replace KB := Lib.hid (KB.out.trans (hbn.mono KB.out.size)); clear hbn)
                | (go_at_call 7; (with_reducible refine (HAW.out _ KB.out).mono ?_); rintro e wn ⟨rfl, hbn⟩; replace KB := Lib.hid (KB.out.trans (hbn.mono KB.out.size)); clear hbn))
            all_goals go_wp2_with fail
            all_goals go_ret
            all_goals exact ⟨rfl, (H5.out.below KB.out).b⟩
end Go.Proofs.YtiolicadnomagaaDoor
