/-
  The landed book's restore and Back. The conditions: the book's blocks.
-/
import Derived.Test.YtmhfgkkiplencaaUndF
namespace Go.Proofs.Ytmhfgkkiplencaa
open Go.RowKit Go.Maps
set_option linter.unusedSimpArgs false
set_option linter.unusedVariables false

abbrev MpRH (w : World) (b r : Nat) (f : UH) (left : Int → Bool) (cnt : Nat) : Prop := MpR Try.prog 3 hadE datH none w b r f left cnt
/-- What holds at the head of restore's loop. -/
structure RsI (w : World) (B mv : Nat) (v : Value) (lv : List (Nat × UH)) (N : Prs) (m : Nat) (f : UH) (X r : Nat) (wr : World) : Prop where
  out : ∃ left cnt, MpRH wr m r f left cnt ∧ UB wr B mv v lv (urest f N left) ∧ Turn (UF B mv v lv) w wr ∧ At2 wr X (.map (some m)) (.int .i64 0)
/-- A round, behind the step to an entry and its variable: the map of values alone turns. -/
theorem rs_go {w wr w1 w2 w3 : World} {B mv : Nat} {v : Value} {lv : List (Nat × UH)} {N : Prs} {m X r : Nat} {f : UH} {left : Int → Bool} {cnt' : Nat} {k : Int} {x : Option Int}
    (hlow : ∀ j, UF B mv v lv j → j < w.heap.size) (hm : ¬ UF B mv v lv m) (hX : w.heap.size ≤ X) (hr : w.heap.size ≤ r) (hXr : X ≠ r) (hmw : m < w.heap.size)
    (hU : UB wr B mv v lv (urest f N left)) (hT : Turn (UF B mv v lv) w wr) (hA : At2 wr X (.map (some m)) (.int .i64 0))
    (hg : wr.grownBy w1 (some r)) (hR : MpRH w1 m r f (fun j => left j && !decide (j = k)) cnt') (hf : f k = some x) (hb : Below w1.heap.size w1 w2)
    (t3 : Turn (fun j => j = mv) w2 w3) (hV : MpV w3 mv (fun j => if j = k then x else urest f N left j)) : RsI w B mv v lv N m f X r w3 ∧ w3.rangeLeft m r = cnt' := by
  have hmv : mv < w.heap.size := hlow mv (Or.inr (Or.inl rfl))
  have t1 := turn_grown hg
  have t1' : Turn (fun j => j = r) wr w1 := t1.mono fun j q => (Option.some.inj q).symm
  have U1 := hU.turn t1' fun j q e => by have := hlow j q; omega
  have U2 := U1.below hb
  have A2 := (hA.turn t1' hXr).below hb
  have hne := hR.ne
  have mneq : m ≠ mv := fun e => hm (Or.inr (Or.inl e))
  have R3 : MpRH w3 m r f (fun j => left j && !decide (j = k)) cnt' := (hR.kept (hb.block _ hne.2.2) (hb.block _ hne.2.1)).kept (t3.block _ (Nat.lt_of_lt_of_le hne.2.2 hb.size) mneq) (t3.block _ (Nat.lt_of_lt_of_le hne.2.1 hb.size) (fun e => by omega))
  refine ⟨⟨_, cnt', R3, (U2.val t3 hV).same fun j hj => urest_step hf j, ?_, A2.turn t3 fun e => by omega⟩, R3.left_eq⟩
  have t2 : Turn (UF B mv v lv) w w2 := (hT.trans t1' fun j q => Or.inr (by omega)).trans (Turn.of_below (F := fun _ => False) hb) fun j q => q.elim
  exact t2.trans t3 fun j q => Or.inl (Or.inr (Or.inl q))
theorem urest_in {U : List Int} {f : UH} {N : Prs} {left : Int → Bool} (hf : ∀ k, InR k → (f k).isSome = true → k ∈ U) (hN : UG U N) : ∀ k, InR k → (urest f N left k).isSome = true → k ∈ U := by
  intro k hk hs
  have hin : (ulk N k).isSome = true → k ∈ U := fun q => by
    obtain ⟨p, hp, rfl⟩ := List.mem_map.1 (ulk_some.1 q)
    exact (hN.2 p hp).1
  unfold urest at hs
  by_cases e : left k = true
  · rw [if_pos e] at hs; exact hin hs
  · rw [if_neg e] at hs
    cases hq : f k with
    | none => rw [hq] at hs; exact hin hs
    | some x => exact hf k hk (by rw [hq]; rfl)
set_option maxHeartbeats 2000000 in
theorem restore_u {w : World} {B mv : Nat} {v : Value} {lv : List (Nat × UH)} {U : List Int} {N : Prs} {m : Nat} {f : UH} (h : UB w B mv v lv (ulk N)) (hf : MpH w m f) (hm : ¬ UF B mv v lv m) (hfU : ∀ k, InR k → (f k).isSome = true → k ∈ U) (hN : UG U N) (hU : U.length ≤ 1000000) :
    Calls Try.prog 29 #[.pointer (some ⟨B, 0, none⟩), .agg #[.map (some m), .int .i64 0]] w fun e w' => e = .returned (.tuple #[]) ∧ UB w' B mv v lv (fun k => (f k).getD (ulk N k)) ∧ Turn (UF B mv v lv) w w' := by
  have hlow := h.foot
  have hb0 := below1 w (Beg (.map (some m)) (.int .i64 0))
  have A0 := At2.new w (.map (some m)) (.int .i64 0) 62
  have hmw := hf.lt
  obtain ⟨w1, cnt, left, hrun, hR, hleft, hg, hs⟩ := (hf.keep (hb0.block _ hf.lt)).range kitH
  have hs0 : (w.alloc (Beg (.map (some m)) (.int .i64 0))).heap.size = w.heap.size + 1 := by simp
  have t1 : Turn (fun _ => False) (w.alloc (Beg (.map (some m)) (.int .i64 0))) w1 := (turn_grown hg).mono fun j q => by cases q
  have H0 : Hid (RsI w B mv v lv N m f w.heap.size (w.heap.size + 1) w1) := by
    rw [hs0] at hR
    refine ⟨left, cnt, hR, ((h.below hb0).turn t1 fun j q => id).same fun k hk => ?_, (Turn.of_below hb0).trans t1 fun j q => q.elim, A0.turn t1 id⟩
    have := urest_start f N k
    unfold urest at this ⊢
    rw [hleft k hk]; exact this.symm
  rw [hs0] at hrun
  have HH := Lib.hid (And.intro hlow (And.intro hm (And.intro hmw (And.intro hfU (And.intro hN hU)))))
  obtain ⟨x0, x1, x2⟩ := A0
  clear h hf hm hfU hN hU hlow hb0 hR hleft hg hs t1 hmw
  go_enter Try.func29, Try.ntmps29
  go_wp2_with fail
  clear hrun x0 x1 x2 hs0
  go_loopw [4] (fun _ wr => RsI w B mv v lv N m f w.heap.size (w.heap.size + 1) wr) (fun _ wr => wr.rangeLeft m (w.heap.size + 1))
  case atStart => exact H0.out
  case round =>
    clear H0
    obtain ⟨left, cnt, hR, hUB, hT, hA⟩ := hrel.out
    clear hrel
    rcases hR.next kitH with ⟨hl, hrun⟩ | ⟨k, x, w2, cnt', hk, hlk, hfk, hx, hrun, hR2, hlt, hg, hsz, hen⟩
    · have hE := (hUB.same (g' := fun k => (f k).getD (ulk N k)) fun k hk => by unfold urest; rw [if_neg (by rw [hl k hk]; decide)]).lost
      have HE := Lib.hid (And.intro hE.1 (hT.trans hE.2 fun j q => Or.inl q))
      have c1 := hUB.c1
      have z1 := hUB.z1
      obtain ⟨a0, a1, a2⟩ := hA
      clear hE hUB hT hR hl HH
      go_wp2_with fail
      go_end0
      exact ⟨rfl, HE.out⟩
    · obtain ⟨h1, h2, h3, h4, h5, h6⟩ := HH.out
      have HK := Lib.hid hk
      have hm1 := hR.left_eq
      have HLT := Lib.hid (show cnt' < wr.rangeLeft m (w.heap.size + 1) by rw [hm1]; exact hlt)
      have HGO : Hid (∀ (W2 w3 : World) (y : Option Int), y = x → Below w2.heap.size w2 W2 → Turn (fun j => j = mv) W2 w3 → MpV w3 mv (fun j => if j = k then x else urest f N left j) → RsI w B mv v lv N m f w.heap.size (w.heap.size + 1) w3 ∧ w3.rangeLeft m (w.heap.size + 1) = cnt') :=
        fun W2 w3 y _ hb t3 hV => rs_go h1 h2 (Nat.le_refl _) (Nat.le_succ _) (by omega) h3 hUB hT hA hg hR2 hfk hb t3 hV
      have t1' : Turn (fun j => j = w.heap.size + 1) wr w2 := (turn_grown hg).mono fun j q => (Option.some.inj q).symm
      have HB2 : Hid (UB w2 B mv v lv (urest f N left)) := hUB.turn t1' fun j q e => by have := h1 j q; omega
      have hin := urest_in (left := left) h4 h5
      clear hUB hT hA hR hR2 hg hm1 hlt hlk hsz t1' h1 h2 h3 h4 h5
      cases x with
      | some z =>
        have hz : InR z := hx z rfl
        simp only [encH, Option.getD_some, Option.isSome_some] at hrun hen
        have hbw := below1 w2 (.cells #[.int .i64 z, .bool true] 75)
        have Y := At2.new w2 (.int .i64 z) (.bool true) 75
        obtain ⟨y0, y1, y2⟩ := Y
        have hbd := hbw.drew
        obtain ⟨w3, hst, hV3, hg3⟩ := (HB2.out.below hbd).vals.store kitV hin h6 HK.out hz
        have hG := HGO.out _ w3 _ rfl hbd ((turn_grown hg3).mono fun j q => (Option.some.inj q).symm) hV3
        have HG := Lib.hid hG
        have c0 := (HB2.out.below hbw).c0
        have g0 : w3.cell? ⟨w2.heap.size, 0, none⟩ = some (.int .i64 z) := ((turn_grown hg3).cell (a := ⟨w2.heap.size, 0, none⟩) (by simp) (fun e => by have h1 := (HB2.out.vals).lt; have h2 : mv = w2.heap.size := Option.some.inj e; omega)).trans y0
        have hS3 : w3.cell? ⟨B, 0, none⟩ = some (.map (some mv)) ∧ w3.cell? ⟨w2.heap.size, 0, none⟩ = some (.int .i64 z) := by obtain ⟨_, _, _, q, _, _⟩ := hG.1.out; exact ⟨q.c0, g0⟩
        clear hbw hbd hV3 hg3 hG HGO HH hin h6 g0
        go_wp2_with fail
        refine wp_region_held_drew (S := fun wz => wz.cell? ⟨B, 0, none⟩ = some (.map (some mv)) ∧ wz.cell? ⟨w2.heap.size, 0, none⟩ = some (.int .i64 z)) (by kernel_rfl) (And.intro c0 y0) (fun hHeld => ?_)
        refine wpAnyH_take (i := 0) (v := ?_) rfl (by kernel_rfl) (by kernel_rfl) (by kernel_rfl) (fun _ _ _ h => h) (Or.inl ⟨by rfl, ?y0⟩) (by assumption) ?_
        case y0 => intro w hSw; (try dsimp only at hSw); go_simp; (try with_reducible rfl)
        (try simp only [Act.put, List.setIfInBounds_toArray, List.set_cons_zero, List.set_cons_succ, List.getElem_toArray, List.getElem_cons_zero, List.getElem_cons_succ])
        refine wpAnyH_take (i := 1) (v := ?_) rfl (by kernel_rfl) (by kernel_rfl) (by kernel_rfl) (fun _ _ _ h => h) (Or.inl ⟨by rfl, ?y1⟩) (by assumption) ?_
        case y1 => intro w hSw; (try dsimp only at hSw); go_simp; (try with_reducible rfl)
        (try simp only [Act.put, List.setIfInBounds_toArray, List.set_cons_zero, List.set_cons_succ, List.getElem_toArray, List.getElem_cons_zero, List.getElem_cons_succ])
        refine wpAnyH_take (i := 2) (v := ?_) rfl (by kernel_rfl) (by kernel_rfl) (by kernel_rfl) (fun _ _ _ h => h) (Or.inl ⟨by rfl, ?y2⟩) (by assumption) ?_
        case y2 => intro w hSw; (try dsimp only at hSw); go_simp; (try with_reducible rfl)
        (try simp only [Act.put, List.setIfInBounds_toArray, List.set_cons_zero, List.set_cons_succ, List.getElem_toArray, List.getElem_cons_zero, List.getElem_cons_succ])
        refine wpAnyH_take (i := 3) (v := ?_) rfl (by kernel_rfl) (by kernel_rfl) (by kernel_rfl) (fun _ _ _ h => h) (Or.inl ⟨by rfl, ?y3⟩) (by assumption) ?_
        case y3 => intro w hSw; (try dsimp only at hSw); go_simp; (try with_reducible rfl)
        (try simp only [Act.put, List.setIfInBounds_toArray, List.set_cons_zero, List.set_cons_succ, List.getElem_toArray, List.getElem_cons_zero, List.getElem_cons_succ])
        refine wpAnyH_take (i := 4) (v := ?_) rfl (by kernel_rfl) (by kernel_rfl) (by kernel_rfl) (fun _ _ _ h => h) (Or.inl ⟨by rfl, ?y4⟩) (by assumption) ?_
        case y4 => intro w hSw; (try dsimp only at hSw); go_simp; (try with_reducible rfl)
        (try simp only [Act.put, List.setIfInBounds_toArray, List.set_cons_zero, List.set_cons_succ, List.getElem_toArray, List.getElem_cons_zero, List.getElem_cons_succ])
        refine wpAnyH_take (i := 5) (v := ?_) rfl (by kernel_rfl) (by kernel_rfl) (by kernel_rfl) (fun _ _ _ h => h) (Or.inl ⟨by rfl, ?y5⟩) (by assumption) ?_
        case y5 => intro w hSw; (try dsimp only at hSw); go_simp; (try with_reducible rfl)
        (try simp only [Act.put, List.setIfInBounds_toArray, List.set_cons_zero, List.set_cons_succ, List.getElem_toArray, List.getElem_cons_zero, List.getElem_cons_succ])
        refine wpAnyH_take (i := 6) (v := ?_) rfl (by kernel_rfl) (by kernel_rfl) (by kernel_rfl) (fun _ _ _ h => h) (Or.inl ⟨by rfl, ?y6⟩) (by assumption) ?_
        case y6 => intro w hSw; (try dsimp only at hSw); go_simp; (try with_reducible rfl)
        (try simp only [Act.put, List.setIfInBounds_toArray, List.set_cons_zero, List.set_cons_succ, List.getElem_toArray, List.getElem_cons_zero, List.getElem_cons_succ])
        refine wpAnyH_ready (rs := [7]) (by kernel_rfl) (by simp) ?_
        refine AllReadyH.cons rfl (fun KK hKK => ?_) AllReadyH.nil
        go_simp
        refine hKK.out _ _ hS3 (fun hHeld => ?_)
        clear hKK KK
        (try simp only [Act.put, List.setIfInBounds_toArray, List.set_cons_zero, List.set_cons_succ, List.getElem_toArray, List.getElem_cons_zero, List.getElem_cons_succ])
        refine wpAnyH_done (by kernel_rfl) ?_ _
        go_wp2_with fail
        go_roundw
        · exact HG.out.1
        · rw [HG.out.2]; exact HLT.out
      | none =>
        simp only [encH, Option.getD_none, Option.isSome_none] at hrun hen
        have hbw := below1 w2 (.cells #[.int .i64 0, .bool false] 75)
        obtain ⟨w3, hst, hV3, hg3⟩ := (HB2.out.below hbw).vals.drop kitV HK.out
        have hG := HGO.out _ w3 _ rfl hbw ((turn_grown hg3).mono fun j q => (Option.some.inj q).symm) hV3
        have HG := Lib.hid hG
        have c0 := (HB2.out.below hbw).c0
        clear hbw hV3 hg3 hG HGO HH hin h6
        go_wp2_with fail
        go_roundw
        · exact HG.out.1
        · rw [HG.out.2]; exact HLT.out

theorem lv_cases {w : World} {B : Nat} {U : List Int} {s : USt} {F : Nat → Prop} (h : URep w B U s F) : (s.2 = [] ∧ ∃ mv v, UB w B mv v [] (ulk s.1)) ∨
    ∃ mv v m f lv t T, s.2 = t :: T ∧ F = UF B mv v ((m, f) :: lv) ∧ UB w B mv v ((m, f) :: lv) (ulk s.1) ∧ ULv U s.1 ((m, f) :: lv) (t :: T) ∧ UOk U s ∧ U.length ≤ 1000000 ∧ lv.length ≤ 64 := by
  obtain ⟨mv, v, lv, h1, h2, h3, h4, rfl⟩ := h
  obtain ⟨N, T⟩ := s
  match lv, T, h1, h2, h3 with
  | [], [], h1, h2, h3 => exact Or.inl ⟨rfl, mv, v, h1⟩
  | (m, f) :: lv, t :: T, h1, h2, h3 =>
    have := h2.len
    have h64 := h3.2.2
    simp only [List.length_cons] at this h64
    exact Or.inr ⟨mv, v, m, f, lv, t, T, rfl, rfl, h1, h2, h3, h4, by omega⟩
theorem back_u {w : World} {B : Nat} {U : List Int} {s : USt} {F : Nat → Prop} (h : URep w B U s F) : Calls Try.prog 15 #[.pointer (some ⟨B, 0, none⟩)] w fun e w' => e = .returned (.int .i64 (uendE s)) ∧ UPost w B U (uback s) F w' := by
  have H0 := Lib.hid h
  rcases lv_cases h with ⟨hs, mv, v, h1⟩ | ⟨mv, v, m, f, lv, t, T, hs, rfl, h1, h2, h3, h4, h64⟩
  · have he := end_no h1
    rw [show uendE s = 2 by unfold uendE; rw [if_pos hs], show uback s = s by unfold uback; rw [hs]; obtain ⟨N, T⟩ := s; dsimp only at hs; subst hs; rfl]
    clear h1 hs h
    go_enter Try.func15, Try.ntmps15
    go_wp2_with fail
    refine he.mono ?_; rintro e w1 ⟨rfl, hb⟩
    go_wp2_with fail
    go_ret
    have hb2 := hb.trans ((below1 w1 (Beg (.map none) (.int .i64 0))).mono hb.size)
    exact ⟨rfl, _, H0.out.below hb2, Turn.of_below hb2, fun j q => Or.inl q⟩
  · have he := end_u h1 h64
    rw [show uendE s = 0 by unfold uendE; rw [if_neg (by rw [hs]; simp)], show uback s = (t, T) by unfold uback; rw [hs]; rfl]
    have hfU : ∀ k, InR k → (f k).isSome = true → k ∈ U := h2.2.1
    have HR : Hid (∀ w1 w2, EndP w B mv v m f lv (ulk s.1) w1 → Below w1.heap.size w1 w2 → Calls Try.prog 29 #[.pointer (some ⟨B, 0, none⟩), .agg #[.map (some m), .int .i64 0]] w2 fun e w' => e = .returned (.tuple #[]) ∧ UPost w B U (t, T) (UF B mv v ((m, f) :: lv)) w') := by
      rintro w1 w2 ⟨v', E1, E2, E3, E4, E5⟩ hb
      refine (restore_u (E1.below hb) (E2.keep (hb.block m E2.lt)) E5 hfU h3.1 h4).mono ?_
      rintro e w3 ⟨rfl, r1, r2⟩
      refine ⟨rfl, _, ⟨mv, v', lv, r1.same fun k hk => (h2.1 k hk).symm, h2.2.2, ⟨h3.2.1 t (by rw [hs]; exact List.mem_cons_self), fun q hq => h3.2.1 q (by rw [hs]; exact List.mem_cons_of_mem _ hq), by have := h3.2.2; rw [hs] at this; simp only [List.length_cons] at this; show T.length ≤ 64; omega⟩, h4, rfl⟩, ?_, fun j q => Or.inl (E4 j q)⟩
      exact (E3.trans (Turn.of_below (F := fun _ => False) hb) fun j q => q.elim).trans r2 fun j q => Or.inl (E4 j q)
    clear h1 h2 h3 h4 h64 hs h hfU
    go_enter Try.func15, Try.ntmps15
    go_wp2_with fail
    refine he.mono ?_; rintro e w1 ⟨rfl, hE⟩
    have hr := HR.out w1 _ hE (below1 w1 (Beg (.map (some m)) (.int .i64 0)))
    clear he HR hE
    go_wp2_with fail
    refine hr.mono ?_; rintro e w2 ⟨rfl, hP⟩
    have HP := Lib.hid hP
    clear hr hP
    go_wp2_with fail
    go_ret
    exact ⟨rfl, HP.out⟩
end Go.Proofs.Ytmhfgkkiplencaa
