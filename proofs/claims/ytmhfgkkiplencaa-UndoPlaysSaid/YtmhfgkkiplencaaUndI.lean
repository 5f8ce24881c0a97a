/-
  The landed book's pass and Keep. The conditions: the book's blocks.
-/
import Derived.Test.YtmhfgkkiplencaaUndH
namespace Go.Proofs.Ytmhfgkkiplencaa
open Go.RowKit Go.Maps
set_option linter.unusedSimpArgs false
set_option linter.unusedVariables false

/-- What holds at the head of pass's loop. -/
structure PsI (w : World) (B mv : Nat) (v : Value) (m1 : Nat) (g1 : UH) (lv : List (Nat × UH)) (N : Prs) (m : Nat) (f : UH) (r : Nat) (wr : World) : Prop where
  out : ∃ left cnt, MpRH wr m r f left cnt ∧ UB wr B mv v ((m1, upass f g1 N left) :: lv) (ulk N) ∧ Turn (UF B mv v ((m1, g1) :: lv)) w wr
theorem upass_in {U : List Int} {f g : UH} {N : Prs} {left : Int → Bool} (hf : ∀ k, InR k → (f k).isSome = true → k ∈ U) (hg : ∀ k, InR k → (g k).isSome = true → k ∈ U) : ∀ k, InR k → (upass f g N left k).isSome = true → k ∈ U := by
  intro k hk hs
  unfold upass at hs
  by_cases e : (f k).isSome = true ∧ left k = false
  · exact hf k hk e.1
  · rw [if_neg e] at hs; exact hg k hk hs
/-- A round: the map around turns, then settle. -/
theorem ps_go {w wr w1 W2 w3 : World} {B mv : Nat} {v : Value} {m1 : Nat} {g1 : UH} {lv : List (Nat × UH)} {N : Prs} {m r : Nat} {f : UH} {left : Int → Bool} {cnt' : Nat} {k : Int} {x : Option Int}
    (hlow : ∀ j, UF B mv v ((m1, g1) :: lv) j → j < w.heap.size) (hm : ¬ UF B mv v ((m1, g1) :: lv) m) (hr : w.heap.size ≤ r) (hmw : m < w.heap.size) (h64 : lv.length ≤ 63) (hk : InR k)
    (hU : UB wr B mv v ((m1, upass f g1 N left) :: lv) (ulk N)) (hT : Turn (UF B mv v ((m1, g1) :: lv)) w wr)
    (hg : wr.grownBy w1 (some r)) (hR : MpRH w1 m r f (fun j => left j && !decide (j = k)) cnt') (hl : left k = true) (hf : f k = some x) (hb : Below w1.heap.size w1 W2)
    (t3 : Turn (fun j => j = m1) W2 w3) (hV : MpH w3 m1 (unote (upass f g1 N left) k x)) :
    Calls Try.prog 32 #[.pointer (some ⟨B, 0, none⟩), .int .i64 k] w3 fun e w4 => e = .returned (.tuple #[]) ∧ PsI w B mv v m1 g1 lv N m f r w4 ∧ w4.rangeLeft m r = cnt' := by
  have t1 := turn_grown hg
  have t1' : Turn (fun j => j = r) wr w1 := t1.mono fun j q => (Option.some.inj q).symm
  have U1 := hU.turn t1' fun j q e => by have := hlow j q; omega
  have U2 := U1.below hb
  have hm1 : UF B mv v ((m1, g1) :: lv) m1 := Or.inr (Or.inr (Or.inr List.mem_cons_self))
  have hm1l := hlow m1 hm1
  have mneq : m ≠ m1 := fun e => hm (e ▸ hm1)
  have hne := hR.ne
  have R3 : MpRH w3 m r f (fun j => left j && !decide (j = k)) cnt' := (hR.kept (hb.block _ hne.2.2) (hb.block _ hne.2.1)).kept (t3.block _ (Nat.lt_of_lt_of_le hne.2.2 hb.size) mneq) (t3.block _ (Nat.lt_of_lt_of_le hne.2.1 hb.size) (fun e => by omega))
  have U3 := U2.top t3 hV
  have t2 : Turn (UF B mv v ((m1, g1) :: lv)) w W2 := (hT.trans t1' fun j q => Or.inr (by omega)).trans (Turn.of_below (F := fun _ => False) hb) fun j q => q.elim
  have t4 := t2.trans t3 fun j q => Or.inl (q ▸ hm1)
  refine (settle_u U3 k hk (by simp only [List.length_cons]; omega)).mono ?_
  rintro e w4 ⟨rfl, U4, t5⟩
  have e4 : untop (fun f => usettle f k (ulk N k)) ((m1, unote (upass f g1 N left) k x) :: lv) = (m1, upass f g1 N fun j => left j && !decide (j = k)) :: lv := by
    show (m1, usettle (unote (upass f g1 N left) k x) k (ulk N k)) :: lv = _
    rw [show usettle (unote (upass f g1 N left) k x) k (ulk N k) = upass f g1 N fun j => left j && !decide (j = k) from funext fun j => upass_step hl hf j]
  rw [e4] at U4
  have t5' : Turn (UF B mv v ((m1, g1) :: lv)) w3 w4 := t5
  have hne3 := R3.ne
  have R4 := R3.kept (t5'.block _ hne3.2.2 hm) (t5'.block _ hne3.2.1 fun q => by have := hlow r q; omega)
  exact ⟨rfl, ⟨_, cnt', R4, U4, t4.trans t5' fun j q => Or.inl q⟩, R4.left_eq⟩
theorem pass_no {w : World} {B mv : Nat} {v : Value} {N : Prs} {m : Nat} (h : UB w B mv v [] (ulk N)) :
    Calls Try.prog 30 #[.pointer (some ⟨B, 0, none⟩), .agg #[.map (some m), .int .i64 0]] w fun e w' => e = .returned (.tuple #[]) ∧ Below w.heap.size w w' := by
  have he := eql_maph
  have hb := below1 w (Beg (.map (some m)) (.int .i64 0))
  have hc := changed_no (h.below hb)
  clear h
  go_enter Try.func30, Try.ntmps30
  go_wp2_with fail
  refine hc.mono ?_; rintro e w1 ⟨rfl, hb1⟩
  go_wp2_with fail
  exact bodyPost_ret (v := .tuple #[]) (by simp [results, Try.results30, go_sem]) rfl ⟨rfl, hb.trans (hb1.mono hb.size)⟩
set_option maxHeartbeats 2000000 in
theorem pass_u {w : World} {B mv : Nat} {v : Value} {m1 : Nat} {g1 : UH} {lv : List (Nat × UH)} {U : List Int} {N : Prs} {m : Nat} {f : UH} (h : UB w B mv v ((m1, g1) :: lv) (ulk N)) (hf : MpH w m f) (hm : ¬ UF B mv v ((m1, g1) :: lv) m) (hfU : ∀ k, InR k → (f k).isSome = true → k ∈ U) (hgU : ∀ k, InR k → (g1 k).isSome = true → k ∈ U) (hU : U.length ≤ 1000000) (h64 : lv.length ≤ 63) :
    Calls Try.prog 30 #[.pointer (some ⟨B, 0, none⟩), .agg #[.map (some m), .int .i64 0]] w fun e w' => e = .returned (.tuple #[]) ∧ ∃ left, (∀ k, InR k → left k = false) ∧ UB w' B mv v ((m1, upass f g1 N left) :: lv) (ulk N) ∧ Turn (UF B mv v ((m1, g1) :: lv)) w w' := by
  have he := eql_maph
  have hlow := h.foot
  have hb0 := below1 w (Beg (.map (some m)) (.int .i64 0))
  have A0 := At2.new w (.map (some m)) (.int .i64 0) 62
  have hs0 : (w.alloc (Beg (.map (some m)) (.int .i64 0))).heap.size = w.heap.size + 1 := by simp
  have hmw := hf.lt
  have hc := changed_u (h.below hb0) (by omega)
  have HR : Hid (∀ w1, Below (w.alloc (Beg (.map (some m)) (.int .i64 0))).heap.size (w.alloc (Beg (.map (some m)) (.int .i64 0))) w1 → w1.cell? ⟨w.heap.size, 0, none⟩ = some (.map (some m)) ∧ ∃ w2, (Instr.range 60 (.map (some m))).run Try.prog w1 = .ok (.pointer (some ⟨w1.heap.size, 0, none⟩)) w2 ∧ w.heap.size < w1.heap.size ∧ PsI w B mv v m1 g1 lv N m f w1.heap.size w2) := fun w1 hb => by
    have hb' := hb0.trans (hb.mono hb0.size)
    obtain ⟨w2, cnt, left, hrun, hR, hleft, hg, hs⟩ := (hf.keep (hb'.block _ hf.lt)).range kitH
    have t1 : Turn (fun _ => False) w1 w2 := (turn_grown hg).mono fun j q => by cases q
    refine ⟨(hb.cell (p := ⟨w.heap.size, 0, none⟩) A0.2.2).trans A0.1, w2, hrun, by have := hb.size; omega, ⟨left, cnt, hR, ?_, (Turn.of_below hb').trans t1 fun j q => q.elim⟩⟩
    have U2 := (h.below hb').turn t1 fun j q => id
    refine U2.stay rfl (fun _ _ => rfl) U2.vals (fun p hp => ?_) rfl
    rcases List.mem_cons.1 hp with rfl | hp
    · refine (U2.maps (m1, g1) List.mem_cons_self).same fun k hk => ?_
      have := upass_start f g1 N k
      show g1 k = upass f g1 N left k
      unfold upass at this ⊢
      rw [hleft k hk]; exact this.symm
    · exact U2.maps p (List.mem_cons_of_mem _ hp)
  have HH := Lib.hid (And.intro hlow (And.intro hm (And.intro hmw (And.intro (fun left => upass_in (N := N) (left := left) hfU hgU) hU))))
  clear h hf hm hfU hgU hU hlow hmw
  go_enter Try.func30, Try.ntmps30
  go_wp2_with fail
  refine hc.mono ?_; clear hc; rintro e w1 ⟨rfl, hb⟩
  obtain ⟨x0, w2, hrun, hrs, hI⟩ := HR.out w1 hb
  have H0 := Lib.hid hI
  clear HR hI hb hb0 A0 hs0
  generalize hr0 : w1.heap.size = r at *
  clear hr0
  go_wp2_with fail
  clear hrun x0
  go_loopw [5] (fun _ wr => PsI w B mv v m1 g1 lv N m f r wr) (fun _ wr => wr.rangeLeft m r)
  case atStart => exact H0.out
  case round =>
    clear H0
    obtain ⟨left, cnt, hR, hUB, hT⟩ := hrel.out
    clear hrel
    rcases hR.next kitH with ⟨hl, hrun⟩ | ⟨k, x, w3, cnt', hk, hlk, hfk, hx, hrun, hR2, hlt, hg, hsz, hen⟩
    · have HE := Lib.hid (And.intro hl (And.intro hUB hT))
      clear hUB hT hR hl HH
      go_wp2_with fail
      go_end0
      exact ⟨rfl, left, HE.out⟩
    · obtain ⟨h1, h2, h3, h4, h5⟩ := HH.out
      have hm1 := hR.left_eq
      have HLT := Lib.hid (show cnt' < wr.rangeLeft m r by rw [hm1]; exact hlt)
      have HGO : Hid (∀ (W2 w4 : World), Below w3.heap.size w3 W2 → Turn (fun j => j = m1) W2 w4 → MpH w4 m1 (unote (upass f g1 N left) k x) → Calls Try.prog 32 #[.pointer (some ⟨B, 0, none⟩), .int .i64 k] w4 fun e w5 => e = .returned (.tuple #[]) ∧ PsI w B mv v m1 g1 lv N m f r w5 ∧ w5.rangeLeft m r = cnt') :=
        fun W2 w4 hb t3 hV => ps_go h1 h2 (by omega) h3 h64 hk hUB hT hg hR2 hlk hfk hb t3 hV
      have t1' : Turn (fun j => j = r) wr w3 := (turn_grown hg).mono fun j q => (Option.some.inj q).symm
      have HB2 : Hid (UB w3 B mv v ((m1, upass f g1 N left) :: lv) (ulk N)) := hUB.turn t1' fun j q e => by have := h1 j q; omega
      have hin := h4 left
      have hbw := below1 w3 (.cells #[.int .i64 (x.getD 0), .bool x.isSome] 75)
      have Y := At2.new w3 (.int .i64 (x.getD 0)) (.bool x.isSome) 75
      have hma : MpH (w3.alloc (.cells #[.int .i64 (x.getD 0), .bool x.isSome] 75)) m1 (upass f g1 N left) := (HB2.out.below hbw).maps _ List.mem_cons_self
      have hlo := (hma.look kitH hk).1
      simp only [encH] at hlo hrun hen
      have HK := Lib.hid hk
      have HX := Lib.hid hx
      clear hUB hT hR hR2 hg hm1 hlt hlk hsz t1' h1 h2 h3 h4 hfk hk hx
      by_cases ha : (upass f g1 N left k).isSome = true
      · rw [ha] at hlo
        generalize ((upass f g1 N left k).getD none).getD 0 = a0 at hlo
        generalize ((upass f g1 N left k).getD none).isSome = a1 at hlo
        have hbw2 := below1 (w3.alloc (.cells #[.int .i64 (x.getD 0), .bool x.isSome] 75)) (.cells #[.int .i64 a0, .bool a1] 75)
        have hb3 := hbw.trans (hbw2.mono hbw.size)
        have hse := HGO.out _ _ hb3 (Turn.refl _ _) (by rw [unote_same ha]; exact hma.keep (hbw2.block _ hma.lt))
        generalize x.getD 0 = xa at *
        generalize x.isSome = xb at *
        clear HGO HH HB2 hin hbw hbw2 hb3 Y hma ha h5
        go_wp2_with fail
        refine hse.mono ?_; rintro e w5 ⟨rfl, hp, hq⟩
        have HP := Lib.hid (And.intro hp hq)
        clear hse hp hq
        go_wp2_with fail
        go_roundw
        · exact HP.out.1
        · rw [HP.out.2]; exact HLT.out
      · have ha' : upass f g1 N left k = none := by cases hq : upass f g1 N left k with | none => rfl | some y => rw [hq] at ha; exact absurd rfl ha
        rw [ha'] at hlo
        simp only [Option.getD_none, Option.isSome_none] at hlo
        have hbw2 := below1 (w3.alloc (.cells #[.int .i64 (x.getD 0), .bool x.isSome] 75)) (.cells #[.int .i64 0, .bool false] 75)
        have hb3 := hbw.trans (hbw2.mono hbw.size)
        obtain ⟨w5, hst, hV5, hg5⟩ := (hma.keep (hbw2.block _ hma.lt)).store kitH hin h5 HK.out HX.out
        have hse := HGO.out _ w5 hb3 ((turn_grown hg5).mono fun j q => (Option.some.inj q).symm) (hV5.same fun j hj => by unfold unote; rw [ha']; rfl)
        obtain ⟨y0, y1, y2⟩ := Y.below hbw2
        simp only [encH] at hst
        generalize x.getD 0 = xa at *
        generalize x.isSome = xb at *
        clear HGO HH HB2 hin hbw hbw2 hb3 hma ha ha' h5 hV5 hg5
        go_wp2_with fail
        refine hse.mono ?_; rintro e w6 ⟨rfl, hp, hq⟩
        have HP := Lib.hid (And.intro hp hq)
        clear hse hp hq
        go_wp2_with fail
        go_roundw
        · exact HP.out.1
        · rw [HP.out.2]; exact HLT.out
theorem keep_u {w : World} {B : Nat} {U : List Int} {s : USt} {F : Nat → Prop} (h : URep w B U s F) : Calls Try.prog 17 #[.pointer (some ⟨B, 0, none⟩)] w fun e w' => e = .returned (.int .i64 (uendE s)) ∧ UPost w B U (ukeep s) F w' := by
  have H0 := Lib.hid h
  rcases lv_cases h with ⟨hs, mv, v, h1⟩ | ⟨mv, v, m, f, lv, t, T, hs, rfl, h1, h2, h3, h4, h64⟩
  · have he := end_no h1
    rw [show uendE s = 2 by unfold uendE; rw [if_pos hs], show ukeep s = s by unfold ukeep; rw [hs]; obtain ⟨N, T⟩ := s; dsimp only at hs; subst hs; rfl]
    clear h1 hs h
    go_enter Try.func17, Try.ntmps17
    go_wp2_with fail
    refine he.mono ?_; rintro e w1 ⟨rfl, hb⟩
    go_wp2_with fail
    go_ret
    have hb2 := hb.trans ((below1 w1 (Beg (.map none) (.int .i64 0))).mono hb.size)
    exact ⟨rfl, _, H0.out.below hb2, Turn.of_below hb2, fun j q => Or.inl q⟩
  · have he := end_u h1 h64
    rw [show uendE s = 0 by unfold uendE; rw [if_neg (by rw [hs]; simp)], show ukeep s = (s.1, T) by unfold ukeep; rw [hs]; rfl]
    have hfU : ∀ k, InR k → (f k).isSome = true → k ∈ U := h2.2.1
    have hok : UOk U (s.1, T) := ⟨h3.1, fun q hq => h3.2.1 q (by rw [hs]; exact List.mem_cons_of_mem _ hq), by have := h3.2.2; rw [hs] at this; simp only [List.length_cons] at this; show T.length ≤ 64; omega⟩
    have HR : Hid (∀ w1 w2, EndP w B mv v m f lv (ulk s.1) w1 → Below w1.heap.size w1 w2 → Calls Try.prog 30 #[.pointer (some ⟨B, 0, none⟩), .agg #[.map (some m), .int .i64 0]] w2 fun e w' => e = .returned (.tuple #[]) ∧ UPost w B U (s.1, T) (UF B mv v ((m, f) :: lv)) w') := by
      rintro w1 w2 ⟨v', E1, E2, E3, E4, E5⟩ hb
      have hl3 := h2.len
      have h6 := h3.2.2
      rw [hs] at h6
      have hE : Turn (UF B mv v ((m, f) :: lv)) w w2 := E3.trans (Turn.of_below (F := fun _ => False) hb) fun j q => q.elim
      match lv, T, E1, E2, E3, E4, E5, h2, hok, hl3, h6, hE with
      | [], [], E1, E2, E3, E4, E5, h2, hok, hl3, h6, hE =>
        refine (pass_no (E1.below hb)).mono ?_
        rintro e w3 ⟨rfl, hb3⟩
        exact ⟨rfl, _, ⟨mv, v', [], (E1.below hb).below hb3, trivial, hok, h4, rfl⟩, hE.trans (Turn.of_below (F := fun _ => False) hb3) fun j q => q.elim, fun j q => Or.inl (E4 j q)⟩
      | (m1, g1) :: lv, t1 :: T, E1, E2, E3, E4, E5, h2, hok, hl3, h6, hE =>
        simp only [List.length_cons] at hl3 h6
        refine (pass_u (E1.below hb) (E2.keep (hb.block m E2.lt)) E5 hfU h2.2.2.2.1 h4 (by omega)).mono ?_
        rintro e w3 ⟨rfl, left, hleft, r1, r2⟩
        exact ⟨rfl, _, ⟨mv, v', _, r1, h2.pass hleft, hok, h4, rfl⟩, hE.trans r2 fun j q => Or.inl (E4 j q), fun j q => Or.inl (E4 j q)⟩
    clear h1 h2 h3 h4 h64 hs h hfU hok
    go_enter Try.func17, Try.ntmps17
    go_wp2_with fail
    refine he.mono ?_; rintro e w1 ⟨rfl, hE⟩
    have hr := HR.out w1 _ hE (below1 w1 (Beg (.map (some m)) (.int .i64 0)))
    clear he HR hE
    go_wp2_with fail
    refine hr.mono ?_; rintro e w2 ⟨rfl, hP⟩
    have HP := Lib.hid hP
    clear hr hP
    go_wp2_with fail
    go_ret
    exact ⟨rfl, HP.out⟩
end Go.Proofs.Ytmhfgkkiplencaa
