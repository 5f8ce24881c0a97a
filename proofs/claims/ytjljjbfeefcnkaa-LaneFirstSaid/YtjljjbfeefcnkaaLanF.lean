/-
  LaneFirst of layer 10 answers true over a queue's contracts, for whatever numbers. The conditions: the contracts.
-/
import Derived.Test.YtjljjbfeefcnkaaLanA
import Derived.Test.YtjljjbfeefcnkaaIntB0
import Derived.Test.YtjljjbfeefcnkaaRefHs
import Derived.Deep.DeepCutAuto
import Derived.Deep.RegionHeld3
namespace Go.Proofs.Ytjljjbfeefcnkaa
open Go.RowKit
set_option linter.unusedSimpArgs false
set_option linter.unusedVariables false

/-- A guarded operation that is wanted goes as a plain one. -/
theorem wpList_free {P : Program} {ops : Array Oper} {rest : List Oper} {d : Option Tmp} {op : Op} {ty : TypeId} {pos : String} {af : Array Edge} {g : Option (Nat × Bool)} {a : Act} {w : World} {Q : Exit → Act → World → Prop}
    (hw : Region.wanted { dst := d, op := op, type := ty, pos := pos, after := af, guard := g } (yielded ops a.tmps) = true)
    (h : wpList P ops Q ({ dst := d, op := op, type := ty, pos := pos, after := af, guard := none } :: rest) a w) : wpList P ops Q ({ dst := d, op := op, type := ty, pos := pos, after := af, guard := g } :: rest) a w := by
  unfold wpList at h ⊢
  rw [if_pos hw]
  rw [if_pos (by simp [Region.wanted])] at h
  exact h
theorem ei_head (L M : List Int) : eiv L M = (L ++ M).headD 0 := by cases L <;> simp [eiv]
theorem ei_tail (L M : List Int) : eiL L ++ eiM L M = (L ++ M).tail := by cases L <;> simp [eiL, eiM]
theorem ei_there (L M : List Int) : eib L M = decide (0 < (L ++ M).length) := by cases L <;> simp [eib]
/-- Two queues of numbers apart, and a row of numbers that the call owns beside them. -/
def TwoR (T : QueI) (w0 w : World) (B C : Nat) (m n : Int) (L M : List Int) (v : Value) (R : List Int) : Prop :=
  ∃ F G, T.Rep w B m L F ∧ T.Rep w C n M G ∧ (∀ j, F j → ¬ G j) ∧ Below w0.heap.size w0 w ∧ (∀ j, F j → w0.heap.size ≤ j) ∧ (∀ j, G j → w0.heap.size ≤ j) ∧ OwnO (fun j => F j ∨ G j) w w0.heap.size 3 1 v R.length (R.map (Value.int .i64))
section
variable {T : QueI} {w0 w w' : World} {B C : Nat} {m n : Int} {L M R : List Int} {v : Value}
theorem TwoR.hb (h : TwoR T w0 w B C m n L M v R) : Below w0.heap.size w0 w := by obtain ⟨_, _, _, _, _, h, _⟩ := h; exact h
theorem TwoR.form (h : TwoR T w0 w B C m n L M v R) : ∃ a c, v = .slice a R.length c := by obtain ⟨_, _, _, _, _, _, _, _, h⟩ := h; exact (ownsRow_slc h.1).form
theorem TwoR.own (h : TwoR T w0 w B C m n L M v R) : Own w w0.heap.size v R := by obtain ⟨_, _, _, _, _, _, _, _, h⟩ := h; exact h.1
theorem TwoR.either (hE : EithC T) (h : TwoR T w0 w B C m n L M v R) :
    Calls Try.prog 19 #[.pointer (some ⟨B, 0, none⟩), .pointer (some ⟨C, 0, none⟩)] w fun e w' => e = .returned (.tuple #[.int .i64 ((L ++ M).headD 0), .bool (decide (0 < (L ++ M).length))]) ∧ ∃ L' M', L' ++ M' = (L ++ M).tail ∧ TwoR T w0 w' B C m n L' M' v R := by
  obtain ⟨F, G, h1, h2, h3, h4, h5, h6, h7⟩ := h
  rw [← ei_head, ← ei_there]
  exact (hE h1 h2 h3).mono fun e w' ⟨he, F', G', r, s, d, t, f, g⟩ => ⟨he, _, _, ei_tail L M, F', G', r, s, d, h4.trans (t.below (fun j q => q.elim (h5 j) (h6 j)) h4.size), fun j q => (f j q).elim (h5 j) (fun q => Nat.le_trans h4.size q), fun j q => (g j q).elim (h6 j) (fun q => Nat.le_trans h4.size q),
    h7.turn t (fun b q => (h7.2 b q).2) (fun k r => r.elim (fun r => (f k r).imp Or.inl id) (fun r => (g k r).imp Or.inr id))⟩
theorem TwoR.push {F G : Nat → Prop} {v' : Value} {z : Int} (h1 : T.Rep w B m L F) (h2 : T.Rep w C n M G) (h3 : ∀ j, F j → ¬ G j) (h4 : Below w0.heap.size w0 w) (h5 : ∀ j, F j → w0.heap.size ≤ j) (h6 : ∀ j, G j → w0.heap.size ≤ j) (h7 : OwnO (fun j => F j ∨ G j) w w0.heap.size 3 1 v R.length (R.map (Value.int .i64)))
    (o : OwnO (fun j => F j ∨ G j) w' w0.heap.size 3 1 v' (R.length + 1) (R.map (Value.int .i64) ++ [.int .i64 z])) (t : Turn (fun j => v.ownBlock = some j) w w') : TwoR T w0 w' B C m n L M v' (R ++ [z]) :=
  ⟨F, G, T.turn h1 t (fun j q r => (h7.2 j r).2 (Or.inl q)), T.turn h2 t (fun j q r => (h7.2 j r).2 (Or.inr q)), h3, h4.trans (t.below (fun j q => (World.ownsRow.lt h7.1 j q).1) h4.size), h5, h6, by rw [List.length_append, List.map_append]; simpa using o⟩
end
theorem wrap64_sum {a b : Nat} (ha : a ≤ 100) (hb : b ≤ 100) : wrap64 ((a : Int) + (b : Int)) = (a : Int) + (b : Int) := by unfold wrap64; omega
/-- What holds at the loops' heads. -/
structure FiRel (T : QueI) (w : World) (B C : Nat) (L M : List Int) (z : Nat) (b : Bool) (i : Value) (wr : World) : Prop where
  out : ∃ k : Nat, k ≤ z ∧ i = .int .i64 (k : Int) ∧ Two T w wr B C 1000 1000 (if b then L.take k else L) (if b then M else M.take k)
structure FiRel3 (T : QueI) (w : World) (B C : Nat) (A : List Int) (v i : Value) (wr : World) : Prop where
  out : ∃ (k : Nat) (L M : List Int), k ≤ A.length ∧ i = .int .i64 (k : Int) ∧ L ++ M = A.drop k ∧ TwoR T w wr B C 1000 1000 L M v (A.take k)
theorem put_take {L : List Int} {k : Nat} (h : k < L.length) (hl : L.length ≤ 100) : qpe (L.take k) 1000 = 0 ∧ qput (L.take k) 1000 (L.getD k 0) = L.take (k + 1) := by
  unfold qpe qput
  have : (L.take k).length = k := by rw [List.length_take]; omega
  rw [this, if_neg (by omega), if_neg (by omega)]
  refine ⟨rfl, ?_⟩
  rw [List.take_succ_eq_append_getElem h]
  simp [List.getD, h]

set_option maxHeartbeats 8000000 in
set_option maxRecDepth 100000 in
theorem first10 (T : QueI) (hE : EithC T) (hN : NilTake) (hP : NilPut) (a a' : Option Addr) (c c' : Nat) (l l' : List Int) (w : World) (hl : Reads w a l) (hl' : Reads w a' l') (hc : a = none → c = 0) (hc' : a' = none → c' = 0) (hbig : (l.length : Int) ≤ 9223372036854775807) (hbig' : (l'.length : Int) ≤ 9223372036854775807) :
    Calls Try.prog 5 #[.slice a l.length c, .slice a' l'.length c'] w fun e w' => e = .returned (.bool true) ∧ Below w.heap.size w w' := by
  have haw := l_awake T hE hN hP
  have hnw := One.new (T := T) 1000 w (by decide) (by decide)
  by_cases h1 : 100 < l.length
  · clear hl hl' hc hc'
    go_enter Try.func5, Try.ntmps5
    go_wp2_with fail
    refine hnw.mono ?_; rintro e w1 ⟨B, rfl, hO⟩
    have hn2 := hO.new2 1000 (by decide) (by decide)
    go_wp2_with fail
    refine hn2.mono ?_; rintro e w2 ⟨C, rfl, hR⟩
    go_wp2_with fail
    refine (haw _).mono ?_; rintro e w3 ⟨rfl, hb3⟩
    go_wp2_with fail
    go_ret
    exact ⟨rfl, (hR.below hb3).hb⟩
  by_cases h2 : 100 < l'.length
  · clear hl hl' hc hc'
    go_enter Try.func5, Try.ntmps5
    go_wp2_with fail
    refine hnw.mono ?_; rintro e w1 ⟨B, rfl, hO⟩
    have hn2 := hO.new2 1000 (by decide) (by decide)
    go_wp2_with fail
    refine hn2.mono ?_; rintro e w2 ⟨C, rfl, hR⟩
    go_wp2_with fail
    refine (haw _).mono ?_; rintro e w3 ⟨rfl, hb3⟩
    go_wp2_with fail
    go_ret
    exact ⟨rfl, (hR.below hb3).hb⟩
  have HL := Lib.hid hl; have HL' := Lib.hid hl'; have HC := Lib.hid hc; have HC' := Lib.hid hc'; have HX := Lib.hid (show l.length ≤ 100 ∧ l'.length ≤ 100 by omega)
  clear hl hl' hc hc' hbig hbig'
  go_enter Try.func5, Try.ntmps5
  go_wp2_with fail
  refine hnw.mono ?_; rintro e w1 ⟨C, rfl, hO⟩
  have hn2 := hO.new2 1000 (by decide) (by decide)
  go_wp2_with fail
  refine hn2.mono ?_; rintro e w2 ⟨B, rfl, hR⟩
  have H0 : Hid (FiRel T w C B [] l' l'.length false (.int .i64 0) w2) := ⟨⟨0, Nat.zero_le _, rfl, by simpa using hR⟩⟩
  clear hnw hn2 hO hR
  go_wp2_with fail
  go_loopw [9] (fun i wr => FiRel T w C B [] l' l'.length false i wr) (fun i _ => l'.length - (intOf i).toNat)
  case atStart => exact H0.out
  case round =>
    clear H0
    obtain ⟨k, hk, rfl, hR⟩ := hrel.out
    clear hrel
    simp only [Bool.false_eq_true, if_false] at hR
    by_cases hlt : k < l'.length
    · obtain ⟨b, off, rfl, hcell⟩ := HL'.out.2 k hlt
      have hcw := (hR.hb.cell (p := ⟨b, _, none⟩) (World.block_lt_of_cell? w _ hcell)).trans hcell
      have hpt := put_take hlt HX.out.2
      have hpu := hR.putB (l'.getD k 0) (HL'.out.1 _ (by rw [show l'.getD k 0 = l'[k] by simp [List.getD, hlt]]; exact List.getElem_mem _))
      rw [hpt.1, hpt.2] at hpu
      have i0 : (0 : Int) ≤ (k : Int) := by omega
      have i1 : (k : Int) < (l'.length : Int) := by omega
      have HLT := Lib.hid hlt
      generalize l'.getD k 0 = z at *
      clear hcell hpt hR hlt hk
      go_wp2_with fail
      refine hpu.mono ?_; rintro e w3 ⟨rfl, hR3⟩
      have HR3 := Lib.hid hR3; clear hR3 hpu hcw
      go_wp2_with fail
      go_roundw
      · exact ⟨⟨k + 1, by have := HLT.out; omega, by go_num, HR3.out⟩⟩
      · have := HLT.out; simp [intOf]; omega
    · obtain rfl : k = l'.length := by omega
      rw [List.take_length] at hR
      have H2 : Hid (FiRel T w C B l l' l.length true (.int .i64 0) wr) := ⟨⟨0, Nat.zero_le _, rfl, by simpa using hR⟩⟩
      clear hR hlt hk
      go_wp2_with fail
      go_loopw [10] (fun i wr => FiRel T w C B l l' l.length true i wr) (fun i _ => l.length - (intOf i).toNat)
      case atStart => exact H2.out
      case round =>
        clear H2
        obtain ⟨k, hk, rfl, hR⟩ := hrel.out
        clear hrel
        simp only [if_true] at hR
        by_cases hlt : k < l.length
        · obtain ⟨b, off, rfl, hcell⟩ := HL.out.2 k hlt
          have hcw := (hR.hb.cell (p := ⟨b, _, none⟩) (World.block_lt_of_cell? w _ hcell)).trans hcell
          have hpt := put_take hlt HX.out.1
          have hpu := hR.putA (l.getD k 0) (HL.out.1 _ (by rw [show l.getD k 0 = l[k] by simp [List.getD, hlt]]; exact List.getElem_mem _))
          rw [hpt.1, hpt.2] at hpu
          have i0 : (0 : Int) ≤ (k : Int) := by omega
          have i1 : (k : Int) < (l.length : Int) := by omega
          have HLT := Lib.hid hlt
          generalize l.getD k 0 = z at *
          clear hcell hpt hR hlt hk
          go_wp2_with fail
          refine hpu.mono ?_; rintro e w3 ⟨rfl, hR3⟩
          have HR3 := Lib.hid hR3; clear hR3 hpu hcw
          go_wp2_with fail
          go_roundw
          · exact ⟨⟨k + 1, by have := HLT.out; omega, by go_num, HR3.out⟩⟩
          · have := HLT.out; simp [intOf]; omega
        · obtain rfl : k = l.length := by omega
          rw [List.take_length] at hR
          obtain ⟨F, G, r1, r2, r3, r4, r5, r6⟩ := hR
          obtain ⟨A, hA⟩ : ∃ A, A = l ++ l' := ⟨_, rfl⟩
          have hAl : A.length = l.length + l'.length := by rw [hA]; simp
          have H3 : Hid (FiRel3 T w C B A (.slice none 0 0) (.int .i64 0) wr) := ⟨⟨0, l, l', Nat.zero_le _, rfl, by rw [hA]; rfl, F, G, r1, r2, r3, r4, r5, r6, OwnO.nil _ _ _ _ _⟩⟩
          have HI : Hid (∀ z ∈ A, InR z) := fun z hz => by
            rw [hA] at hz
            exact (List.mem_append.1 hz).elim (HL.out.1 z) (HL'.out.1 z)
          have HA := Lib.hid hA; have HAL := Lib.hid hAl
          have hAi : ((l.length : Int) + (l'.length : Int)) = (A.length : Int) := by omega
          have hA2 : wrap64 ((l.length : Int) + (l'.length : Int)) = (A.length : Int) := by rw [wrap64_sum HX.out.1 HX.out.2]; exact hAi
          clear r1 r2 r3 r4 r5 r6 hlt hk hA hAl
          go_wp2_with fail
          go_loopw [11, 12] (fun v i wr => FiRel3 T w C B A v i wr) (fun _ i _ => A.length - (intOf i).toNat)
          case atStart => exact H3.out
          case round =>
            clear H3
            obtain ⟨k, L, M, hk, rfl, hLM, hR⟩ := hrel.out
            clear hrel
            obtain ⟨a0, q0, rfl⟩ := hR.form
            have hei := hR.either hE
            rw [hLM] at hei
            by_cases hlt : k < A.length
            · have d1 : decide ((k : Int) < (A.length : Int)) = true := decide_eq_true (by omega)
              have e1 : (A.drop k).headD 0 = A.getD k 0 := by rw [List.drop_eq_getElem_cons hlt]; simp [List.getD, hlt]
              have e2 : decide (0 < (A.drop k).length) = true := decide_eq_true (by rw [List.length_drop]; omega)
              have e3 : (A.drop k).tail = A.drop (k + 1) := by simp
              have e4 : A.take k ++ [A.getD k 0] = A.take (k + 1) := by rw [List.take_succ_eq_append_getElem hlt]; simp [List.getD, hlt]
              rw [e1, e2, e3] at hei
              have HLT := Lib.hid hlt
              have hlk : (A.take k).length = k := by rw [List.length_take]; omega
              rw [hlk]
              generalize A.getD k 0 = z at *
              have HE4 := Lib.hid e4; have HLK := Lib.hid hlk
              clear e1 e2 e3 e4 hLM hR hlt hk hlk
              go_wp2_with fail
              refine hei.mono ?_; rintro e w3 ⟨rfl, L2, M2, hLM2, hR3⟩
              clear hei
              obtain ⟨F, G, g1, g2, g3, g4, g5, g6, g7⟩ := hR3
              have G1 := Lib.hid g1; have G2 := Lib.hid g2; have G3 := Lib.hid g3; have G4 := Lib.hid g4; have G5 := Lib.hid g5; have G6 := Lib.hid g6
              rw [HLK.out] at g7
              have G7 := Lib.hid g7
              have HM2 := Lib.hid hLM2
              clear g1 g2 g3 g4 g5 g6 g7 hLM2
              go_wp2_with
                (at_builtin
                 refine wpList_push1 rfl (.tmp 91) (.tmp 93) 29 rfl (fun j => F j ∨ G j) w.heap.size 3 1 8 (.int .i64 0) Try.underlying29 int_info rfl (by decide) [.int .i64 z] rfl _ _ _ rfl G7.out rfl (by intro u hu; simp at hu; subst hu; rfl) (by have := HLT.out; have := HAL.out; have := HX.out; omega) (by decide) G4.out.size (fun j q => q.elim (T.foot G1.out j) (T.foot G2.out j)) ?_
                 intro v3 w4 o4 t4 l4
                 obtain ⟨a3, q3, rfl⟩ := (ownsRow_slc o4.1).form
                 have HP := Lib.hid (TwoR.push (R := A.take k) G1.out G2.out G3.out G4.out G5.out G6.out (by rw [HLK.out]; exact G7.out) (by rw [HLK.out]; exact o4) t4)
                 clear o4 t4 l4)
              go_roundw
              · exact ⟨⟨k + 1, L2, M2, by have := HLT.out; omega, by go_num, HM2.out, by have := HP.out; rw [HE4.out] at this; exact this⟩⟩
              · have := HLT.out; simp [intOf]; omega
            · obtain rfl : k = A.length := by omega
              have d1 : decide ((A.length : Int) < (A.length : Int)) = false := decide_eq_false (by omega)
              have e1 : A.drop A.length = [] := List.drop_length
              have e2 : A.take A.length = A := List.take_length
              rw [e2] at hR hei ⊢
              rw [e1] at hei
              clear e1 e2 hlt hk hLM hR
              go_wp2_with fail
              refine hei.mono ?_; rintro e w3 ⟨rfl, L2, M2, _, hR3⟩
              clear hei
              have hb3 := hR3.hb
              have hs3 := hR3.own.sl HI.out
              have HB := Lib.hid hb3; have HS := Lib.hid hs3
              clear hb3 hs3 hR3
              go_wp2_with (first
                | (at_builtin
                   refine wpList_free rfl ?_
                   refine wp_cat (w3.alloc (.cells #[] 3)) rfl (.tmp 105) (.tmp 106) rfl w3.heap.size _ [] l a c rfl (Own.lit w3) rfl ((HL.out.below HB.out).alloc _) HC.out (by have := HX.out; simp; omega) (by simp) ?_
                   intro v7 w7 hown7 hb7
                   simp only [List.nil_append] at hown7
                   have hb17 := ((Below.refl _ w3).alloc (Nat.le_refl _) (.cells #[] 3)).trans hb7)
                | (at_builtin
                   refine wpList_free rfl ?_
                   refine wp_cat w7 rfl (.tmp 107) (.tmp 108) rfl w3.heap.size _ l l' a' c' rfl hown7 rfl ((HL'.out.below (HB.out.trans (hb17.mono HB.out.size)))) HC'.out (by have := HX.out; omega) hb17.size ?_
                   intro v8 w8 hown8 hb8
                   have hb18 := hb17.trans hb8
                   rw [← HA.out] at hown8
                   obtain ⟨a8, c8, rfl, hc8, hr8⟩ := hown8.reads HI.out
                   obtain ⟨a9, c9, he9, _, _, hr9⟩ := HS.out
                   cases he9))
              refine (same_any a0 a8 q0 c8 A A _ (hr9.below hb18) hr8 (by have := HAL.out; have := HX.out; omega)).mono ?_; rintro e w10 ⟨rfl, hb10⟩
              rw [show decide (A = A) = true by simp]
              have hb11 := HB.out.trans ((hb18.mono (Nat.le_refl _)).mono HB.out.size)
              clear hr9 hr8 hown8 hown7
              go_wp2_with fail
              refine (haw _).mono ?_; rintro e w11 ⟨rfl, hb12⟩
              go_wp2_with fail
              go_ret
              exact ⟨rfl, (hb11.trans (hb10.mono hb11.size)).trans (hb12.mono (hb11.trans (hb10.mono hb11.size)).size)⟩
end Go.Proofs.Ytjljjbfeefcnkaa
