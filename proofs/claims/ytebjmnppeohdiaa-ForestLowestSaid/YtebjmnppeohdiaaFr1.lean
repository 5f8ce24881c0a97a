/-
  A forest as it lies in its block, and what its has, how, Parent and Share answer. The conditions: at most 40 entities. What the library's Index, Contains (of whatever number) and IndexFunc (over a function value that only tells) answer. The condition: a slice whose length fits. What the landed line, holds, isUnder, isOver and those answer, of a forest in its block. The conditions: nobody comes back to itself; what those asks only tells.
-/
import Derived.Test.YtebjmnppeohdiaaFrsM
import Derived.Test.YtebjmnppeohdiaaStkA
import Derived.Deep.QuietTactic
import Derived.BigQuiet
import Derived.WalkSmall
import Derived.Deep.DeepCutAuto
import Derived.Deep.RegionHeld3
import Derived.Test.YtebjmnppeohdiaaBtR
namespace Go.Proofs.Ytebjmnppeohdiaa
open Go.RowKit
set_option linter.unusedSimpArgs false
set_option linter.unusedVariables false

/- A forest as it lies in its block, and what its has, how, Parent and Share answer. The conditions: at most 40 entities. -/
/-- A forest in its block: how many, and how each is held. -/
structure FrB (w : World) (B : Nat) (n : Int) (f s : Int → Int) : Prop where
  low : 0 ≤ n
  top : n ≤ 40
  cnt : w.cell? ⟨B, 0, none⟩ = some (.int .i64 n)
  par : ∀ x, Ent n x → w.cell? ⟨B, 1 + (x - 1).toNat * 2, none⟩ = some (.int .i64 (f x))
  shr : ∀ x, Ent n x → w.cell? ⟨B, 1 + (x - 1).toNat * 2 + 1, none⟩ = some (.int .i64 (s x))
  fno : ∀ x, ¬ Ent n x → f x = 0
  sno : ∀ x, ¬ Ent n x → s x = 0
theorem FrB.lt {w : World} {B : Nat} {n : Int} {f s : Int → Int} (h : FrB w B n f s) : B < w.heap.size := World.block_lt_of_cell? w _ h.cnt
theorem FrB.below {w w' : World} {B : Nat} {n : Int} {f s : Int → Int} (h : FrB w B n f s) (hb : Below w.heap.size w w') : FrB w' B n f s :=
  ⟨h.low, h.top, (hb.cell (p := ⟨B, 0, none⟩) h.lt).trans h.cnt, fun x hx => (hb.cell (p := ⟨B, 1 + (x - 1).toNat * 2, none⟩) h.lt).trans (h.par x hx), fun x hx => (hb.cell (p := ⟨B, 1 + (x - 1).toNat * 2 + 1, none⟩) h.lt).trans (h.shr x hx), h.fno, h.sno⟩
theorem field_p (a b : Int) (w : World) : (Instr.field 55 (.agg #[.int .i64 a, .int .i64 b]) 0).run Try.prog w = .ok (.int .i64 a) w := by kernel_rfl
theorem field_s (a b : Int) (w : World) : (Instr.field 55 (.agg #[.int .i64 a, .int .i64 b]) 1).run Try.prog w = .ok (.int .i64 b) w := by kernel_rfl
abbrev ptr (B : Nat) : Value := .pointer (some ⟨B, 0, none⟩)

set_option maxHeartbeats 1000000 in
set_option maxRecDepth 100000 in
theorem has_c {w : World} {B : Nat} {n : Int} {f s : Int → Int} (h : FrB w B n f s) (x : Int) :
    Calls Try.prog 36 #[ptr B, .int .i64 x] w fun e w' => e = .returned (.bool (decide (Ent n x))) ∧ w = w' := by
  have hc := h.cnt
  clear h
  by_cases h1 : 1 ≤ x
  · have d1 : decide (1 ≤ x) = true := decide_eq_true h1
    have e : decide (Ent n x) = decide (x ≤ n) := by unfold Ent; simp [h1]
    rw [e]
    clear e h1
    go_enter Try.func36, Try.ntmps36
    go_wp2_with fail
    go_ret
    exact ⟨rfl, rfl⟩
  · have d1 : decide (1 ≤ x) = false := decide_eq_false h1
    have e : decide (Ent n x) = false := decide_eq_false (fun q => h1 q.1)
    rw [e]
    clear e h1
    go_enter Try.func36, Try.ntmps36
    go_wp2_with fail
    go_ret
    exact ⟨rfl, rfl⟩
set_option maxHeartbeats 1000000 in
set_option maxRecDepth 100000 in
theorem has_nil (x : Int) (w : World) :
    Calls Try.prog 36 #[.pointer none, .int .i64 x] w fun e w' => e = .returned (.bool false) ∧ w = w' := by
  go_enter Try.func36, Try.ntmps36
  go_wp2_with fail
  go_ret
  exact ⟨rfl, rfl⟩
set_option maxHeartbeats 2000000 in
set_option maxRecDepth 100000 in
theorem how_c {w : World} {B : Nat} {n : Int} {f s : Int → Int} (h : FrB w B n f s) (x : Int) :
    Calls Try.prog 33 #[ptr B, .int .i64 x] w fun e w' => e = .returned (.agg #[.int .i64 (f x), .int .i64 (s x)]) ∧ Below w.heap.size w w' := by
  have hb := below1 w (.cells #[.int .i64 0, .int .i64 0] 55)
  have hh := has_c (h.below hb) x
  have HO := Lib.hid (Ow2.new w (.int .i64 0) (.int .i64 0) 55)
  by_cases hx : Ent n x
  · rw [decide_eq_true hx] at hh
    have hx' := hx
    unfold Ent at hx'
    have c0 := (h.below hb).par x hx
    have c1 := (h.below hb).shr x hx
    obtain ⟨y, hy⟩ : ∃ y, y = x - 1 := ⟨_, rfl⟩
    have i0 : 0 ≤ y := by omega
    have i1 : y < 40 := by have := h.top; omega
    have e1 : wrap64 (x - 1) = y := by unfold wrap64; have := h.top; omega
    rw [← hy] at c0 c1
    have HB := Lib.hid hb
    generalize f x = fx at *
    generalize s x = sx at *
    clear h hx hx' hb hy
    go_enter Try.func33, Try.ntmps33
    go_wp2_with fail
    refine hh.mono ?_; clear hh; rintro e w0 ⟨rfl, rfl⟩
    obtain ⟨⟨o0, o1, o2⟩, f1, f2⟩ := HO.out
    go_wp2_with fail
    refine bodyPost_ret (v := .agg #[.int .i64 fx, .int .i64 sx]) (by simp [results, Try.results33, go_sem, o0, o1]) rfl ⟨rfl, ?_⟩
    exact below1 _ _
  · rw [decide_eq_false hx] at hh
    rw [h.fno x hx, h.sno x hx]
    have HB := Lib.hid hb
    clear h hx hb
    go_enter Try.func33, Try.ntmps33
    go_wp2_with fail
    refine hh.mono ?_; clear hh; rintro e w0 ⟨rfl, rfl⟩
    obtain ⟨⟨o0, o1, o2⟩, f1, f2⟩ := HO.out
    go_wp2_with fail
    refine bodyPost_ret (v := .agg #[.int .i64 0, .int .i64 0]) (by simp [results, Try.results33, go_sem, o0, o1]) rfl ⟨rfl, ?_⟩
    exact HB.out
set_option maxHeartbeats 1000000 in
set_option maxRecDepth 100000 in
theorem how_nil (x : Int) (w : World) :
    Calls Try.prog 33 #[.pointer none, .int .i64 x] w fun e w' => e = .returned (.agg #[.int .i64 0, .int .i64 0]) ∧ Below w.heap.size w w' := by
  have HB := Lib.hid (below1 w (.cells #[.int .i64 0, .int .i64 0] 55))
  have hh := has_nil x (w.alloc (.cells #[.int .i64 0, .int .i64 0] 55))
  have HO := Lib.hid (Ow2.new w (.int .i64 0) (.int .i64 0) 55)
  go_enter Try.func33, Try.ntmps33
  go_wp2_with fail
  refine hh.mono ?_; clear hh; rintro e w0 ⟨rfl, rfl⟩
  obtain ⟨⟨o0, o1, o2⟩, f1, f2⟩ := HO.out
  go_wp2_with fail
  refine bodyPost_ret (v := .agg #[.int .i64 0, .int .i64 0]) (by simp [results, Try.results33, go_sem, o0, o1]) rfl ⟨rfl, ?_⟩
  exact HB.out
set_option maxHeartbeats 1000000 in
set_option maxRecDepth 100000 in
theorem parent_c {w : World} {B : Nat} {n : Int} {f s : Int → Int} (h : FrB w B n f s) (x : Int) :
    Calls Try.prog 10 #[ptr B, .int .i64 x] w fun e w' => e = .returned (.int .i64 (f x)) ∧ Below w.heap.size w w' := by
  have hh := how_c h x
  generalize f x = fx at *
  generalize s x = sx at *
  clear h
  go_enter Try.func10, Try.ntmps10
  have hfp := field_p
  have hfs := field_s
  go_wp2_with fail
  refine hh.mono ?_; clear hh; rintro e w0 ⟨rfl, hb⟩
  go_wp2_with fail
  go_ret
  exact ⟨rfl, hb⟩
set_option maxHeartbeats 1000000 in
set_option maxRecDepth 100000 in
theorem share_c {w : World} {B : Nat} {n : Int} {f s : Int → Int} (h : FrB w B n f s) (x : Int) :
    Calls Try.prog 12 #[ptr B, .int .i64 x] w fun e w' => e = .returned (.int .i64 (s x)) ∧ Below w.heap.size w w' := by
  have hh := how_c h x
  generalize f x = fx at *
  generalize s x = sx at *
  clear h
  go_enter Try.func12, Try.ntmps12
  have hfp := field_p
  have hfs := field_s
  go_wp2_with fail
  refine hh.mono ?_; clear hh; rintro e w0 ⟨rfl, hb⟩
  go_wp2_with fail
  go_ret
  exact ⟨rfl, hb⟩
set_option maxHeartbeats 1000000 in
set_option maxRecDepth 100000 in
theorem parent_nil (x : Int) (w : World) :
    Calls Try.prog 10 #[.pointer none, .int .i64 x] w fun e w' => e = .returned (.int .i64 0) ∧ Below w.heap.size w w' := by
  have hh := how_nil x w
  go_enter Try.func10, Try.ntmps10
  have hfp := field_p
  have hfs := field_s
  go_wp2_with fail
  refine hh.mono ?_; clear hh; rintro e w0 ⟨rfl, hb⟩
  go_wp2_with fail
  go_ret
  exact ⟨rfl, hb⟩
/- What the library's Index, Contains (of whatever number) and IndexFunc (over a function value that only tells) answer. The condition: a slice whose length fits. -/
/-- The first one's place. -/
def IdxV (L : List Int) (v i : Int) : Prop := (∃ k : Nat, i = (k : Int) ∧ k < L.length ∧ L.getD k 0 = v ∧ ∀ j, j < k → L.getD j 0 ≠ v) ∨ (i = -1 ∧ ∀ j, j < L.length → L.getD j 0 ≠ v)
theorem IdxV.mem {L : List Int} {v i : Int} (h : IdxV L v i) : 0 ≤ i ↔ v ∈ L := by
  rcases h with ⟨k, rfl, h1, h2, h3⟩ | ⟨rfl, h2⟩
  · rw [getD_lt _ _ h1] at h2
    exact ⟨fun _ => h2 ▸ List.getElem_mem h1, fun _ => by omega⟩
  · refine ⟨fun q => by omega, fun q => ?_⟩
    obtain ⟨j, hj, e⟩ := List.getElem_of_mem q
    exact absurd ((getD_lt _ _ hj).trans e) (h2 j hj)
set_option maxHeartbeats 1000000 in
set_option maxRecDepth 100000 in
theorem idx_any (a : Option Addr) (c : Nat) (L : List Int) (v : Int) (w : World) (hL : Reads w a L) (hn : L.length ≤ 1000000) :
    Calls Try.prog 43 #[.slice a L.length c, .int .i64 v] w fun e w' => (∃ i : Int, e = .returned (.int .i64 i) ∧ IdxV L v i) ∧ w = w' := by
  have HL := Lib.hid hL; clear hL
  go_enter Try.func43, Try.ntmps43
  go_wp2_with fail
  go_loopw [8] (fun i wr => ∃ k : Nat, k ≤ L.length ∧ i = .int .i64 (k : Int) ∧ (∀ j, j < k → L.getD j 0 ≠ v) ∧ w = wr) (fun i _ => L.length - (intOf i).toNat)
  case atStart => exact ⟨0, Nat.zero_le _, rfl, fun j hj => (by cases hj), rfl⟩
  case round =>
    obtain ⟨k, hk, rfl, hok, rfl⟩ := hrel
    have HK := Lib.hid hok; clear hok
    by_cases hlt : k < L.length
    · obtain ⟨b, off, rfl, hc⟩ := HL.out.2 k hlt
      have i0 : (0 : Int) ≤ (k : Int) := by omega
      have i1 : (k : Int) < (L.length : Int) := by omega
      have HY : Hid (L.getD k 0 = v → IdxV L v (k : Int)) := fun q => Or.inl ⟨k, rfl, hlt, q, HK.out⟩
      have HN : Hid (L.getD k 0 ≠ v → ∀ j, j < k + 1 → L.getD j 0 ≠ v) := fun q j hj => by
        rcases Nat.lt_or_ge j k with r | r
        · exact HK.out j r
        · rw [show j = k by omega]; exact q
      generalize L.getD k 0 = z at *
      by_cases hs : z = v
      · subst hs
        have HY2 := Lib.hid (HY.out rfl)
        go_wp2_with fail
        go_ret
        exact ⟨⟨(k : Int), rfl, HY2.out⟩, rfl⟩
      · have he : (v == z) = false := by simpa using fun h => hs h.symm
        have HS := Lib.hid (HN.out hs); clear hs
        go_wp2_with fail
        go_roundw
        · exact ⟨k + 1, by omega, by go_num, HS.out, by first | rfl | trivial⟩
        · simp [intOf]; omega
    · obtain rfl : k = L.length := by omega
      have hd0 : decide ((L.length : Int) < (L.length : Int)) = false := decide_eq_false (by omega)
      go_wp2_with fail
      go_ret
      exact ⟨⟨-1, rfl, Or.inr ⟨rfl, HK.out⟩⟩, rfl⟩
set_option maxHeartbeats 1000000 in
theorem cont_any (a : Option Addr) (c : Nat) (L : List Int) (v : Int) (w : World) (hL : Reads w a L) (hn : L.length ≤ 1000000) :
    Calls Try.prog 54 #[.slice a L.length c, .int .i64 v] w fun e w' => e = .returned (.bool (decide (v ∈ L))) ∧ w = w' := by
  have hi := idx_any a c L v w hL hn
  have HE : Hid (∀ i, IdxV L v i → decide (0 ≤ i) = decide (v ∈ L)) := fun i h => by rw [decide_eq_decide]; exact h.mem
  generalize decide (v ∈ L) = t at *
  clear hL
  go_enter Try.func54, Try.ntmps54
  go_wp2_with fail
  refine hi.mono ?_; clear hi; rintro e w0 ⟨⟨i, rfl, hv⟩, rfl⟩
  have e1 := HE.out i hv
  clear hv
  go_wp2_with fail
  go_ret
  exact ⟨rfl, rfl⟩
/-- The first place where it is so. -/
def IdxG (L : List Int) (g : Int → Bool) (i : Int) : Prop := (∃ k : Nat, i = (k : Int) ∧ k < L.length ∧ g (L.getD k 0) = true ∧ ∀ j, j < k → g (L.getD j 0) = false) ∨ (i = -1 ∧ ∀ j, j < L.length → g (L.getD j 0) = false)
set_option maxHeartbeats 2000000 in
set_option maxRecDepth 100000 in
theorem idxf_any (F : FuncId) (he : ∀ args w, (callFunc F args).run Try.prog w = .ok (.enter F args) w) (r : Value) (g : Int → Bool) (a : Option Addr) (c : Nat) (L : List Int) (w : World) (hL : Reads w a L) (hn : L.length ≤ 1000000)
    (hF : ∀ x wr, Below w.heap.size w wr → Calls Try.prog F #[r, .int .i64 x] wr fun e w' => e = .returned (.bool (g x)) ∧ Below wr.heap.size wr w') :
    Calls Try.prog 46 #[.slice a L.length c, .func (.func F) #[r] #[]] w fun e w' => (∃ i : Int, e = .returned (.int .i64 i) ∧ IdxG L g i) ∧ Below w.heap.size w w' := by
  have HL := Lib.hid hL; clear hL
  have HF := Lib.hid hF; clear hF
  go_enter Try.func46, Try.ntmps46
  go_wp2_with fail
  go_loopw [8] (fun i wr => ∃ k : Nat, k ≤ L.length ∧ i = .int .i64 (k : Int) ∧ (∀ j, j < k → g (L.getD j 0) = false) ∧ Below w.heap.size w wr) (fun i _ => L.length - (intOf i).toNat)
  case atStart => exact ⟨0, Nat.zero_le _, rfl, fun j hj => (by cases hj), Below.refl _ _⟩
  case round =>
    obtain ⟨k, hk, rfl, hok, hb⟩ := hrel
    have HK := Lib.hid hok; clear hok
    have HB := Lib.hid hb
    by_cases hlt : k < L.length
    · obtain ⟨b, off, rfl, hc⟩ := (HL.out.below hb).2 k hlt
      have i0 : (0 : Int) ≤ (k : Int) := by omega
      have i1 : (k : Int) < (L.length : Int) := by omega
      have HY : Hid (g (L.getD k 0) = true → IdxG L g (k : Int)) := fun q => Or.inl ⟨k, rfl, hlt, q, HK.out⟩
      have HN : Hid (g (L.getD k 0) = false → ∀ j, j < k + 1 → g (L.getD j 0) = false) := fun q j hj => by
        rcases Nat.lt_or_ge j k with r | r
        · exact HK.out j r
        · rw [show j = k by omega]; exact q
      have hcall := HF.out (L.getD k 0) wr HB.out
      generalize L.getD k 0 = z at *
      generalize g z = t at *
      clear hb
      cases t with
      | true =>
        have HY2 := Lib.hid (HY.out rfl)
        clear HY HN
        go_wp2_with fail
        refine hcall.mono ?_; clear hcall; rintro e w1 ⟨rfl, hb1⟩
        have HB1 : Hid (Below w.heap.size w w1) := HB.out.trans (hb1.mono HB.out.size)
        clear hb1
        go_wp2_with fail
        go_ret
        exact ⟨⟨(k : Int), rfl, HY2.out⟩, HB1.out⟩
      | false =>
        have HS := Lib.hid (HN.out rfl)
        clear HY HN
        go_wp2_with fail
        refine hcall.mono ?_; clear hcall; rintro e w1 ⟨rfl, hb1⟩
        have HB1 : Hid (Below w.heap.size w w1) := HB.out.trans (hb1.mono HB.out.size)
        clear hb1
        go_wp2_with fail
        go_roundw
        · exact ⟨k + 1, by omega, by go_num, HS.out, HB1.out⟩
        · simp [intOf]; omega
    · obtain rfl : k = L.length := by omega
      have hd0 : decide ((L.length : Int) < (L.length : Int)) = false := decide_eq_false (by omega)
      clear hb
      go_wp2_with fail
      go_ret
      exact ⟨⟨-1, rfl, Or.inr ⟨rfl, HK.out⟩⟩, HB.out⟩
/- What the landed line, holds, isUnder, isOver and those answer, of a forest in its block. The conditions: nobody comes back to itself; what those asks only tells. -/
set_option maxHeartbeats 2000000 in
set_option maxRecDepth 100000 in
theorem line_c {w : World} {B : Nat} {n : Int} {f s : Int → Int} (h : FrB w B n f s) (hf : FOk n f) (x : Int) :
    Calls Try.prog 39 #[ptr B, .int .i64 x] w fun e w' => ∃ v, e = .returned v ∧ Own w' w.heap.size v (up n f x) ∧ Below w.heap.size w w' := by
  have HW := Lib.hid h
  have HF := Lib.hid hf
  have HT : Hid (n ≤ 40) := h.top
  clear h hf
  go_enter Try.func39, Try.ntmps39
  go_wp2_with fail
  go_loopw [1, 5] (fun vy vl wr => ∃ (y : Int) (A : List Int), vy = .int .i64 y ∧ Own wr w.heap.size vl A ∧ A ++ up n f y = up n f x ∧ Below w.heap.size w wr) (fun vy _ _ => (up n f (RowKit.intOf vy)).length)
  case atStart => exact ⟨x, [], rfl, Own.nil _ _, rfl, Below.refl _ _⟩
  case round =>
    obtain ⟨y, A, rfl, ho, hA, hb⟩ := hrel
    have HO := Lib.hid ho
    have HB := Lib.hid hb
    have hh := has_c (HW.out.below hb) y
    by_cases hy : Ent n y
    · rw [decide_eq_true hy] at hh
      have hl : A.length ≤ 1000 := by
        have e := congrArg List.length hA
        have := ups_len HF.out x
        have := HT.out
        rw [List.length_append] at e
        omega
      have HS : Hid ((A ++ [y]) ++ up n f (f y) = up n f x) := by
        show _ = _
        rw [← hA, up_yes HF.out hy, List.append_assoc]; rfl
      have HL : Hid ((up n f y).length = (up n f (f y)).length + 1) := by show _ = _; rw [up_yes HF.out hy, List.length_cons]
      have HPA : Hid (∀ w', Below w.heap.size w w' → Calls Try.prog 10 #[ptr B, .int .i64 y] w' fun e w'' => e = .returned (.int .i64 (f y)) ∧ Below w'.heap.size w' w'') := fun w' h => parent_c (HW.out.below h) y
      generalize f y = z at *
      clear ho hb hA hy
      go_wp2_with fail
      refine hh.mono ?_; clear hh; rintro e w4 ⟨rfl, rfl⟩
      have hsz := HB.out.size
      go_wp2_with (at_builtin; refine wp_push wr rfl (.tmp 9) (.tmp 11) rfl w.heap.size _ A y rfl HO.out rfl (by omega) hsz ?_; intro v5 w5 ho5 hb5)
      have HO5 := Lib.hid ho5
      have HB5 : Hid (Below w.heap.size w w5) := HB.out.trans hb5
      have hp := HPA.out w5 HB5.out
      clear ho5 hb5 hsz
      go_wp2_with fail
      refine hp.mono ?_; clear hp; rintro e w6 ⟨rfl, hb6⟩
      have HO6 := Lib.hid (HO5.out.below hb6)
      have HB6 : Hid (Below w.heap.size w w6) := HB5.out.trans (hb6.mono HB5.out.size)
      clear hb6
      go_wp2_with fail
      go_roundw
      · exact ⟨z, A ++ [y], rfl, HO6.out, HS.out, HB6.out⟩
      · have := HL.out; simp [RowKit.intOf]; omega
    · rw [decide_eq_false hy] at hh
      rw [up_no hy, List.append_nil] at hA
      rw [hA] at ho
      have HO2 := Lib.hid ho
      clear ho hb hA hy
      go_wp2_with fail
      refine hh.mono ?_; clear hh; rintro e w4 ⟨rfl, rfl⟩
      go_wp2_with fail
      go_ret
      exact ⟨_, rfl, HO2.out, HB.out⟩
set_option maxHeartbeats 2000000 in
set_option maxRecDepth 100000 in
theorem under_c {w : World} {B : Nat} {n : Int} {f s : Int → Int} (h : FrB w B n f s) (hf : FOk n f) (b x : Int) :
    Calls Try.prog 47 #[.agg #[ptr B, .int .i64 b], .int .i64 x] w fun e w' => e = .returned (.bool (decide (x ∈ up n f b))) ∧ Below w.heap.size w w' := by
  have hb := below1 w (.cells #[ptr B, .int .i64 b] 67)
  have HB := Lib.hid hb
  obtain ⟨⟨c0, c1, -⟩, -⟩ := Ow2.new w (ptr B) (.int .i64 b) 67
  have hl := line_c (h.below hb) hf b
  have HI : Hid (∀ z ∈ up n f b, InR z) := up_inR hf (by have := h.top; omega) b
  have HL : Hid ((up n f b).length ≤ 1000000) := by have := ups_len hf b; have := h.top; show _ ≤ _; omega
  clear h hf hb
  generalize up n f b = L at *
  go_enter Try.func47, Try.ntmps47
  go_wp2_with fail
  refine hl.mono ?_; clear hl; rintro e w1 ⟨v, rfl, ho, hb1⟩
  have HB1 : Hid (Below w.heap.size w w1) := HB.out.trans (hb1.mono HB.out.size)
  obtain ⟨ra, rc, rfl, -, hR⟩ := ho.reads HI.out
  have hc := cont_any ra rc L x w1 hR HL.out
  clear hb1 ho hR c0 c1
  go_wp2_with fail
  refine hc.mono ?_; clear hc; rintro e w2 ⟨rfl, rfl⟩
  go_wp2_with fail
  go_ret
  exact ⟨rfl, HB1.out⟩
set_option maxHeartbeats 2000000 in
set_option maxRecDepth 100000 in
theorem over_c {w : World} {B : Nat} {n : Int} {f s : Int → Int} (h : FrB w B n f s) (hf : FOk n f) (b x : Int) :
    Calls Try.prog 41 #[.agg #[ptr B, .int .i64 b], .int .i64 x] w fun e w' => e = .returned (.bool (decide (b ∈ up n f x))) ∧ Below w.heap.size w w' := by
  have hb := below1 w (.cells #[ptr B, .int .i64 b] 67)
  have HB := Lib.hid hb
  obtain ⟨⟨c0, c1, -⟩, -⟩ := Ow2.new w (ptr B) (.int .i64 b) 67
  have hl := under_c (h.below hb) hf x b
  generalize decide (b ∈ up n f x) = t at *
  clear h hf hb
  go_enter Try.func41, Try.ntmps41
  go_wp2_with fail
  refine hl.mono ?_; clear hl; rintro e w1 ⟨rfl, hb1⟩
  have HB1 : Hid (Below w.heap.size w w1) := HB.out.trans (hb1.mono HB.out.size)
  clear hb1 c0 c1
  go_wp2_with fail
  go_ret
  exact ⟨rfl, HB1.out⟩
set_option maxHeartbeats 2000000 in
set_option maxRecDepth 100000 in
theorem holds_c {w : World} {B : Nat} {n : Int} {f s : Int → Int} (h : FrB w B n f s) (b x : Int) :
    Calls Try.prog 38 #[.agg #[ptr B, .int .i64 b], .int .i64 x] w fun e w' => e = .returned (.bool (f x == b)) ∧ Below w.heap.size w w' := by
  have hb := below1 w (.cells #[ptr B, .int .i64 b] 67)
  have HB := Lib.hid hb
  obtain ⟨⟨c0, c1, hlt⟩, -⟩ := Ow2.new w (ptr B) (.int .i64 b) 67
  have hw := h.below hb
  generalize hW : w.alloc (.cells #[ptr B, .int .i64 b] 67) = W at *
  have HP : Hid (∀ wz, Below W.heap.size W wz → Calls Try.prog 10 #[ptr B, .int .i64 x] wz fun e w'' => e = .returned (.int .i64 (f x)) ∧ Below wz.heap.size wz w'') := fun wz q => parent_c (hw.below q) x
  have HC : Hid (∀ wz, Below W.heap.size W wz → wz.cell? ⟨w.heap.size, 0, none⟩ = some (ptr B) ∧ wz.cell? ⟨w.heap.size, 1, none⟩ = some (.int .i64 b)) := fun wz q => ⟨(q.cell (p := ⟨w.heap.size, 0, none⟩) hlt).trans c0, (q.cell (p := ⟨w.heap.size, 1, none⟩) hlt).trans c1⟩
  have HD : Hid (∀ wz, Below W.heap.size W wz → Below w.heap.size w wz) := fun wz q => HB.out.trans (q.mono HB.out.size)
  have K := Lib.hid (Below.refl W.heap.size W)
  generalize f x = z at *
  clear h hb hw HB c0 c1 hlt
  have HW := Lib.hid hW
  clear hW
  go_enter Try.func38, Try.ntmps38
  go_upto_region 1 with fail
  rw [HW.out]
  clear HW
  generalize hb0 : w.heap.size = b0 at *
  have HB0 := Lib.hid hb0
  clear hb0
  obtain ⟨c0, c1⟩ := HC.out _ K.out
  go_region_held3 (fun wz => wz.cell? ⟨b0, 0, none⟩ = some (ptr B) ∧ wz.cell? ⟨b0, 1, none⟩ = some (.int .i64 b))
    (first | exact HC.out _ K.out | exact HC.out _ K.out.drew)
    (first
      | (go_at_call 10; (with_reducible first | refine (HP.out _ K.out).mono ?_ | refine (HP.out _ K.out.drew).mono ?_); rintro e wn ⟨rfl, hbn⟩; (first | replace K := Lib.hid (K.out.trans (hbn.mono K.out.size)) | replace K := Lib.hid (K.out.drew.trans (hbn.mono K.out.drew.size))); clear hbn))
  all_goals go_wp2_with fail
  all_goals go_ret
  all_goals exact ⟨by first | rfl | trivial, by rw [HB0.out]; exact HD.out _ (by first | exact K.out | exact K.out.drew)⟩
set_option maxHeartbeats 2000000 in
set_option maxRecDepth 100000 in
theorem those_c (F : FuncId) (he : ∀ args w, (callFunc F args).run Try.prog w = .ok (.enter F args) w) (r : Value) (g : Int → Bool) {w : World} {B : Nat} {n : Int} {f s : Int → Int} (h : FrB w B n f s)
    (hF : ∀ x wr, Below w.heap.size w wr → Calls Try.prog F #[r, .int .i64 x] wr fun e w' => e = .returned (.bool (g x)) ∧ Below wr.heap.size wr w') :
    Calls Try.prog 37 #[ptr B, .func (.func F) #[r] #[]] w fun e w' => ∃ v, e = .returned v ∧ Own w' w.heap.size v (flt n.toNat g) ∧ Below w.heap.size w w' := by
  have HW := Lib.hid h
  have HT : Hid (0 ≤ n ∧ n ≤ 40) := ⟨h.low, h.top⟩
  have HF := Lib.hid hF
  clear h hF
  go_enter Try.func37, Try.ntmps37
  go_wp2_with fail
  go_loopw [5, 6] (fun vl vi wr => ∃ k : Nat, k ≤ n.toNat ∧ vi = .int .i64 ((k : Int) + 1) ∧ Own wr w.heap.size vl (flt k g) ∧ Below w.heap.size w wr) (fun _ vi _ => (n + 1 - RowKit.intOf vi).toNat)
  case atStart => exact ⟨0, Nat.zero_le _, rfl, Own.nil _ _, Below.refl _ _⟩
  case round =>
    obtain ⟨k, hk, rfl, ho, hb⟩ := hrel
    have HO := Lib.hid ho
    have HB := Lib.hid hb
    have hh := has_c (HW.out.below hb) ((k : Int) + 1)
    by_cases hlt : k < n.toNat
    · have hy : Ent n ((k : Int) + 1) := by unfold Ent; omega
      rw [decide_eq_true hy] at hh
      have hk40 : k < 40 := by have := HT.out; omega
      have e1 : wrap64 ((k : Int) + 1 + 1) = (k : Int) + 1 + 1 := by unfold wrap64; omega
      have hcall := HF.out ((k : Int) + 1) wr HB.out
      have HY : Hid (g ((k : Int) + 1) = true → flt (k + 1) g = flt k g ++ [(k : Int) + 1]) := flt_yes
      have HN : Hid (g ((k : Int) + 1) = false → flt (k + 1) g = flt k g) := flt_no
      have hl : (flt k g).length ≤ 1000 := by have := flt_len k g; omega
      have HR : Hid (∀ vl w', Own w' w.heap.size vl (flt (k + 1) g) → Below w.heap.size w w' → ∃ k' : Nat, k' ≤ n.toNat ∧ Value.int .i64 ((k : Int) + 1 + 1) = .int .i64 ((k' : Int) + 1) ∧ Own w' w.heap.size vl (flt k' g) ∧ Below w.heap.size w w') := fun vl w' h1 h2 => ⟨k + 1, by omega, rfl, h1, h2⟩
      have HM : Hid ((n + 1 - ((k : Int) + 1 + 1)).toNat < (n + 1 - ((k : Int) + 1)).toNat) := by have := HT.out; show _ < _; omega
      generalize flt k g = L at *
      generalize flt (k + 1) g = M at *
      generalize g ((k : Int) + 1) = t at *
      generalize (k : Int) + 1 = j at *
      clear ho hb hy hk hlt
      cases t with
      | true =>
        have HM2 := Lib.hid (HY.out rfl)
        clear HY HN
        go_wp2_with fail
        refine hh.mono ?_; clear hh; rintro e w4 ⟨rfl, rfl⟩
        go_wp2_with fail
        refine hcall.mono ?_; clear hcall; rintro e w1 ⟨rfl, hb1⟩
        have HO1 := Lib.hid (HO.out.below hb1)
        have HB1 : Hid (Below w.heap.size w w1) := HB.out.trans (hb1.mono HB.out.size)
        have hsz := HB1.out.size
        clear hb1
        go_wp2_with (at_builtin; refine wp_push w1 rfl (.tmp 15) (.tmp 17) rfl w.heap.size _ L j rfl HO1.out rfl (by omega) hsz ?_; intro v5 w5 ho5 hb5)
        have HO5 : Hid (Own w5 w.heap.size v5 M) := by rw [HM2.out]; exact ho5
        have HB5 : Hid (Below w.heap.size w w5) := HB1.out.trans hb5
        clear ho5 hb5 hsz
        go_wp2_with fail
        go_roundw
        · rw [e1]; exact HR.out _ _ HO5.out HB5.out
        · rw [e1]; exact HM.out
      | false =>
        have HM2 := Lib.hid (HN.out rfl)
        clear HY HN
        go_wp2_with fail
        refine hh.mono ?_; clear hh; rintro e w4 ⟨rfl, rfl⟩
        go_wp2_with fail
        refine hcall.mono ?_; clear hcall; rintro e w1 ⟨rfl, hb1⟩
        have h2 := HO.out.below hb1
        rw [← HM2.out] at h2
        have HO1 := Lib.hid h2
        clear h2
        have HB1 : Hid (Below w.heap.size w w1) := HB.out.trans (hb1.mono HB.out.size)
        clear hb1
        go_wp2_with fail
        go_roundw
        · (first | exact HR.out _ _ HO1.out HB1.out | (rw [e1]; exact HR.out _ _ HO1.out HB1.out))
        · (first | exact HM.out | (rw [e1]; exact HM.out))
    · obtain rfl : k = n.toNat := by omega
      have hy : ¬ Ent n (((n.toNat : Nat) : Int) + 1) := by have := HT.out; unfold Ent; omega
      rw [decide_eq_false hy] at hh
      generalize ((n.toNat : Nat) : Int) + 1 = j at *
      clear ho hb hy hk hlt
      go_wp2_with fail
      refine hh.mono ?_; clear hh; rintro e w4 ⟨rfl, rfl⟩
      go_wp2_with fail
      go_ret
      exact ⟨_, rfl, HO.out, HB.out⟩
end Go.Proofs.Ytebjmnppeohdiaa
