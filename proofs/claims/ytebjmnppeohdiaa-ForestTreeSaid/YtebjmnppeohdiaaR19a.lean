/-
  The document's Is, Parent, Share, Up and Above of layer 19. The conditions: a row of at most 1000000; nobody comes back to itself.
-/
import Derived.Test.YtebjmnppeohdiaaFrsM
import Derived.Test.YtebjmnppeohdiaaStkB
import Derived.Test.YtebjmnppeohdiaaStkD
namespace Go.Proofs.Ytebjmnppeohdiaa
open Go.RowKit
set_option linter.unusedSimpArgs false
set_option linter.unusedVariables false

/-- The document's forest, as a value. -/
abbrev fV (a : Option Addr) (c : Nat) (L : List K4) (n p : Int) : Value := .agg #[.slice a L.length c, .int .i64 n, .int .i64 p]
abbrev fC (a : Option Addr) (c : Nat) (L : List K4) (n p : Int) : Obj := .cells #[.slice a L.length c, .int .i64 n, .int .i64 p] 29
/-- It lies in a block. -/
def Lies (w : World) (B : Nat) (a : Option Addr) (c : Nat) (L : List K4) (n p : Int) : Prop := w.cell? ⟨B, 0, none⟩ = some (.slice a L.length c) ∧ w.cell? ⟨B, 1, none⟩ = some (.int .i64 n) ∧ w.cell? ⟨B, 2, none⟩ = some (.int .i64 p)
theorem Lies.new (w : World) (a : Option Addr) (c : Nat) (L : List K4) (n p : Int) : Lies (w.alloc (fC a c L n p)) w.heap.size a c L n p := by refine ⟨?_, ?_, ?_⟩ <;> simp
theorem Lies.below {w w' : World} {B : Nat} {a : Option Addr} {c : Nat} {L : List K4} {n p : Int} (h : Lies w B a c L n p) (hb : Below w.heap.size w w') : Lies w' B a c L n p := by
  have hl : B < w.heap.size := World.block_lt_of_cell? w _ h.1
  exact ⟨(hb.cell (p := ⟨B, 0, none⟩) hl).trans h.1, (hb.cell (p := ⟨B, 1, none⟩) hl).trans h.2.1, (hb.cell (p := ⟨B, 2, none⟩) hl).trans h.2.2⟩

set_option maxHeartbeats 1000000 in
set_option maxRecDepth 100000 in
theorem r19is (a : Option Addr) (c : Nat) (L : List K4) (n p x : Int) (w : World) :
    Calls Try.prog 34 #[fV a c L n p, .int .i64 x] w fun e w' => e = .returned (.bool (decide (Ent n x))) ∧ Below w.heap.size w w' := by
  obtain ⟨c0, c1, c2⟩ := Lies.new w a c L n p
  have HB := Lib.hid (below1 w (fC a c L n p))
  generalize L.length = l at *
  by_cases h1 : 1 ≤ x
  · have d1 : decide (1 ≤ x) = true := decide_eq_true h1
    have e : decide (Ent n x) = decide (x ≤ n) := by unfold Ent; simp [h1]
    rw [e]
    clear e h1
    go_enter Try.func34, Try.ntmps34
    go_wp2_with fail
    go_ret
    exact ⟨rfl, HB.out⟩
  · have d1 : decide (1 ≤ x) = false := decide_eq_false h1
    have e : decide (Ent n x) = false := decide_eq_false (fun q => h1 q.1)
    rw [e]
    clear e h1
    go_enter Try.func34, Try.ntmps34
    go_wp2_with fail
    go_ret
    exact ⟨rfl, HB.out⟩
set_option maxHeartbeats 2000000 in
set_option maxRecDepth 100000 in
theorem r19parent (a : Option Addr) (c : Nat) (L : List K4) (n p x : Int) (w : World) (hL : RdQ w a L) (hl : L.length ≤ 1000000) :
    Calls Try.prog 11 #[fV a c L n p, .int .i64 x] w fun e w' => e = .returned (.int .i64 (pr L n p x)) ∧ Below w.heap.size w w' := by
  have hb := below1 w (fC a c L n p)
  have HY := Lib.hid (Lies.new w a c L n p)
  obtain ⟨c0, c1, c2⟩ := HY.out
  have hi := r19is a c L n p x (w.alloc (fC a c L n p))
  have HAT : Hid (∀ wz, Below w.heap.size w wz → Calls Try.prog 35 #[.slice a L.length c, .int .i64 x, .int .i64 p] wz fun e w' => e = .returned (.tuple #[.int .i64 (upv L x p), .int .i64 (shv L x p)]) ∧ Below wz.heap.size wz w') := fun wz q => r18at a c L x p wz (hL.below q) hl
  have HB := Lib.hid hb
  by_cases hx : Ent n x
  · rw [decide_eq_true hx] at hi
    rw [pr_yes hx]
    generalize upv L x p = u at *
    generalize shv L x p = v at *
    clear hb hx hL
    go_enter Try.func11, Try.ntmps11
    go_wp2_with fail
    refine hi.mono ?_; clear hi; rintro e w1 ⟨rfl, hb1⟩
    have HB1 : Hid (Below w.heap.size w w1) := HB.out.trans (hb1.mono HB.out.size)
    obtain ⟨c0, c1, c2⟩ := HY.out.below hb1
    have hat := HAT.out w1 HB1.out
    clear hb1
    go_wp2_with fail
    refine hat.mono ?_; clear hat; rintro e w2 ⟨rfl, hb2⟩
    have HB2 : Hid (Below w.heap.size w w2) := HB1.out.trans (hb2.mono HB1.out.size)
    clear hb2
    go_wp2_with fail
    go_ret
    exact ⟨rfl, HB2.out⟩
  · rw [decide_eq_false hx] at hi
    rw [pr_no hx]
    clear hb hx hL HAT
    go_enter Try.func11, Try.ntmps11
    go_wp2_with fail
    refine hi.mono ?_; clear hi; rintro e w1 ⟨rfl, hb1⟩
    have HB1 : Hid (Below w.heap.size w w1) := HB.out.trans (hb1.mono HB.out.size)
    clear hb1
    go_wp2_with fail
    go_ret
    exact ⟨rfl, HB1.out⟩
set_option maxHeartbeats 2000000 in
set_option maxRecDepth 100000 in
theorem r19share (a : Option Addr) (c : Nat) (L : List K4) (n p x : Int) (w : World) (hL : RdQ w a L) (hl : L.length ≤ 1000000) :
    Calls Try.prog 13 #[fV a c L n p, .int .i64 x] w fun e w' => e = .returned (.int .i64 (sr L n p x)) ∧ Below w.heap.size w w' := by
  have hb := below1 w (fC a c L n p)
  have HY := Lib.hid (Lies.new w a c L n p)
  obtain ⟨c0, c1, c2⟩ := HY.out
  have hi := r19is a c L n p x (w.alloc (fC a c L n p))
  have HAT : Hid (∀ wz, Below w.heap.size w wz → Calls Try.prog 35 #[.slice a L.length c, .int .i64 x, .int .i64 p] wz fun e w' => e = .returned (.tuple #[.int .i64 (upv L x p), .int .i64 (shv L x p)]) ∧ Below wz.heap.size wz w') := fun wz q => r18at a c L x p wz (hL.below q) hl
  have HB := Lib.hid hb
  by_cases hx : Ent n x
  · rw [decide_eq_true hx] at hi
    rw [sr_yes hx]
    generalize upv L x p = u at *
    generalize shv L x p = v at *
    clear hb hx hL
    go_enter Try.func13, Try.ntmps13
    go_wp2_with fail
    refine hi.mono ?_; clear hi; rintro e w1 ⟨rfl, hb1⟩
    have HB1 : Hid (Below w.heap.size w w1) := HB.out.trans (hb1.mono HB.out.size)
    obtain ⟨c0, c1, c2⟩ := HY.out.below hb1
    have hat := HAT.out w1 HB1.out
    clear hb1
    go_wp2_with fail
    refine hat.mono ?_; clear hat; rintro e w2 ⟨rfl, hb2⟩
    have HB2 : Hid (Below w.heap.size w w2) := HB1.out.trans (hb2.mono HB1.out.size)
    clear hb2
    go_wp2_with fail
    go_ret
    exact ⟨rfl, HB2.out⟩
  · rw [decide_eq_false hx] at hi
    rw [sr_no hx]
    clear hb hx hL HAT
    go_enter Try.func13, Try.ntmps13
    go_wp2_with fail
    refine hi.mono ?_; clear hi; rintro e w1 ⟨rfl, hb1⟩
    have HB1 : Hid (Below w.heap.size w w1) := HB.out.trans (hb1.mono HB.out.size)
    clear hb1
    go_wp2_with fail
    go_ret
    exact ⟨rfl, HB1.out⟩
set_option maxHeartbeats 4000000 in
set_option maxRecDepth 100000 in
theorem r18up (a : Option Addr) (c : Nat) (L : List K4) (n p x : Int) (w : World) (hL : RdQ w a L) (hl : L.length ≤ 1000000) (hx : Ent n x) (hn : n ≤ 40) (hf : FOk n (pr L n p)) :
    Calls Try.prog 40 #[.slice a L.length c, .int .i64 x, .int .i64 p] w fun e w' => ∃ v, e = .returned v ∧ Own w' w.heap.size v (up n (pr L n p) (pr L n p x)) ∧ Below w.heap.size w w' := by
  have HL := Lib.hid hL; clear hL
  have HF := Lib.hid hf; clear hf
  have hA := r18at a c L x p w HL.out hl
  rw [← pr_yes (L := L) (p := p) hx] at hA
  have HZ : Hid (pr L n p x = 0 ∨ Ent n (pr L n p x)) := by
    by_cases q : pr L n p x = 0
    · exact Or.inl q
    · exact Or.inr (f_ent HF.out x q)
  have HU : Hid ((up n (pr L n p) (pr L n p x)).length ≤ 40 ∧ ∀ z ∈ up n (pr L n p) (pr L n p x), InR z) := ⟨by have := ups_len HF.out (pr L n p x); omega, up_inR HF.out (by omega) _⟩
  have HND : Hid ((up n (pr L n p) (pr L n p x)).Nodup) := up_nodup HF.out _
  have HAT : Hid (∀ wz y, Below w.heap.size w wz → Ent n y → Calls Try.prog 35 #[.slice a L.length c, .int .i64 y, .int .i64 p] wz fun e w' => e = .returned (.tuple #[.int .i64 (pr L n p y), .int .i64 (shv L y p)]) ∧ Below wz.heap.size wz w') := fun wz y q hy => by rw [pr_yes hy]; exact r18at a c L y p wz (HL.out.below q) hl
  have HE : Hid (up n (pr L n p) (pr L n p x) = up n (pr L n p) (pr L n p x)) := rfl
  generalize hz0 : pr L n p x = z0 at *
  have HZ0 := Lib.hid hz0
  clear hz0 HE
  generalize shv L x p = sh at *
  go_enter Try.func40, Try.ntmps40
  go_wp2_with fail
  refine hA.mono ?_; clear hA; rintro e w1 ⟨rfl, hb1⟩
  have HB1 := Lib.hid hb1; clear hb1 hx
  go_wp2_with fail
  go_loopw [7, 8] (fun vo va wr => ∃ (y : Int) (A : List Int), va = .int .i64 y ∧ (y = 0 ∨ Ent n y) ∧ Own wr w.heap.size vo A ∧ A ++ up n (pr L n p) y = up n (pr L n p) z0 ∧ Below w.heap.size w wr) (fun _ va _ => (up n (pr L n p) (RowKit.intOf va)).length)
  case atStart => exact ⟨z0, [], rfl, HZ.out, Own.nil _ _, rfl, HB1.out⟩
  case round =>
    clear HB1 HZ
    obtain ⟨y, A, rfl, hy, ho, hA, hb⟩ := hrel
    have HB := Lib.hid hb
    by_cases h0 : y = 0
    · subst h0
      rw [up_no (not_ent0 n), List.append_nil] at hA
      rw [hA, ← HZ0.out] at ho
      have HO := Lib.hid ho
      clear hA hy hb ho
      go_wp2_with fail
      go_ret
      exact ⟨_, rfl, by first | exact HO.out | (rw [HZ0.out] at HO; exact HO.out), HB.out⟩
    · have hye : Ent n y := hy.resolve_left h0
      have e0 : (y != 0) = true := by simpa using h0
      have hAl : A.length ≤ 40 := by
        have e := congrArg List.length hA
        rw [List.length_append] at e
        have := HU.out.1
        omega
      have HAI : Hid (∀ z ∈ A, InR z) := fun z hz => HU.out.2 z (by rw [← hA]; exact List.mem_append_left _ hz)
      have hny : ¬ y ∈ A := fun q => by
        have := HND.out
        rw [← hA, up_yes HF.out hye] at this
        exact (List.nodup_append.1 this).2.2 y q y (by simp) rfl
      have HO := Lib.hid ho
      obtain ⟨ra, rc, rfl, -, hR⟩ := ho.reads HAI.out
      have hh := has_any ra rc A y wr hR (by omega)
      rw [decide_eq_false hny] at hh
      have HS : Hid ((A ++ [y]) ++ up n (pr L n p) (pr L n p y) = up n (pr L n p) z0) := by
        show _ = _
        rw [← hA, up_yes HF.out hye, List.append_assoc]; rfl
      have HL2 : Hid ((up n (pr L n p) y).length = (up n (pr L n p) (pr L n p y)).length + 1) := by show _ = _; rw [up_yes HF.out hye, List.length_cons]
      have HAY := Lib.hid (fun wz (q : Below w.heap.size w wz) => HAT.out wz y q hye)
      have HZY : Hid (pr L n p y = 0 ∨ Ent n (pr L n p y)) := by
        by_cases q : pr L n p y = 0
        · exact Or.inl q
        · exact Or.inr (f_ent HF.out y q)
      generalize pr L n p y = z at *
      generalize shv L y p = s2 at *
      clear hA hy hb ho hR hny h0 hye
      go_wp2_with fail
      refine hh.mono ?_; clear hh; rintro e w4 ⟨rfl, rfl⟩
      have hsz := HB.out.size
      go_wp2_with (at_builtin; refine wp_push wr rfl (.tmp 25) (.tmp 27) rfl w.heap.size _ A y rfl HO.out rfl (by omega) hsz ?_; intro v5 w5 ho5 hb5)
      have HO5 := Lib.hid ho5
      have HB5 : Hid (Below w.heap.size w w5) := HB.out.trans hb5
      have hat := HAY.out w5 HB5.out
      clear ho5 hb5 hsz
      go_wp2_with fail
      refine hat.mono ?_; clear hat; rintro e w6 ⟨rfl, hb6⟩
      have HO6 := Lib.hid (HO5.out.below hb6)
      have HB6 : Hid (Below w.heap.size w w6) := HB5.out.trans (hb6.mono HB5.out.size)
      clear hb6
      go_wp2_with fail
      go_roundw
      · exact ⟨z, A ++ [y], rfl, HZY.out, HO6.out, HS.out, HB6.out⟩
      · have := HL2.out; simp [RowKit.intOf]; omega
end Go.Proofs.Ytebjmnppeohdiaa
