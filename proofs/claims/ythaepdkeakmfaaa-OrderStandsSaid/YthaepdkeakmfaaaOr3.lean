/-
  The landed pop of a walk, and all: the nodes one by one, till none is ready. The conditions: the walk's blocks; none is in hand. The landed row: all that are ready, rising. The conditions: the walk's blocks; none is in hand. The landed rows: at each time all that are ready, till none is. The conditions: the walk's blocks; none is in hand. The landed isStuck and circle. The conditions: the walk's blocks; for circle: none is in hand or ready, and some are left.
-/
import Derived.Test.YthaepdkeakmfaaaOr2
namespace Go.Proofs.Ythaepdkeakmfaaa
open Go.RowKit
set_option linter.unusedSimpArgs false
set_option linter.unusedVariables false

/- The landed pop of a walk, and all: the nodes one by one, till none is ready. The conditions: the walk's blocks; none is in hand. -/
section
variable {c : Cf} {R : List (List Int)} {A : List Int} {w0 w w' wr : World} {d : Dt} {pos : Nat → Int} {out : List Int}
theorem St.pop {F' : Nat → Prop} {x : Int} (h : St w0 w c R A pos out d) (hx : x ∈ d.P) (q : RepI w' c.PB (d.P.erase x) F') (t : Turn d.F w w') (hF : ∀ j, F' j → d.F j) :
    ∃ d', d'.P = d.P.erase x ∧ St w0 w' c R A (upd1 pos x.toNat (-3)) out d' ∧ Step c R A w w' d d' := by
  have hp := ((h.hi.pp x).1 hx).2
  obtain ⟨o1, o2⟩ := h.ob.pile q t (fun j r => Or.inl (hF j r))
  refine ⟨⟨d.P.erase x, d.W, d.D, d.WV, d.RV, F'⟩, rfl, ⟨h.hi.pop hx, ?_⟩, ⟨t.mono fun j q => ⟨6, kf6 q⟩, o2⟩⟩
  rw [lvP_upd (by omega) (by omega)]; exact o1
/-- What pop leaves where none was in hand. -/
def PopQ (w0 w w' : World) (c : Cf) (R : List (List Int)) (A : List Int) (out : List Int) (d : Dt) (x : Int) (ok : Bool) : Prop :=
  ∃ pos' d', St w0 w' c R A pos' out d' ∧ Step c R A w w' d d' ∧ ((ok = true ∧ ∃ n : Nat, x = (n : Int) ∧ n < R.length ∧ nxt R A out = some x ∧ ∀ u, u < R.length → (pos' u = -3 ↔ u = n)) ∨ (ok = false ∧ (∀ u, u < R.length → pos' u ≠ -3) ∧ nxt R A out = none ∧ d'.P = []))
theorem pop_h (hI : GrI R) (hA : Rises A) (h : St w0 w c R A pos out d) (hn : ∀ u, u < R.length → pos u ≠ -3) :
    Calls Try.prog 41 #[.pointer (some ⟨c.PB, 0, none⟩)] w fun e w' => ∃ (x : Int) (ok : Bool), e = .returned (.tuple #[.int .i64 x, .bool ok]) ∧ PopQ w0 w w' c R A out d x ok := by
  have hr := h.hi.ready hI hn
  by_cases h0 : d.P = []
  · have hp := h.ob.pl
    rw [h0] at hp
    refine (pop_no hp).mono ?_
    rintro e w' ⟨rfl, rfl⟩
    refine ⟨0, false, rfl, pos, d, h, Step.refl _ _, Or.inr ⟨rfl, hn, nxt_no fun y hy => ?_, h0⟩⟩
    cases hc : cand R A out y with
    | false => rfl
    | true => have := (hr y).2 ⟨hy, hc⟩; rw [h0] at this; cases this
  · refine (pop_i h.ob.pl h0 (Nat.le_trans h.hi.plen hI.hi)).mono ?_
    rintro e w' ⟨x, rfl, hx, hmin, F', q, t, hF⟩
    obtain ⟨d', _, h1, h2⟩ := h.pop hx q t hF
    obtain ⟨hg, hp⟩ := (h.hi.pp x).1 hx
    obtain ⟨n, rfl⟩ : ∃ n : Nat, x = (n : Int) := ⟨x.toNat, by unfold gnd at hg; omega⟩
    obtain ⟨r1, r2⟩ := (hr _).1 hx
    refine ⟨(n : Int), true, rfl, _, d', h1, h2, Or.inl ⟨rfl, n, rfl, by unfold gnd at hg; omega, nxt_is hA r1 r2 (fun y hy hc => hmin y ((hr y).2 ⟨hy, hc⟩)), fun u hu => ?_⟩⟩
    rw [Int.toNat_natCast]
    unfold upd1
    by_cases e : u = n
    · subst e; simp
    · rw [if_neg e]
      exact ⟨fun q => absurd q (hn u hu), fun q => absurd q e⟩
/-- The walk, and a row of the call's own beside it. -/
structure AllI (w0 w wr : World) (c : Cf) (R : List (List Int)) (A : List Int) (d : Dt) (l : List Int) (lv : Value) (x : Int) (ok : Bool) : Prop where
  out : ∃ pos' d', St w0 wr c R A pos' l d' ∧ Step c R A w wr d d' ∧ OwnO (SA c R A d') wr w.heap.size 3 1 lv l.length (l.map (Value.int .i64)) ∧ OrdP R A l ∧
    ((ok = true ∧ ∃ n : Nat, x = (n : Int) ∧ n < R.length ∧ nxt R A l = some x ∧ ∀ u, u < R.length → (pos' u = -3 ↔ u = n)) ∨ (ok = false ∧ (∀ u, u < R.length → pos' u ≠ -3) ∧ nxt R A l = none ∧ d'.P = []))
theorem AllI.begin {x : Int} {ok : Bool} (h : PopQ w0 w w' c R A [] d x ok) : AllI w0 w w' c R A d [] (.slice none 0 0) x ok := by
  obtain ⟨p, d', h1, h2, h3⟩ := h
  exact ⟨p, d', h1, h2, OwnO.nil _ _ _ _ _, OrdP.nil, h3⟩
/-- What all leaves. -/
def AllQ (w0 w w' : World) (c : Cf) (R : List (List Int)) (A : List Int) (d : Dt) (l : List Int) (u : Value) : Prop :=
  ∃ pos' d', St w0 w' c R A pos' l d' ∧ Step c R A w w' d d' ∧ OwnO (SA c R A d') w' w.heap.size 3 1 u l.length (l.map (Value.int .i64)) ∧ IsOrd R A l ∧ (∀ u, u < R.length → pos' u ≠ -3) ∧ d'.P = []
theorem AllI.leave {l : List Int} {lv : Value} {x : Int} (h : AllI w0 w wr c R A d l lv x false) : AllQ w0 w wr c R A d l lv := by
  obtain ⟨p, d', h1, h2, h3, h4, h5⟩ := h.out
  rcases h5 with ⟨q, _⟩ | ⟨_, q1, q2, q3⟩
  · cases q
  · exact ⟨p, d', h1, h2, h3, ⟨h4, q2⟩, q1, q3⟩
theorem ord_len (hI : GrI R) {l : List Int} (h : St w0 w c R A pos out d) (ho : OrdP R A l) : l.length ≤ R.length := nodup_len ho.nodup fun x hx => h.hi.an x (ho.sub x hx)
set_option maxHeartbeats 4000000 in
set_option maxRecDepth 100000 in
theorem all_h (hI : GrI R) (hA : Rises A) (h : St w0 w c R A pos [] d) (hn : ∀ u, u < R.length → pos u ≠ -3) :
    Calls Try.prog 23 #[.pointer (some ⟨c.B, 0, none⟩)] w fun e w' => ∃ u l, e = .returned u ∧ AllQ w0 w w' c R A d l u := by
  have hpo := pop_h hI hA h hn
  have c0 := h.ob.h4
  have hIh := hI.hi
  have hsz := h.ob.wb.size
  clear h hn
  go_enter Try.func23, Try.ntmps23
  go_wp2_with fail
  refine hpo.mono ?_; clear hpo; rintro e w1 ⟨x, ok, rfl, hq⟩
  have H0 := Lib.hid (AllI.begin hq)
  clear hq
  go_wp2_with fail
  clear c0
  go_loopg [3, 4, 5] R.length (fun k lv xv ov wr => ∃ (l : List Int) (x : Int) (ok : Bool), xv = .int .i64 x ∧ ov = .bool ok ∧ R.length - l.length ≤ k ∧ AllI w0 w wr c R A d l lv x ok)
  case atStart => exact ⟨[], x, ok, rfl, rfl, Nat.sub_le _ _, H0.out⟩
  case round =>
    clear H0
    obtain ⟨l, y, ok, rfl, rfl, hk, hAI⟩ := hrel
    cases ok with
    | false =>
      have HL := Lib.hid hAI.leave
      clear hAI
      go_wp2_with fail
      go_ret
      exact ⟨_, l, rfl, HL.out⟩
    | true =>
      obtain ⟨pos1, d1, hS, hT, ho, hO, h5⟩ := hAI.out
      rcases h5 with ⟨_, n, rfl, hnl, hnx, hlim⟩ | ⟨q, _⟩
      case inr => cases q
      obtain ⟨la, lc, rfl⟩ := (ownsRow_slc ho.1).form
      have hll := ord_len hI hS (hO.push hnx)
      rw [List.length_append, List.length_singleton] at hll
      have hbase : w.heap.size ≤ wr.heap.size := hT.t.size
      have hfoot : ∀ j, SA c R A d1 j → j < wr.heap.size := fun j q => (hS.foot j q).2
      have hnxt : ∀ (v4 : Value) (w4 : World), OwnO (SA c R A d1) w4 w.heap.size 3 1 v4 (l.length + 1) (l.map (Value.int .i64) ++ [.int .i64 (n : Int)]) → Turn (fun j => (Value.slice la l.length lc).ownBlock = some j) wr w4 →
          St w0 w4 c R A pos1 l d1 ∧ Step c R A w w4 d d1 := fun v4 w4 o4 t4 =>
        ⟨hS.other t4 (fun j q => (ho.2 j q).2) (fun j q => Nat.le_trans hsz (World.ownsRow.lt ho.1 j q).1), hT.new t4 (fun j q => (World.ownsRow.lt ho.1 j q).1)⟩
      have HO := Lib.hid ho
      have HN := Lib.hid hnxt
      have HOP := Lib.hid (And.intro hO hnx)
      have HLI := Lib.hid hlim
      clear hAI hS hT ho hO hnx hnxt hlim
      go_wp2_with
        (at_builtin
         refine wpList_push1 (w := wr) rfl (.tmp 23) (.tmp 25) 23 rfl (SA c R A d1) w.heap.size 3 1 8 (.int .i64 0) Try.underlying23 int_info rfl (by decide) [.int .i64 (n : Int)] rfl _ _ _ rfl HO.out (by simp [Act.eval]) (by intro u hu; simp at hu; subst hu; rfl) (by omega) (by decide) hbase hfoot ?_
         intro v4 w4 o4 t4 l4
         obtain ⟨hS4, hT4⟩ := HN.out v4 w4 o4 t4
         have hte := tell_h hI hS4 hnl ((HLI.out n hnl).2 rfl)
         have HT4 := Lib.hid hT4
         have HO4 := Lib.hid o4
         clear o4 t4 l4 hS4 hT4)
      refine hte.mono ?_; clear hte; rintro e w5 ⟨rfl, pos2, d2, hS5, hT5, hl5⟩
      have hn5 : ∀ u, u < R.length → pos2 u ≠ -3 := fun u hu q => by
        have := (hl5 u hu).1 q
        exact this.2 ((HLI.out u hu).1 this.1)
      have hpo := pop_h hI hA hS5 hn5
      have c0 := hS5.ob.h4
      have HT5 := Lib.hid hT5
      have HO5 := Lib.hid (hT5.own HO4.out)
      clear hS5 hT5 hl5 hn5
      go_wp2_with fail
      refine hpo.mono ?_; clear hpo; rintro e w6 ⟨y, ok, rfl, pos3, d3, hS6, hT6, hq⟩
      have HR : Hid (AllI w0 w w6 c R A d (l ++ [(n : Int)]) v4 y ok) := ⟨pos3, d3, hS6, (HT4.out.trans HT5.out).trans hT6, by
        have := hT6.own HO5.out
        rw [List.length_append, List.map_append]; exact this, HOP.out.1.push HOP.out.2, hq⟩
      clear hS6 hT6 hq c0
      go_wp2_with fail
      go_roundg (gk - 1)
      case measure => omega
      case rel => exact ⟨l ++ [(n : Int)], y, ok, rfl, rfl, by rw [List.length_append, List.length_singleton]; omega, HR.out⟩
end
/- The landed row: all that are ready, rising. The conditions: the walk's blocks; none is in hand. -/
section
variable {c : Cf} {R : List (List Int)} {A : List Int} {w0 w w' wr : World} {d : Dt} {pos : Nat → Int} {out : List Int}
/-- What a pop leaves. -/
def PopR (w0 w w' : World) (c : Cf) (R : List (List Int)) (A : List Int) (pos : Nat → Int) (out : List Int) (d : Dt) (x : Int) (ok : Bool) : Prop :=
  ∃ pos' d', St w0 w' c R A pos' out d' ∧ Step c R A w w' d d' ∧ ((ok = true ∧ x ∈ d.P ∧ (∀ y ∈ d.P, x ≤ y) ∧ d'.P = d.P.erase x ∧ pos' = upd1 pos x.toNat (-3)) ∨ (ok = false ∧ d.P = [] ∧ d'.P = [] ∧ pos' = pos))
theorem popr_h (hI : GrI R) (h : St w0 w c R A pos out d) :
    Calls Try.prog 41 #[.pointer (some ⟨c.PB, 0, none⟩)] w fun e w' => ∃ (x : Int) (ok : Bool), e = .returned (.tuple #[.int .i64 x, .bool ok]) ∧ PopR w0 w w' c R A pos out d x ok := by
  by_cases h0 : d.P = []
  · have hp := h.ob.pl
    rw [h0] at hp
    refine (pop_no hp).mono ?_
    rintro e w' ⟨rfl, rfl⟩
    exact ⟨0, false, rfl, pos, d, h, Step.refl _ _, Or.inr ⟨rfl, h0, h0, rfl⟩⟩
  · refine (pop_i h.ob.pl h0 (Nat.le_trans h.hi.plen hI.hi)).mono ?_
    rintro e w' ⟨x, rfl, hx, hmin, F', q, t, hF⟩
    obtain ⟨d', h0, h1, h2⟩ := h.pop hx q t hF
    exact ⟨x, true, rfl, _, d', h1, h2, Or.inl ⟨rfl, hx, hmin, h0, rfl⟩⟩
/-- The walk, and the row so far, and what was popped. -/
structure RowS (w0 w wr : World) (c : Cf) (R : List (List Int)) (A out : List Int) (d : Dt) (l : List Int) (lv : Value) (x : Int) (ok : Bool) : Prop where
  out : ∃ pos' d', St w0 wr c R A pos' out d' ∧ Step c R A w wr d d' ∧ OwnO (SA c R A d') wr w.heap.size 3 1 lv l.length (l.map (Value.int .i64)) ∧
    (∀ u, u < R.length → (pos' u = -3 ↔ ((u : Nat) : Int) ∈ l ∨ (ok = true ∧ x = (u : Int)))) ∧ (∀ y, y ∈ d.P ↔ y ∈ l ∨ (ok = true ∧ y = x) ∨ y ∈ d'.P) ∧
    Rises l ∧ (∀ y ∈ l, (ok = true → y < x) ∧ ∀ z ∈ d'.P, y < z) ∧ (ok = true → gnd R.length x ∧ ∀ z ∈ d'.P, x < z) ∧ (ok = false → d'.P = [])
/-- One more comes into the row, and one more is popped. -/
theorem RowS.next {pos1 pos2 : Nat → Int} {d1 d2 : Dt} {l : List Int} {lv : Value} {y : Int} {ok : Bool} (h1 : St w0 wr c R A pos1 out d1) (hT : Step c R A w w' d d2) (h2 : St w0 w' c R A pos2 out d2)
    (ho : OwnO (SA c R A d2) w' w.heap.size 3 1 lv l.length (l.map (Value.int .i64)))
    (a1 : ∀ u, u < R.length → (pos1 u = -3 ↔ ((u : Nat) : Int) ∈ l)) (a2 : ∀ y, y ∈ d.P ↔ y ∈ l ∨ y ∈ d1.P) (a3 : Rises l) (a4 : ∀ y ∈ l, ∀ z ∈ d1.P, y < z)
    (hq : (ok = true ∧ y ∈ d1.P ∧ (∀ z ∈ d1.P, y ≤ z) ∧ d2.P = d1.P.erase y ∧ pos2 = upd1 pos1 y.toNat (-3)) ∨ (ok = false ∧ d1.P = [] ∧ d2.P = [] ∧ pos2 = pos1)) : RowS w0 w w' c R A out d l lv y ok := by
  refine ⟨pos2, d2, h2, hT, ho, ?_⟩
  rcases hq with ⟨rfl, q1, q2, q3, rfl⟩ | ⟨rfl, q1, q2, rfl⟩
  · have hg := ((h1.hi.pp y).1 q1).1
    refine ⟨fun u hu => ?_, fun z => ?_, a3, fun z hz => ⟨fun _ => a4 z hz y q1, fun t ht => ?_⟩, fun _ => ⟨hg, fun z hz => ?_⟩, fun q => by cases q⟩
    · unfold upd1
      by_cases e : u = y.toNat
      · rw [if_pos e]
        exact ⟨fun _ => Or.inr ⟨rfl, by unfold gnd at hg; omega⟩, fun _ => rfl⟩
      · rw [if_neg e, a1 u hu]
        exact ⟨fun q => Or.inl q, fun q => q.elim id (fun q => absurd (by rw [q.2]; simp) e)⟩
    · rw [a2 z, q3, List.Nodup.mem_erase_iff h1.hi.pn]
      constructor
      · rintro (r | r)
        · exact Or.inl r
        · by_cases e : z = y
          · exact Or.inr (Or.inl ⟨rfl, e⟩)
          · exact Or.inr (Or.inr ⟨e, r⟩)
      · rintro (r | ⟨_, rfl⟩ | ⟨_, r⟩)
        · exact Or.inl r
        · exact Or.inr q1
        · exact Or.inr r
    · rw [q3] at ht
      exact a4 z hz t (List.mem_of_mem_erase ht)
    · rw [q3] at hz
      obtain ⟨r1, r2⟩ := (List.Nodup.mem_erase_iff h1.hi.pn).1 hz
      have := q2 z r2
      omega
  · refine ⟨fun u hu => ?_, fun z => ?_, a3, fun z hz => ⟨fun q => (by cases q), fun t ht => (by rw [q2] at ht; cases ht)⟩, fun q => (by cases q), fun _ => q2⟩
    · rw [a1 u hu]; simp
    · rw [a2 z, q1, q2]; simp
/-- What row leaves. -/
def RowQ (w0 w w' : World) (c : Cf) (R : List (List Int)) (A : List Int) (out : List Int) (d : Dt) (l : List Int) (u : Value) : Prop :=
  ∃ pos' d', St w0 w' c R A pos' out d' ∧ Step c R A w w' d d' ∧ OwnO (SA c R A d') w' w.heap.size 3 1 u l.length (l.map (Value.int .i64)) ∧ l = wrow R A out ∧ (∀ u, u < R.length → (pos' u = -3 ↔ ((u : Nat) : Int) ∈ l)) ∧ d'.P = []
set_option maxHeartbeats 4000000 in
set_option maxRecDepth 100000 in
theorem row_h (hI : GrI R) (hA : Rises A) (h : St w0 w c R A pos out d) (hn : ∀ u, u < R.length → pos u ≠ -3) :
    Calls Try.prog 46 #[.pointer (some ⟨c.B, 0, none⟩)] w fun e w' => ∃ u l, e = .returned u ∧ RowQ w0 w w' c R A out d l u := by
  have hpo := popr_h hI h
  have hr := h.hi.ready hI hn
  have c0 := h.ob.h4
  have hIh := hI.hi
  have hsz := h.ob.wb.size
  have HS := Lib.hid h
  have HR := Lib.hid hr
  have HN := Lib.hid hn
  clear h hn hr
  go_enter Try.func46, Try.ntmps46
  go_wp2_with fail
  refine hpo.mono ?_; clear hpo; rintro e w1 ⟨x, ok, rfl, pos1, d1, hS1, hT1, hq⟩
  have H0 : Hid (RowS w0 w w1 c R A out d [] (.slice none 0 0) x ok) := RowS.next HS.out hT1 hS1 (OwnO.nil _ _ _ _ _) (fun u hu => ⟨fun q => absurd q (HN.out u hu), fun q => by cases q⟩) (fun y => by simp) List.Pairwise.nil (fun y hy => by cases hy) hq
  clear hS1 hT1 hq
  go_wp2_with fail
  clear c0
  go_loopg [3, 4, 5] (R.length + 1) (fun k lv xv ov wr => ∃ (l : List Int) (x : Int) (ok : Bool), xv = .int .i64 x ∧ ov = .bool ok ∧ R.length + 1 - l.length ≤ k ∧ RowS w0 w wr c R A out d l lv x ok)
  case atStart => exact ⟨[], x, ok, rfl, rfl, Nat.sub_le _ _, H0.out⟩
  case round =>
    clear H0
    obtain ⟨l, y, ok, rfl, rfl, hk, hAI⟩ := hrel
    obtain ⟨pos1, d1, hS, hT, ho, a1, a2, a3, a4, a5, a6⟩ := hAI.out
    have hll : l.length ≤ R.length := nodup_len a3.nodup fun z hz => ((HS.out.hi.pp z).1 ((a2 z).2 (Or.inl hz))).1
    cases ok with
    | false =>
      have hP := a6 rfl
      have hw : l = wrow R A out := rises_ext a3 (wrow_rises hA out) fun z => by
        rw [show z ∈ wrow R A out ↔ z ∈ d.P from (List.mem_filter.trans (HR.out z).symm), a2 z, hP]
        simp
      have HL : Hid (RowQ w0 w wr c R A out d l u3) := ⟨pos1, d1, hS, hT, ho, hw, fun u hu => by rw [a1 u hu]; simp, hP⟩
      clear hAI hS hT ho a1 a2 a3 a4 a5 a6 hP hw
      go_wp2_with fail
      go_ret
      exact ⟨_, l, rfl, HL.out⟩
    | true =>
      obtain ⟨la, lc, rfl⟩ := (ownsRow_slc ho.1).form
      have hbase : w.heap.size ≤ wr.heap.size := hT.t.size
      have hfoot : ∀ j, SA c R A d1 j → j < wr.heap.size := fun j q => (hS.foot j q).2
      have hnxt : ∀ (v4 : Value) (w4 : World), OwnO (SA c R A d1) w4 w.heap.size 3 1 v4 (l.length + 1) (l.map (Value.int .i64) ++ [.int .i64 y]) → Turn (fun j => (Value.slice la l.length lc).ownBlock = some j) wr w4 →
          St w0 w4 c R A pos1 out d1 ∧ Step c R A w w4 d d1 := fun v4 w4 o4 t4 =>
        ⟨hS.other t4 (fun j q => (ho.2 j q).2) (fun j q => Nat.le_trans hsz (World.ownsRow.lt ho.1 j q).1), hT.new t4 (fun j q => (World.ownsRow.lt ho.1 j q).1)⟩
      have HO := Lib.hid ho
      have HX := Lib.hid hnxt
      have b3 : Rises (l ++ [y]) := List.pairwise_append.2 ⟨a3, List.pairwise_singleton _ _, fun z hz t ht => by rw [List.mem_singleton] at ht; subst ht; exact (a4 z hz).1 rfl⟩
      have b1 : ∀ u, u < R.length → (pos1 u = -3 ↔ ((u : Nat) : Int) ∈ l ++ [y]) := fun u hu => by
        rw [a1 u hu, List.mem_append, List.mem_singleton]
        exact ⟨fun q => q.imp id (fun q => q.2.symm), fun q => q.imp id (fun q => ⟨rfl, q.symm⟩)⟩
      have b2 : ∀ z, z ∈ d.P ↔ z ∈ l ++ [y] ∨ z ∈ d1.P := fun z => by
        rw [a2 z, List.mem_append, List.mem_singleton]
        constructor
        · rintro (q | ⟨_, q⟩ | q)
          · exact Or.inl (Or.inl q)
          · exact Or.inl (Or.inr q)
          · exact Or.inr q
        · rintro ((q | q) | q)
          · exact Or.inl q
          · exact Or.inr (Or.inl ⟨rfl, q⟩)
          · exact Or.inr (Or.inr q)
      have b4 : ∀ z ∈ l ++ [y], ∀ t ∈ d1.P, z < t := fun z hz t ht => by
        rcases List.mem_append.1 hz with q | q
        · exact (a4 z q).2 t ht
        · rw [List.mem_singleton] at q; subst q; exact (a5 rfl).2 t ht
      have HB := Lib.hid (And.intro b1 (And.intro b2 (And.intro b3 b4)))
      have hl1 : (l ++ [y]).length ≤ R.length := nodup_len b3.nodup fun z hz => ((HS.out.hi.pp z).1 ((b2 z).2 (Or.inl hz))).1
      rw [List.length_append, List.length_singleton] at hl1
      clear hAI hS hT ho hnxt a1 a2 a3 a4 a5 a6 b1 b2 b3 b4
      go_wp2_with
        (at_builtin
         refine wpList_push1 (w := wr) rfl (.tmp 23) (.tmp 25) 23 rfl (SA c R A d1) w.heap.size 3 1 8 (.int .i64 0) Try.underlying23 int_info rfl (by decide) [.int .i64 y] rfl _ _ _ rfl HO.out (by simp [Act.eval]) (by intro u hu; simp at hu; subst hu; rfl) (by omega) (by decide) hbase hfoot ?_
         intro v4 w4 o4 t4 l4
         obtain ⟨hS4, hT4⟩ := HX.out v4 w4 o4 t4
         have hpo := popr_h hI hS4
         have c0 := hS4.ob.h4
         have HT4 := Lib.hid (And.intro hS4 hT4)
         have HO4 := Lib.hid o4
         clear o4 t4 l4 hS4 hT4)
      refine hpo.mono ?_; clear hpo; rintro e w6 ⟨z, ok, rfl, pos3, d3, hS6, hT6, hq⟩
      have HR6 : Hid (RowS w0 w w6 c R A out d (l ++ [y]) v4 z ok) := RowS.next HT4.out.1 (HT4.out.2.trans hT6) hS6 (by
        have := hT6.own HO4.out
        rw [List.length_append, List.map_append]; exact this) HB.out.1 HB.out.2.1 HB.out.2.2.1 HB.out.2.2.2 hq
      clear hS6 hT6 hq c0
      go_wp2_with fail
      go_roundg (gk - 1)
      case measure => omega
      case rel => exact ⟨l ++ [y], z, ok, rfl, rfl, by rw [List.length_append, List.length_singleton]; omega, HR6.out⟩
end
/- The landed rows: at each time all that are ready, till none is. The conditions: the walk's blocks; none is in hand. -/
/-- A row of rows that the call owns, all of it outside S, below block b0. -/
def RowsB (w wr : World) (S : Nat → Prop) (rs : List (List Int)) (rv : Value) (b0 : Nat) : Prop :=
  ∃ (us : List Value) (G : Nat → Prop), OwnO (fun j => S j ∨ G j) wr w.heap.size 23 1 rv rs.length us ∧ (∀ j, G j → ¬ S j ∧ w.heap.size ≤ j ∧ j < b0) ∧ (∀ b, rv.ownBlock = some b → b < b0) ∧ b0 ≤ wr.heap.size ∧ us.length = rs.length ∧
    ∀ i, i < rs.length → Sl wr (us.getD i undef) (rAt rs i) ∧ ∀ b, (us.getD i undef).ownBlock = some b → G b
theorem RowsB.nil (w wr : World) (S : Nat → Prop) : RowsB w wr S [] (.slice none 0 0) wr.heap.size :=
  ⟨[], fun _ => False, OwnO.nil _ _ _ _ _, fun j q => q.elim, fun b q => (by cases q), Nat.le_refl _, rfl, fun i hi => (by cases hi)⟩
theorem RowsB.turn {w wr w' : World} {S S' : Nat → Prop} {rs : List (List Int)} {rv : Value} {b0 : Nat} (h : RowsB w wr S rs rv b0) (t : Turn S wr w') (hS : ∀ j, S' j → S j ∨ wr.heap.size ≤ j) : RowsB w w' S' rs rv b0 := by
  obtain ⟨us, G, h1, h2, h3, h4, h5, h6⟩ := h
  refine ⟨us, G, h1.turn t (fun b q r => (h1.2 b q).2 (Or.inl r)) (fun j q => ?_), fun j q => ⟨fun r => ?_, (h2 j q).2⟩, h3, Nat.le_trans h4 t.size, h5, fun i hi => ⟨sl_same (h6 i hi).1 fun _ b hb => ?_, (h6 i hi).2⟩⟩
  · rcases q with q | q
    · exact (hS j q).imp Or.inl id
    · exact Or.inl (Or.inr q)
  · rcases hS j r with r | r
    · exact (h2 j q).1 r
    · have := (h2 j q).2.2; omega
  · have hG := h2 b ((h6 i hi).2 b hb)
    exact t.block b (by omega) hG.1
theorem RowsB.up {w wr : World} {S : Nat → Prop} {rs : List (List Int)} {rv : Value} {b0 : Nat} (h : RowsB w wr S rs rv b0) : RowsB w wr S rs rv wr.heap.size := by
  obtain ⟨us, G, h1, h2, h3, h4, h5, h6⟩ := h
  exact ⟨us, G, h1, fun j q => ⟨(h2 j q).1, (h2 j q).2.1, by have := (h2 j q).2.2; omega⟩, fun b q => by have := h3 b q; omega, Nat.le_refl _, h5, h6⟩
theorem rows_le {R : List (List Int)} {A : List Int} {rs : List (List Int)} (h : WavP R A rs) : rs.length ≤ rs.flatten.length := by
  have key : ∀ i, i ≤ rs.length → i ≤ (rs.take i).flatten.length := by
    intro i
    induction i with
    | zero => intro _; exact Nat.zero_le _
    | succ i ih =>
      intro hi
      rw [flat_step hi, List.length_append]
      have := ih (by omega)
      have := List.length_pos_iff.2 (h i hi).2
      omega
  have := key rs.length (Nat.le_refl _)
  rwa [List.take_length] at this
section
variable {c : Cf} {R : List (List Int)} {A : List Int} {w0 w w' wr : World} {d d1 d2 : Dt} {pos : Nat → Int} {out : List Int}
theorem RowsB.step {w1 : World} {rs : List (List Int)} {rv : Value} {b0 : Nat} (h : RowsB w w1 (SA c R A d1) rs rv b0) (s : Step c R A w1 w' d1 d2) : RowsB w w' (SA c R A d2) rs rv b0 := h.turn s.t s.g
/-- One more row. -/
theorem RowsB.push {w4 : World} {S : Nat → Prop} {rs : List (List Int)} {us : List Value} {G : Nat → Prop} {rv cv v4 : Value} {cr : List Int} {b0 : Nat}
    (hc : OwnO S wr b0 3 1 cv cr.length (cr.map (Value.int .i64))) (hcr : ∀ z ∈ cr, InR z) (hwb : w.heap.size ≤ b0) (h1 : OwnO (fun j => S j ∨ G j) wr w.heap.size 23 1 rv rs.length us) (h2 : ∀ j, G j → ¬ S j ∧ w.heap.size ≤ j ∧ j < b0) (h3 : ∀ b, rv.ownBlock = some b → b < b0) (h4 : b0 ≤ wr.heap.size) (h5 : us.length = rs.length)
    (h6 : ∀ i, i < rs.length → Sl wr (us.getD i undef) (rAt rs i) ∧ ∀ b, (us.getD i undef).ownBlock = some b → G b)
    (o4 : OwnO (fun j => S j ∨ G j ∨ cv.ownBlock = some j) w4 w.heap.size 23 1 v4 (rs.length + 1) (us ++ [cv])) (t4 : Turn (fun j => rv.ownBlock = some j) wr w4) :
    RowsB w w4 S (rs ++ [cr]) v4 w4.heap.size ∧ OwnO S w4 b0 3 1 cv cr.length (cr.map (Value.int .i64)) := by
  have hcs : OwnO S w4 b0 3 1 cv cr.length (cr.map (Value.int .i64)) := hc.turn t4 (fun b q r => by have := h3 b r; have := (World.ownsRow.lt hc.1 b q).1; omega) (fun j q => Or.inl q)
  refine ⟨⟨us ++ [cv], fun j => G j ∨ cv.ownBlock = some j, by rw [List.length_append, List.length_singleton]; exact o4, fun j q => ?_, fun b q => (o4.2 b q).1, Nat.le_refl _, by simp [h5], fun i hi => ?_⟩, hcs⟩
  · rcases q with q | q
    · have := h2 j q
      exact ⟨this.1, this.2.1, by have := t4.size; omega⟩
    · exact ⟨(hc.2 j q).2, by have := (World.ownsRow.lt hc.1 j q).1; omega, (hcs.2 j q).1⟩
  · rw [List.length_append, List.length_singleton] at hi
    by_cases q : i < rs.length
    · have e1 : (us ++ [cv]).getD i undef = us.getD i undef := by simp [List.getD, List.getElem?_append_left (show i < us.length by omega)]
      have e2 : rAt (rs ++ [cr]) i = rAt rs i := by simp [rAt, List.getD, List.getElem?_append_left q]
      rw [e1, e2]
      refine ⟨sl_same (h6 i q).1 fun _ b hb => ?_, fun b hb => Or.inl ((h6 i q).2 b hb)⟩
      have hG := (h6 i q).2 b hb
      refine t4.block b (by have := (h2 b hG).2.2; omega) fun r => ?_
      exact (h1.2 b r).2 (Or.inr hG)
    · obtain rfl : i = rs.length := by omega
      have e1 : (us ++ [cv]).getD rs.length undef = cv := by simp [List.getD, ← h5]
      have e2 : rAt (rs ++ [cr]) rs.length = cr := by simp [rAt, List.getD]
      rw [e1, e2]
      exact ⟨Own.sl (show Own w4 b0 cv cr from hcs.1) hcr, fun b hb => Or.inr hb⟩
/-- The walk and the rows so far, with one that is to come. -/
structure RwI (w0 w wr : World) (c : Cf) (R : List (List Int)) (A : List Int) (d : Dt) (rs : List (List Int)) (rv : Value) (cr : List Int) (cv : Value) : Prop where
  out : ∃ pos' d' b0, St w0 wr c R A pos' rs.flatten d' ∧ Step c R A w wr d d' ∧ WavP R A rs ∧ cr = wrow R A rs.flatten ∧ (∀ u, u < R.length → (pos' u = -3 ↔ ((u : Nat) : Int) ∈ cr)) ∧ d'.P = [] ∧
    OwnO (SA c R A d') wr b0 3 1 cv cr.length (cr.map (Value.int .i64)) ∧ w.heap.size ≤ b0 ∧ RowsB w wr (SA c R A d') rs rv b0
/-- What rows leaves. -/
def RwQ (w0 w w' : World) (c : Cf) (R : List (List Int)) (A : List Int) (d : Dt) (rs : List (List Int)) (u : Value) : Prop :=
  ∃ pos' d' b0, St w0 w' c R A pos' rs.flatten d' ∧ Step c R A w w' d d' ∧ IsWav R A rs ∧ (∀ u, u < R.length → pos' u ≠ -3) ∧ d'.P = [] ∧ RowsB w w' (SA c R A d') rs u b0
theorem RwI.leave {rs : List (List Int)} {rv cv : Value} (h : RwI w0 w wr c R A d rs rv [] cv) : RwQ w0 w wr c R A d rs rv := by
  obtain ⟨p, d', b0, h1, h2, h3, h4, h5, h6, _, _, h7⟩ := h.out
  exact ⟨p, d', b0, h1, h2, ⟨h3, h4.symm⟩, (fun u hu q => by have := (h5 u hu).1 q; cases this), h6, h7⟩
theorem RwI.next {rs : List (List Int)} {rv : Value} {l : List Int} {u : Value} (h3 : WavP R A rs) (hT : Step c R A w wr d d1) (hR : RowsB w wr (SA c R A d1) rs rv wr.heap.size) (hb : w.heap.size ≤ wr.heap.size) (hq : RowQ w0 wr w' c R A rs.flatten d1 l u) : RwI w0 w w' c R A d rs rv l u := by
  obtain ⟨p, d', h1, h2, h4, h5, h6, h7⟩ := hq
  exact ⟨p, d', wr.heap.size, h1, hT.trans h2, h3, h5, h6, h7, h4, hb, hR.step h2⟩
/-- While those of a row are told. -/
structure TwI (w0 w wr : World) (c : Cf) (R : List (List Int)) (A : List Int) (d : Dt) (rs : List (List Int)) (rv : Value) (cr : List Int) (cv : Value) (b0 k : Nat) : Prop where
  out : ∃ pos' d' b1, St w0 wr c R A pos' (rs.flatten ++ cr.take k) d' ∧ Step c R A w wr d d' ∧ (∀ u, u < R.length → (pos' u = -3 ↔ ((u : Nat) : Int) ∈ cr.drop k)) ∧
    OwnO (SA c R A d') wr b0 3 1 cv cr.length (cr.map (Value.int .i64)) ∧ RowsB w wr (SA c R A d') (rs ++ [cr]) rv b1
set_option maxHeartbeats 4000000 in
set_option maxRecDepth 100000 in
theorem rows_h (hI : GrI R) (hA : Rises A) (h : St w0 w c R A pos [] d) (hn : ∀ u, u < R.length → pos u ≠ -3) :
    Calls Try.prog 27 #[.pointer (some ⟨c.B, 0, none⟩)] w fun e w' => ∃ u rs, e = .returned u ∧ RwQ w0 w w' c R A d rs u := by
  have hro := row_h hI hA h hn
  have hIh := hI.hi
  have hsz := h.ob.wb.size
  have han := Lib.hid h.hi.an
  clear h hn
  go_enter Try.func27, Try.ntmps27
  go_wp2_with fail
  refine hro.mono ?_; clear hro; rintro e w1 ⟨cv, cr, rfl, hq⟩
  have H0 : Hid (RwI w0 w w1 c R A d [] (.slice none 0 0) cr cv) := RwI.next WavP.nil (Step.refl w d) (RowsB.nil w w _) (Nat.le_refl _) hq
  clear hq
  go_wp2_with fail
  go_loopg [3, 4] (R.length + 1) (fun k rv cv wr => ∃ (rs : List (List Int)) (cr : List Int), R.length + 1 - rs.flatten.length ≤ k ∧ RwI w0 w wr c R A d rs rv cr cv)
  case atStart => exact ⟨[], cr, Nat.sub_le _ _, H0.out⟩
  case round =>
    clear H0
    obtain ⟨rs, cr, hk, hRI⟩ := hrel
    obtain ⟨pos1, d1, b0, hS, hT, hW, hcr, hlim, hP, hco, hwb, us, G, g1, g2, g3, g4, g5, g6⟩ := hRI.out
    obtain ⟨ca, cc, rfl⟩ := (ownsRow_slc hco.1).form
    obtain ⟨ra, rc, rfl⟩ := (ownsRow_slc g1.1).form
    by_cases hc0 : cr = []
    · subst hc0
      have HL := Lib.hid hRI.leave
      clear hRI hS hT hW hcr hlim hP hco g1 g2 g3 g4 g5 g6 hwb
      simp only [List.length_nil]
      go_wp2_with fail
      go_ret
      exact ⟨_, rs, rfl, HL.out⟩
    · have hpos : 0 < cr.length := List.length_pos_iff.2 hc0
      have hWn : WavP R A (rs ++ [cr]) := by rw [hcr]; exact hW.push (by rw [← hcr]; exact hc0)
      have hfl : (rs ++ [cr]).flatten = rs.flatten ++ cr := by simp
      have hnd : (rs.flatten ++ cr).Nodup := by
        have := WavP.nodup hWn hA.nodup (rs ++ [cr]).length (Nat.le_refl _)
        rwa [List.take_length, hfl] at this
      have hsub : ∀ x ∈ rs.flatten ++ cr, gnd R.length x := fun x hx => han.out x (hWn.sub x (by rw [hfl]; exact hx))
      have hlen := nodup_len hnd hsub
      rw [List.length_append] at hlen
      have hrl : rs.length ≤ rs.flatten.length := rows_le hW
      have hcin : ∀ z ∈ cr, InR z := fun z hz => by have := hsub z (List.mem_append.2 (Or.inr hz)); unfold gnd at this; unfold InR; omega
      have hbase : w.heap.size ≤ wr.heap.size := hT.t.size
      have hcb : ∀ b, (Value.slice ca cr.length cc).ownBlock = some b → b0 ≤ b ∧ b < wr.heap.size := fun b q => World.ownsRow.lt hco.1 b q
      have hoo : OwnO (fun j => SA c R A d1 j ∨ G j ∨ (Value.slice ca cr.length cc).ownBlock = some j) wr w.heap.size 23 1 (.slice ra rs.length rc) rs.length us := ⟨g1.1, fun b q => ⟨(g1.2 b q).1, fun r => by
        rcases r with r | r | r
        · exact (g1.2 b q).2 (Or.inl r)
        · exact (g1.2 b q).2 (Or.inr r)
        · have := g3 b q; have := (hcb b r).1; omega⟩⟩
      have hfoot : ∀ j, SA c R A d1 j ∨ G j ∨ (Value.slice ca cr.length cc).ownBlock = some j → j < wr.heap.size := fun j q => by
        rcases q with q | q | q
        · exact (hS.foot j q).2
        · have := (g2 j q).2.2; omega
        · exact (hcb j q).2
      have hnxt : ∀ (v4 : Value) (w4 : World), OwnO (fun j => SA c R A d1 j ∨ G j ∨ (Value.slice ca cr.length cc).ownBlock = some j) w4 w.heap.size 23 1 v4 (rs.length + 1) (us ++ [.slice ca cr.length cc]) → Turn (fun j => (Value.slice ra rs.length rc).ownBlock = some j) wr w4 →
          TwI w0 w w4 c R A d rs v4 cr (.slice ca cr.length cc) b0 0 := fun v4 w4 o4 t4 => by
        obtain ⟨p1, p2⟩ := RowsB.push hco hcin hwb g1 g2 g3 g4 g5 g6 o4 t4
        refine ⟨pos1, d1, w4.heap.size, ?_, hT.new t4 (fun j q => (World.ownsRow.lt g1.1 j q).1), fun u hu => by rw [List.drop_zero]; exact hlim u hu, p2, p1⟩
        have := hS.other t4 (fun j q r => (g1.2 j q).2 (Or.inl r)) (fun j q => Nat.le_trans hsz (World.ownsRow.lt g1.1 j q).1)
        simpa using this
      have HO := Lib.hid hoo
      have HN := Lib.hid hnxt
      have HW := Lib.hid (And.intro hWn (And.intro hfl (And.intro hnd hsub)))
      clear hRI hS hT hW hWn hfl hnd hsub hcr hlim hP hco g1 g2 g3 g4 g5 g6 hoo hnxt hwb hcin hcb hc0
      have d0 : decide ((0 : Int) < (cr.length : Int)) = true := decide_eq_true (by omega)
      go_wp2_with
        (at_builtin
         refine wpList_push1 (w := wr) rfl (.tmp 14) (.tmp 16) 27 rfl (fun j => SA c R A d1 j ∨ G j ∨ (Value.slice ca cr.length cc).ownBlock = some j) w.heap.size 23 1 24 (.slice none 0 0) Try.underlying27 rows_info rfl (by decide) [.slice ca cr.length cc] rfl _ _ _ rfl HO.out (by simp [Act.eval]) (by intro u hu; simp at hu; subst hu; rfl) (by omega) (by decide) hbase hfoot ?_
         intro v4 w4 o4 t4 l4
         have HT4 := Lib.hid (HN.out v4 w4 o4 t4)
         clear o4 t4 l4)
      go_loopw [20] (fun i wy => ∃ k : Nat, k ≤ cr.length ∧ i = .int .i64 (k : Int) ∧ TwI w0 w wy c R A d rs v4 cr (.slice ca cr.length cc) b0 k) (fun i _ => cr.length - (RowKit.intOf i).toNat)
      case atStart => exact ⟨0, Nat.zero_le _, rfl, HT4.out⟩
      case round =>
        clear HT4 HO HN
        obtain ⟨k, hk2, rfl, hTI⟩ := hrel
        obtain ⟨pos2, d2, b1, hS, hT, hlim, hco, hRB⟩ := hTI.out
        by_cases hlt : k < cr.length
        · have hg := HW.out.2.2.2 (cr.getD k 0) (List.mem_append.2 (Or.inr (by rw [getD_lt _ _ hlt]; exact List.getElem_mem hlt)))
          obtain ⟨n, hn⟩ : ∃ n : Nat, cr.getD k 0 = (n : Int) := ⟨(cr.getD k 0).toNat, by unfold gnd at hg; omega⟩
          have hnl : n < R.length := by unfold gnd at hg; omega
          have hdk := drop_cons hlt
          rw [hn] at hdk
          have hpn : pos2 n = -3 := (hlim n hnl).2 (by rw [hdk]; simp)
          have hte := tell_h hI hS hnl hpn
          have hnx : ((n : Nat) : Int) ∉ cr.drop (k + 1) := by
            have q : (cr.drop k).Nodup := ((List.nodup_append.1 HW.out.2.2.1).2.1).sublist (List.drop_sublist _ _)
            rw [hdk] at q
            exact (List.nodup_cons.1 q).1
          have hnext : ∀ w', TellQ w0 wr w' c R A pos2 (rs.flatten ++ cr.take k) d2 n → TwI w0 w w' c R A d rs v4 cr (.slice ca cr.length cc) b0 (k + 1) := fun w' hq => by
            obtain ⟨pos3, d3, h1, h2, h3⟩ := hq
            refine ⟨pos3, d3, b1, ?_, hT.trans h2, fun u hu => ?_, h2.own hco, hRB.step h2⟩
            · rw [List.take_succ_eq_append_getElem hlt, ← List.append_assoc]
              rw [getD_lt _ _ hlt] at hn
              rw [hn]; exact h1
            · rw [h3 u hu, hlim u hu, hdk, List.mem_cons]
              constructor
              · rintro ⟨q | q, r⟩
                · exact absurd (by omega) r
                · exact q
              · intro q
                exact ⟨Or.inr q, fun r => by subst r; exact hnx q⟩
          obtain ⟨b, cap, eq⟩ : ∃ b cap, Value.slice ca cr.length cc = .slice (some ⟨b, 0, none⟩) cr.length cap := ownI_some hco.1 (by omega)
          injection eq with q1 _ q3
          subst q1 q3
          have hcx := World.ownsRow.cellAt hco.1 k (by omega)
          rw [show (cr.map (Value.int .i64))[k]? = some (.int .i64 (n : Int)) by rw [← hn]; simp [List.getD, hlt]] at hcx
          have j0 : (0 : Int) ≤ (k : Int) := by omega
          have j1 : (k : Int) < (cr.length : Int) := by omega
          have HNX := Lib.hid hnext
          have HLT := Lib.hid hlt
          clear hTI hS hT hlim hco hRB hnext hdk hpn hnx hg hn hlt hk2
          go_wp2_with fail
          refine hte.mono ?_; clear hte; rintro e w2 ⟨rfl, hq⟩
          have HQ := Lib.hid (HNX.out _ hq)
          clear hq
          go_wp2_with fail
          go_roundw
          · exact ⟨k + 1, HLT.out, by go_num, HQ.out⟩
          · have := HLT.out; simp [RowKit.intOf]; omega
        · obtain rfl : k = cr.length := by omega
          have hd0 : decide ((cr.length : Int) < (cr.length : Int)) = false := decide_eq_false (by omega)
          rw [List.take_length, ← HW.out.2.1] at hS
          rw [List.drop_length] at hlim
          have hro := row_h hI hA hS (fun u hu q => by have := (hlim u hu).1 q; cases this)
          have hnext : ∀ w' l u, RowQ w0 wr w' c R A (rs ++ [cr]).flatten d2 l u → RwI w0 w w' c R A d (rs ++ [cr]) v4 l u := fun w' l u hq => RwI.next HW.out.1 hT hRB.up hT.t.size hq
          have HNX := Lib.hid hnext
          have hfe : (rs ++ [cr]).flatten.length = rs.flatten.length + cr.length := by rw [HW.out.2.1, List.length_append]
          clear hTI hS hT hlim hco hRB hnext hk2 hlt
          go_wp2_with fail
          refine hro.mono ?_; clear hro; rintro e w2 ⟨cv2, cr2, rfl, hq⟩
          have HQ := Lib.hid (HNX.out _ _ _ hq)
          clear hq
          go_wp2_with fail
          go_roundg (gk - 1)
          case measure => omega
          case rel => exact ⟨rs ++ [cr], cr2, by omega, HQ.out⟩
end
/- The landed isStuck and circle. The conditions: the walk's blocks; for circle: none is in hand or ready, and some are left. -/
theorem idx_b (g N : Nat) (lv : Nat → Bool) (w : World) (hN : N ≤ 1000000) (hc : ∀ i, i < N → w.cell? ⟨g, i, none⟩ = some (.bool (lv i))) :
    Calls Try.prog 47 #[.slice (some ⟨g, 0, none⟩) N N, .bool true] w fun e w' => ∃ i : Int, e = .returned (.int .i64 i) ∧ w' = w ∧ ((∃ k : Nat, k < N ∧ i = (k : Int) ∧ lv k = true) ∨ (i = -1 ∧ ∀ k, k < N → lv k = false)) := by
  have HC := Lib.hid hc
  clear hc
  go_enter Try.func47, Try.ntmps47
  go_wp2_with fail
  go_loopw [8] (fun i wr => ∃ k : Nat, k ≤ N ∧ i = .int .i64 (k : Int) ∧ (∀ j, j < k → lv j = false) ∧ wr = w) (fun i _ => N - (RowKit.intOf i).toNat)
  case atStart => exact ⟨0, Nat.zero_le _, rfl, fun j hj => absurd hj (Nat.not_lt_zero j), rfl⟩
  case round =>
    obtain ⟨k, hk, rfl, hf, rfl⟩ := hrel
    have HF := Lib.hid hf
    clear hf
    by_cases hlt : k < N
    · have c0 := HC.out k hlt
      have i0 : (0 : Int) ≤ (k : Int) := by omega
      have i1 : (k : Int) < (N : Int) := by omega
      cases hb : lv k with
      | true =>
        rw [hb] at c0
        have HB := Lib.hid hb
        clear hb
        go_wp2_with fail
        go_ret
        exact ⟨(k : Int), rfl, rfl, Or.inl ⟨k, hlt, rfl, HB.out⟩⟩
      | false =>
        rw [hb] at c0
        have HB := Lib.hid hb
        clear hb
        go_wp2_with fail
        go_roundw
        · exact ⟨k + 1, by omega, by go_num, fun j hj => by
            rcases Nat.lt_or_ge j k with q | q
            · exact HF.out j q
            · rw [show j = k by omega]; exact HB.out, by first | rfl | trivial⟩
        · simp [RowKit.intOf]; omega
    · obtain rfl : k = N := by omega
      have hd0 : decide ((k : Int) < (k : Int)) = false := decide_eq_false (by omega)
      go_wp2_with fail
      go_ret
      exact ⟨-1, rfl, rfl, Or.inr ⟨rfl, HF.out⟩⟩
section
variable {c : Cf} {R : List (List Int)} {A : List Int} {w0 w w' wr : World} {d d1 d2 : Dt} {pos : Nat → Int} {out : List Int}
theorem stuck_h (hI : GrI R) (h : St w0 w c R A pos out d) :
    Calls Try.prog 24 #[.pointer (some ⟨c.B, 0, none⟩)] w fun e w' => ∃ s : Bool, e = .returned (.bool s) ∧ w' = w ∧ (s = true ↔ ∃ k, k < R.length ∧ pos k ≠ -1) := by
  have c0 := h.ob.h0
  have hIh := hI.hi
  have hix := idx_b c.gl R.length (lvP pos) w (by omega) (fun i hi => (h.ob.lr i hi).1)
  have hlv : ∀ k, lvP pos k = true ↔ pos k ≠ -1 := fun k => by unfold lvP; exact decide_eq_true_iff
  have hlf : ∀ k, lvP pos k = false ↔ pos k = -1 := fun k => by unfold lvP; rw [decide_eq_false_iff_not]; omega
  have HL := Lib.hid (And.intro hlv hlf)
  clear h hlv hlf
  have hcn : Calls Try.prog 44 #[.slice (some ⟨c.gl, 0, none⟩) R.length R.length, .bool true] w fun e w' => ∃ s : Bool, e = .returned (.bool s) ∧ w' = w ∧ (s = true ↔ ∃ k, k < R.length ∧ pos k ≠ -1) := by
    go_enter Try.func44, Try.ntmps44
    go_wp2_with fail
    refine hix.mono ?_; rintro e w1 ⟨i, rfl, rfl, hh⟩
    have HH := Lib.hid hh
    clear hh
    go_wp2_with fail
    go_ret
    refine ⟨_, rfl, rfl, ?_⟩
    rw [decide_eq_true_iff]
    rcases HH.out with ⟨k, h1, rfl, h2⟩ | ⟨rfl, h2⟩
    · exact ⟨fun _ => ⟨k, h1, (HL.out.1 k).1 h2⟩, fun _ => by omega⟩
    · exact ⟨fun q => absurd q (by omega), fun ⟨k, h1, h3⟩ => absurd ((HL.out.2 k).1 (h2 k h1)) h3⟩
  clear hix
  go_enter Try.func24, Try.ntmps24
  go_wp2_with fail
  refine hcn.mono ?_; rintro e w1 ⟨s, rfl, rfl, hh⟩
  have HH := Lib.hid hh
  clear hh
  go_wp2_with fail
  go_ret
  exact ⟨s, rfl, rfl, HH.out⟩
/-- Where one goes that is held back. -/
def hfn (R : List (List Int)) (pos : Nat → Int) (v : Nat) : Nat := ((hf R pos v).getD 0).toNat
def Lft (R : List (List Int)) (pos : Nat → Int) (v : Nat) : Prop := v < R.length ∧ pos v ≠ -1
theorem Lft.next (hI : GrI R) (h : St w0 w c R A pos out d) (hn : ∀ u, u < R.length → pos u ≠ -3) (hP : d.P = []) {v : Nat} (hv : Lft R pos v) : Lft R pos (hfn R pos v) ∧ ((hfn R pos v : Nat) : Int) ∈ gR R v ∧ hf R pos v = some ((hfn R pos v : Nat) : Int) := by
  have h2 : pos v ≠ -2 := fun q => by
    have := (h.hi.pp ((v : Nat) : Int)).2 ⟨gnd_nat hv.1, by rw [Int.toNat_natCast]; exact q⟩
    rw [hP] at this; cases this
  have h3 := hn v hv.1
  have h4 := h.hi.rg v hv.1
  have h5 := hv.2
  obtain ⟨r1, r2, r3⟩ := h.hi.aw v hv.1 (by omega)
  cases hq : hf R pos v with
  | none => exact absurd (hf_none hq _ r3) r2
  | some x =>
    obtain ⟨s1, s2⟩ := hf_some hq
    have hg := hI.nodes v x s1
    have e : ((hfn R pos v : Nat) : Int) = x := by unfold hfn; rw [hq]; unfold gnd at hg; simp; omega
    have e2 : hfn R pos v = x.toNat := by unfold hfn; rw [hq]; rfl
    refine ⟨⟨by rw [e2]; unfold gnd at hg; omega, by rw [e2]; exact s2⟩, by rw [e]; exact s1, by rw [e]⟩
/-- What is kept while circle asks. -/
structure CirI (w0 w wr : World) (c : Cf) (R : List (List Int)) (A : List Int) (pos : Nat → Int) (out : List Int) (d : Dt) : Prop where
  out : ∃ d', St w0 wr c R A pos out d' ∧ Step c R A w wr d d' ∧ d'.P = []
set_option maxHeartbeats 4000000 in
set_option maxRecDepth 100000 in
theorem circle_h (hI : GrI R) (h : St w0 w c R A pos out d) (hn : ∀ u, u < R.length → pos u ≠ -3) (hP : d.P = []) (hs : ∃ k, k < R.length ∧ pos k ≠ -1) :
    Calls Try.prog 29 #[.pointer (some ⟨c.B, 0, none⟩)] w fun e w' => ∃ u C, e = .returned u ∧ Own w' w.heap.size u C ∧ IsCyc R A C ∧ Below w0.heap.size w w' := by
  have c0 := h.ob.h0
  have hIh := hI.hi
  have hsz := h.ob.wb.size
  have hix := idx_b c.gl R.length (lvP pos) w (by omega) (fun i hi => (h.ob.lr i hi).1)
  have HS := Lib.hid h
  have HL := Lib.hid (fun v (hv : Lft R pos v) => Lft.next hI h hn hP hv)
  have HA : Hid (∀ v, Lft R pos v → ((v : Nat) : Int) ∈ A) := fun v hv => ((h.hi.lf v hv.1).1 hv.2).1
  have H0 : Hid (CirI w0 w w c R A pos out d) := ⟨d, h, Step.refl _ _, hP⟩
  clear h hn hP
  go_enter Try.func29, Try.ntmps29
  go_wp2_with fail
  refine hix.mono ?_; clear hix; rintro e w1 ⟨i, rfl, hw, hh⟩
  replace hw := hw.symm
  subst hw
  obtain ⟨v0, rfl, hv0⟩ : ∃ v0 : Nat, i = (v0 : Int) ∧ Lft R pos v0 := by
    rcases hh with ⟨k, h1, h2, h3⟩ | ⟨_, h2⟩
    · exact ⟨k, h2, h1, by unfold lvP at h3; exact of_decide_eq_true h3⟩
    · obtain ⟨k, h3, h4⟩ := hs
      have := h2 k h3
      unfold lvP at this
      rw [decide_eq_true h4] at this; cases this
  have HT : Hid (∀ k, Lft R pos (it (hfn R pos) k v0)) := fun k => it_in (T := Lft R pos) (fun x hx => (HL.out x hx).1) hv0 k
  obtain ⟨p, p1, p2, p3, p4⟩ := comes_round (T := Lft R pos) (n := R.length) (fun x hx => (HL.out x hx).1) (fun x hx => hx.1) hv0
  have HP := Lib.hid (And.intro p3 p4)
  clear hh hs hv0 p3 p4
  have hlo := HS.out.ob.h0
  go_wp2_with fail
  clear c0 hlo
  go_loopw [3, 17] (fun vv i wr => ∃ k : Nat, k ≤ R.length ∧ i = .int .i64 (k : Int) ∧ vv = .int .i64 ((it (hfn R pos) k v0 : Nat) : Int) ∧ CirI w0 w wr c R A pos out d) (fun _ i _ => R.length - (RowKit.intOf i).toNat)
  case atStart => exact ⟨0, Nat.zero_le _, rfl, rfl, H0.out⟩
  case round =>
    clear H0
    obtain ⟨k, hk, rfl, rfl, hCI⟩ := hrel
    obtain ⟨d1, hS, hT, hP⟩ := hCI.out
    by_cases hlt : k < R.length
    · have hl := HT.out k
      have hho := holder_c hI hS hl.1 (HA.out _ hl)
      obtain ⟨_, _, hq⟩ := HL.out _ hl
      rw [hq] at hho
      simp only [Option.getD_some, Option.isSome_some] at hho
      have c2 := hS.ob.h2
      have hT1 := Lib.hid hT
      have hP1 := Lib.hid hP
      have hst : it (hfn R pos) (k + 1) v0 = hfn R pos (it (hfn R pos) k v0) := rfl
      rw [← hst] at hho
      have HLT := Lib.hid hlt
      generalize it (hfn R pos) k v0 = z at *
      generalize hz2 : it (hfn R pos) (k + 1) v0 = z2 at *
      have HZ2 := Lib.hid hz2
      have d0 : decide ((k : Int) < (R.length : Int)) = true := decide_eq_true (by omega)
      clear hCI hS hT hP hl hq hst hz2 hlt hk
      go_wp2_with fail
      refine hho.mono ?_; clear hho; rintro e w2 ⟨rfl, d2, hS2, hT2, e1, _, _, _⟩
      have HC : Hid (CirI w0 w w2 c R A pos out d) := ⟨d2, hS2, hT1.out.trans hT2, e1.trans hP1.out⟩
      clear hS2 hT2 e1
      go_wp2_with fail
      go_roundw
      · exact ⟨k + 1, HLT.out, by go_num, by rw [HZ2.out], HC.out⟩
      · have := HLT.out; simp [RowKit.intOf]; omega
    · obtain rfl : k = R.length := by omega
      have hd0 : decide ((R.length : Int) < (R.length : Int)) = false := decide_eq_false (by omega)
      have hl := HT.out R.length
      have HTV : Hid (∀ j, Lft R pos (it (hfn R pos) j (it (hfn R pos) R.length v0))) := fun j => by rw [← it_add]; exact HT.out _
      generalize it (hfn R pos) R.length v0 = v at *
      have hb0 := below1 wr (.cells #[.int .i64 (v : Int)] 3)
      have hS1 := hS.below hb0
      have hho := holder_c hI hS1 hl.1 (HA.out _ hl)
      obtain ⟨_, _, hq⟩ := HL.out _ hl
      rw [hq] at hho
      simp only [Option.getD_some, Option.isSome_some] at hho
      have c2 := hS1.ob.h2
      have hT1 := Lib.hid (hT.below hb0)
      have hP1 := Lib.hid hP
      have hol : Hid (OwnO (SA c R A d1) (wr.alloc (.cells #[.int .i64 (v : Int)] 3)) w.heap.size 3 1 (.slice (some ⟨wr.heap.size, 0, none⟩) 1 1) (cycl (hfn R pos) v 1).length ((cycl (hfn R pos) v 1).map (Value.int .i64))) :=
        ⟨World.ownsRow_lit (base := w.heap.size) (e := 3) (size := 1) wr #[.int .i64 (v : Int)] 1 hT.t.size (by unfold maxLen; omega) rfl, fun b q => by
          cases q
          exact ⟨by simp, fun r => Nat.lt_irrefl _ (hS.foot _ r).2⟩⟩
      clear hCI hS hT hP hl hq hS1 hk hlt
      go_wp2_with fail
      refine hho.mono ?_; clear hho; rintro e w4 ⟨rfl, d2, hS2, hT2, e1, _, _, _⟩
      have HX : Hid (∃ d2, St w0 w4 c R A pos out d2 ∧ Step c R A w w4 d d2 ∧ d2.P = [] ∧ OwnO (SA c R A d2) w4 w.heap.size 3 1 (.slice (some ⟨wr.heap.size, 0, none⟩) 1 1) (cycl (hfn R pos) v 1).length ((cycl (hfn R pos) v 1).map (Value.int .i64))) :=
        ⟨d2, hS2, hT1.out.trans hT2, e1.trans hP1.out, hT2.own hol.out⟩
      clear hS2 hT2 e1 hol hT1 hP1 c2
      go_wp2_with fail
      generalize (Value.slice (some ⟨wr.heap.size, 0, none⟩) 1 1) = lv0 at *
      go_loopg [4, 5] p (fun g lv xv wr => ∃ (k : Nat) (d2 : Dt), 1 ≤ k ∧ k ≤ p ∧ p - k ≤ g ∧ xv = .int .i64 ((it (hfn R pos) k v : Nat) : Int) ∧ St w0 wr c R A pos out d2 ∧ Step c R A w wr d d2 ∧ d2.P = [] ∧ OwnO (SA c R A d2) wr w.heap.size 3 1 lv (cycl (hfn R pos) v k).length ((cycl (hfn R pos) v k).map (Value.int .i64)))
      case atStart =>
        obtain ⟨d2, q1, q2, q3, q4⟩ := HX.out
        exact ⟨1, d2, Nat.le_refl _, p1, Nat.sub_le _ _, rfl, q1, q2, q3, q4⟩
      case round =>
        clear HX
        obtain ⟨k, d2, hk1, hkp, hg, rfl, hS, hT, hP, ho⟩ := hrel
        by_cases hkv : it (hfn R pos) k v = v
        · have hkp2 : k = p := by
            rcases Nat.lt_or_ge k p with q | q
            · exact absurd hkv (HP.out.2 k (by omega) q)
            · omega
          subst hkp2
          have hC : Hid (IsCyc R A (cycl (hfn R pos) v k)) := cycl_is hk1 HP.out.1 HP.out.2 (fun j => HA.out _ (HTV.out j)) (fun j => (HL.out _ (HTV.out j)).2.1)
          have HO : Hid (Own wr w.heap.size u4 (cycl (hfn R pos) v k)) := ho.1
          have HB := Lib.hid (hT.low HS.out)
          rw [hkv]
          have d0 : ((v : Int) != (v : Int)) = false := by simp
          clear hS hT hP ho
          go_wp2_with fail
          go_ret
          exact ⟨_, _, rfl, HO.out, hC.out, HB.out⟩
        · have hkp2 : k < p := by
            rcases Nat.lt_or_ge k p with q | q
            · exact q
            · exact absurd (by rw [show k = p by omega]; exact HP.out.1) hkv
          have hl := HTV.out k
          obtain ⟨_, _, hq⟩ := HL.out _ hl
          have hcs := Lib.hid (cycl_step (hfn R pos) v k)
          have hst : it (hfn R pos) (k + 1) v = hfn R pos (it (hfn R pos) k v) := rfl
          rw [← hst] at hq
          have hcl := cycl_len (hfn R pos) v k
          generalize cycl (hfn R pos) v k = C at *
          generalize it (hfn R pos) k v = z at *
          generalize hz2 : it (hfn R pos) (k + 1) v = z2 at *
          have HZ2 := Lib.hid hz2
          clear hst hz2
          have d0 : ((z : Int) != (v : Int)) = true := by simp; omega
          obtain ⟨la, lc, rfl⟩ := (ownsRow_slc ho.1).form
          have hbase : w.heap.size ≤ wr.heap.size := hT.t.size
          have hfoot : ∀ j, SA c R A d2 j → j < wr.heap.size := fun j q => (hS.foot j q).2
          have hnxt : ∀ (v4 : Value) (w4 : World), OwnO (SA c R A d2) w4 w.heap.size 3 1 v4 (C.length + 1) (C.map (Value.int .i64) ++ [.int .i64 (z : Int)]) → Turn (fun j => (Value.slice la C.length lc).ownBlock = some j) wr w4 →
              St w0 w4 c R A pos out d2 ∧ Step c R A w w4 d d2 := fun v4 w4 o4 t4 =>
            ⟨hS.other t4 (fun j q => (ho.2 j q).2) (fun j q => Nat.le_trans hsz (World.ownsRow.lt ho.1 j q).1), hT.new t4 (fun j q => (World.ownsRow.lt ho.1 j q).1)⟩
          have hcb : C.length ≤ 20000 := by omega
          clear hcl
          have HO := Lib.hid ho
          have HN := Lib.hid hnxt
          have HPP := Lib.hid hP
          have HK := Lib.hid (And.intro hk1 (And.intro hkp2 hg))
          have HQ := Lib.hid hq
          have HLL := Lib.hid hl
          clear hS hT hP ho hnxt hk1 hkp hg hq hl hkv hkp2
          go_wp2_with
            (at_builtin
             refine wpList_push1 (w := wr) rfl (.tmp 52) (.tmp 54) 23 rfl (SA c R A d2) w.heap.size 3 1 8 (.int .i64 0) Try.underlying23 int_info rfl (by decide) [.int .i64 (z : Int)] rfl _ _ _ rfl HO.out (by simp [Act.eval]) (by intro u hu; simp at hu; subst hu; rfl) (by omega) (by decide) hbase hfoot ?_
             intro v4 w4 o4 t4 l4
             obtain ⟨hS4, hT4⟩ := HN.out v4 w4 o4 t4
             have hho := holder_c hI hS4 HLL.out.1 (HA.out _ HLL.out)
             rw [HQ.out] at hho
             simp only [Option.getD_some, Option.isSome_some] at hho
             have c2 := hS4.ob.h2
             have HT4 := Lib.hid hT4
             have HO4 := Lib.hid o4
             clear o4 t4 l4 hS4 hT4)
          refine hho.mono ?_; clear hho; rintro e w5 ⟨rfl, d3, hS5, hT5, e1, _, _, _⟩
          have HX : Hid (St w0 w5 c R A pos out d3 ∧ Step c R A w w5 d d3 ∧ d3.P = [] ∧ OwnO (SA c R A d3) w5 w.heap.size 3 1 v4 (C.length + 1) (C.map (Value.int .i64) ++ [.int .i64 (z : Int)])) :=
            ⟨hS5, HT4.out.trans hT5, e1.trans HPP.out, hT5.own HO4.out⟩
          clear hS5 hT5 e1 c2
          go_wp2_with fail
          go_roundg (p - (k + 1))
          case measure => have := HK.out; omega
          case rel =>
            obtain ⟨q1, q2, q3, q4⟩ := HX.out
            refine ⟨k + 1, d3, by omega, by have := HK.out; omega, Nat.le_refl _, by rw [HZ2.out], q1, q2, q3, ?_⟩
            rw [hcs.out, List.length_append, List.map_append]; exact q4
end
end Go.Proofs.Ythaepdkeakmfaaa
