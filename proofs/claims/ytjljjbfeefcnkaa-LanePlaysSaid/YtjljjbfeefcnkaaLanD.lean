/-
  Two queues apart, beside blocks that no call of theirs turns; what layer 10's own 'do' answers over a queue's contracts. The conditions: the contracts.
-/
import Derived.Test.YtjljjbfeefcnkaaLanT
namespace Go.Proofs.Ytjljjbfeefcnkaa
open Go.RowKit
set_option linter.unusedSimpArgs false
set_option linter.unusedVariables false

/-- Two queues apart, at B with L, at C with M, beside the blocks of K. -/
def TwoK (T : QueI) (K : Nat → Prop) (w0 w : World) (B C : Nat) (m n : Int) (L M : List Int) : Prop :=
  ∃ F G, T.Rep w B m L F ∧ T.Rep w C n M G ∧ (∀ j, F j → ¬ G j) ∧ Below w0.heap.size w0 w ∧ (∀ j, F j → w0.heap.size ≤ j) ∧ (∀ j, G j → w0.heap.size ≤ j) ∧ ∀ j, K j → j < w.heap.size ∧ ¬ F j ∧ ¬ G j
section
variable {T : QueI} {K : Nat → Prop} {w0 w w' : World} {B C : Nat} {m n : Int} {L M : List Int}
theorem TwoK.hb (h : TwoK T K w0 w B C m n L M) : Below w0.heap.size w0 w := by obtain ⟨_, _, _, _, _, h, _⟩ := h; exact h
theorem TwoK.inv (h : TwoK T K w0 w B C m n L M) : (1 ≤ m ∧ m ≤ 1000 ∧ (L.length : Int) ≤ m ∧ ∀ x ∈ L, InR x) ∧ 1 ≤ n ∧ n ≤ 1000 ∧ (M.length : Int) ≤ n ∧ ∀ x ∈ M, InR x := by obtain ⟨_, _, h, k, _⟩ := h; exact ⟨T.inv h, T.inv k⟩
theorem TwoK.of (h : Two T w0 w B C m n L M) : TwoK T (fun j => j < w0.heap.size) w0 w B C m n L M := by
  obtain ⟨F, G, h1, h2, h3, h4, h5, h6⟩ := h
  exact ⟨F, G, h1, h2, h3, h4, h5, h6, fun j q => ⟨Nat.lt_of_lt_of_le q h4.size, fun r => by have := h5 j r; omega, fun r => by have := h6 j r; omega⟩⟩
/-- New blocks are kept, too. -/
theorem TwoK.more {K' : Nat → Prop} (h : TwoK T K w0 w B C m n L M) (hb : Below w.heap.size w w') (hK : ∀ j, K' j → K j ∨ (w.heap.size ≤ j ∧ j < w'.heap.size)) : TwoK T K' w0 w' B C m n L M := by
  obtain ⟨F, G, h1, h2, h3, h4, h5, h6, h7⟩ := h
  refine ⟨F, G, T.below h1 hb, T.below h2 hb, h3, h4.trans (hb.mono h4.size), h5, h6, fun j q => (hK j q).elim (fun q => ⟨Nat.lt_of_lt_of_le (h7 j q).1 hb.size, (h7 j q).2⟩) (fun q => ⟨q.2, fun r => ?_, fun r => ?_⟩)⟩
  · have := T.foot h1 j r; omega
  · have := T.foot h2 j r; omega
theorem TwoK.below (h : TwoK T K w0 w B C m n L M) (hb : Below w.heap.size w w') : TwoK T K w0 w' B C m n L M := h.more hb (fun j q => Or.inl q)
/-- Kept blocks are turned. -/
theorem TwoK.turned {S : Nat → Prop} (h : TwoK T K w0 w B C m n L M) (t : Turn S w w') (hS : ∀ j, S j → K j ∧ w0.heap.size ≤ j) : TwoK T K w0 w' B C m n L M := by
  obtain ⟨F, G, h1, h2, h3, h4, h5, h6, h7⟩ := h
  exact ⟨F, G, T.turn h1 t (fun j q r => (h7 j (hS j r).1).2.1 q), T.turn h2 t (fun j q r => (h7 j (hS j r).1).2.2 q), h3, h4.trans (t.below (fun j q => (hS j q).2) h4.size), h5, h6, fun j q => ⟨Nat.lt_of_lt_of_le (h7 j q).1 t.size, (h7 j q).2⟩⟩
theorem TwoK.turnA {F F' G : Nat → Prop} {L' : List Int} (h1 : T.Rep w B m L F) (h2 : T.Rep w C n M G) (h3 : ∀ j, F j → ¬ G j) (h4 : Below w0.heap.size w0 w) (h5 : ∀ j, F j → w0.heap.size ≤ j) (h6 : ∀ j, G j → w0.heap.size ≤ j) (h7 : ∀ j, K j → j < w.heap.size ∧ ¬ F j ∧ ¬ G j)
    (r : T.Rep w' B m L' F') (t : Turn F w w') (f : ∀ j, F' j → F j ∨ w.heap.size ≤ j) : TwoK T K w0 w' B C m n L' M ∧ Turn (fun j => ¬ K j) w w' :=
  ⟨⟨F', G, r, T.turn h2 t (fun j q r => h3 j r q), fun j q s => (f j q).elim (fun q => h3 j q s) (fun q => by have := T.foot h2 j s; omega), h4.trans (t.below h5 h4.size), fun j q => (f j q).elim (h5 j) (fun q => Nat.le_trans h4.size q), h6,
    fun j q => ⟨Nat.lt_of_lt_of_le (h7 j q).1 t.size, fun r => (f j r).elim (h7 j q).2.1 (fun r => by have := (h7 j q).1; omega), (h7 j q).2.2⟩⟩, t.mono (fun j q r => (h7 j r).2.1 q)⟩
theorem TwoK.turnB {F G G' : Nat → Prop} {M' : List Int} (h1 : T.Rep w B m L F) (h2 : T.Rep w C n M G) (h3 : ∀ j, F j → ¬ G j) (h4 : Below w0.heap.size w0 w) (h5 : ∀ j, F j → w0.heap.size ≤ j) (h6 : ∀ j, G j → w0.heap.size ≤ j) (h7 : ∀ j, K j → j < w.heap.size ∧ ¬ F j ∧ ¬ G j)
    (r : T.Rep w' C n M' G') (t : Turn G w w') (f : ∀ j, G' j → G j ∨ w.heap.size ≤ j) : TwoK T K w0 w' B C m n L M' ∧ Turn (fun j => ¬ K j) w w' :=
  ⟨⟨F, G', T.turn h1 t h3, r, fun j q s => (f j s).elim (h3 j q) (fun s => by have := T.foot h1 j q; omega), h4.trans (t.below h6 h4.size), h5, fun j q => (f j q).elim (h6 j) (fun q => Nat.le_trans h4.size q),
    fun j q => ⟨Nat.lt_of_lt_of_le (h7 j q).1 t.size, (h7 j q).2.1, fun r => (f j r).elim (h7 j q).2.2 (fun r => by have := (h7 j q).1; omega)⟩⟩, t.mono (fun j q r => (h7 j r).2.2 q)⟩
theorem TwoK.putA (h : TwoK T K w0 w B C m n L M) (x : Int) (hx : InR x) : Calls Try.prog 18 #[.pointer (some ⟨B, 0, none⟩), .int .i64 x] w fun e w' => e = .returned (.int .i64 (qpe L m)) ∧ TwoK T K w0 w' B C m n (qput L m x) M ∧ Turn (fun j => ¬ K j) w w' := by
  obtain ⟨F, G, h1, h2, h3, h4, h5, h6, h7⟩ := h
  exact (T.put x h1 hx).mono fun e w' ⟨he, F', r, t, f⟩ => ⟨he, TwoK.turnA h1 h2 h3 h4 h5 h6 h7 r t f⟩
theorem TwoK.putB (h : TwoK T K w0 w B C m n L M) (x : Int) (hx : InR x) : Calls Try.prog 18 #[.pointer (some ⟨C, 0, none⟩), .int .i64 x] w fun e w' => e = .returned (.int .i64 (qpe M n)) ∧ TwoK T K w0 w' B C m n L (qput M n x) ∧ Turn (fun j => ¬ K j) w w' := by
  obtain ⟨F, G, h1, h2, h3, h4, h5, h6, h7⟩ := h
  exact (T.put x h2 hx).mono fun e w' ⟨he, F', r, t, f⟩ => ⟨he, TwoK.turnB h1 h2 h3 h4 h5 h6 h7 r t f⟩
theorem TwoK.takeA (h : TwoK T K w0 w B C m n L M) : Calls Try.prog 21 #[.pointer (some ⟨B, 0, none⟩)] w fun e w' => e = .returned (.tuple #[.int .i64 (L.headD 0), .bool (decide (0 < L.length))]) ∧ TwoK T K w0 w' B C m n L.tail M ∧ Turn (fun j => ¬ K j) w w' := by
  obtain ⟨F, G, h1, h2, h3, h4, h5, h6, h7⟩ := h
  exact (T.take h1).mono fun e w' ⟨he, F', r, t, f⟩ => ⟨he, TwoK.turnA h1 h2 h3 h4 h5 h6 h7 r t f⟩
theorem TwoK.takeB (h : TwoK T K w0 w B C m n L M) : Calls Try.prog 21 #[.pointer (some ⟨C, 0, none⟩)] w fun e w' => e = .returned (.tuple #[.int .i64 (M.headD 0), .bool (decide (0 < M.length))]) ∧ TwoK T K w0 w' B C m n L M.tail ∧ Turn (fun j => ¬ K j) w w' := by
  obtain ⟨F, G, h1, h2, h3, h4, h5, h6, h7⟩ := h
  exact (T.take h2).mono fun e w' ⟨he, F', r, t, f⟩ => ⟨he, TwoK.turnB h1 h2 h3 h4 h5 h6 h7 r t f⟩
theorem TwoK.either (hE : EithC T) (h : TwoK T K w0 w B C m n L M) :
    Calls Try.prog 19 #[.pointer (some ⟨B, 0, none⟩), .pointer (some ⟨C, 0, none⟩)] w fun e w' => e = .returned (.tuple #[.int .i64 (eiv L M), .bool (eib L M)]) ∧ TwoK T K w0 w' B C m n (eiL L) (eiM L M) ∧ Turn (fun j => ¬ K j) w w' := by
  obtain ⟨F, G, h1, h2, h3, h4, h5, h6, h7⟩ := h
  exact (hE h1 h2 h3).mono fun e w' ⟨he, F', G', r, s, d, t, f, g⟩ => ⟨he, ⟨F', G', r, s, d, h4.trans (t.below (fun j q => q.elim (h5 j) (h6 j)) h4.size), fun j q => (f j q).elim (h5 j) (fun q => Nat.le_trans h4.size q), fun j q => (g j q).elim (h6 j) (fun q => Nat.le_trans h4.size q),
    fun j q => ⟨Nat.lt_of_lt_of_le (h7 j q).1 t.size, fun r => (f j r).elim (h7 j q).2.1 (fun r => by have := (h7 j q).1; omega), fun r => (g j r).elim (h7 j q).2.2 (fun r => by have := (h7 j q).1; omega)⟩⟩, t.mono (fun j q r => q.elim (h7 j r).2.1 (h7 j r).2.2)⟩
theorem TwoK.lenA (h : TwoK T K w0 w B C m n L M) : Calls Try.prog 11 #[.pointer (some ⟨B, 0, none⟩)] w fun e w' => e = .returned (.int .i64 (L.length : Int)) ∧ Below w.heap.size w w' := by obtain ⟨F, G, h1, _⟩ := h; exact T.len h1
theorem TwoK.lenB (h : TwoK T K w0 w B C m n L M) : Calls Try.prog 11 #[.pointer (some ⟨C, 0, none⟩)] w fun e w' => e = .returned (.int .i64 (M.length : Int)) ∧ Below w.heap.size w w' := by obtain ⟨F, G, h1, h2, _⟩ := h; exact T.len h2
theorem TwoK.roomA (h : TwoK T K w0 w B C m n L M) : Calls Try.prog 12 #[.pointer (some ⟨B, 0, none⟩)] w fun e w' => e = .returned (.int .i64 m) ∧ Below w.heap.size w w' := by obtain ⟨F, G, h1, _⟩ := h; exact T.room h1
theorem TwoK.roomB (h : TwoK T K w0 w B C m n L M) : Calls Try.prog 12 #[.pointer (some ⟨C, 0, none⟩)] w fun e w' => e = .returned (.int .i64 n) ∧ Below w.heap.size w w' := by obtain ⟨F, G, h1, h2, _⟩ := h; exact T.room h2
end

/-- What a call tells (a thing, an error, whether there was one), and leaves in both queues. -/
def laX (d : Int) (L M : List Int) : Int := if d = 0 then 0 else if d = 1 then 0 else if d = 2 then L.headD 0 else if d = 3 then M.headD 0 else eiv L M
def laE (d m n : Int) (L M : List Int) : Int := if d = 0 then qpe L m else if d = 1 then qpe M n else 0
def laB (d : Int) (L M : List Int) : Bool := if d = 0 then false else if d = 1 then false else if d = 2 then decide (0 < L.length) else if d = 3 then decide (0 < M.length) else eib L M
def laL (d m x : Int) (L : List Int) : List Int := if d = 0 then qput L m x else if d = 1 then L else if d = 2 then L.tail else if d = 3 then L else eiL L
def laM (d n x : Int) (L M : List Int) : List Int := if d = 0 then M else if d = 1 then qput M n x else if d = 2 then M else if d = 3 then M.tail else eiM L M

set_option maxHeartbeats 1000000 in
theorem do10 {T : QueI} (hE : EithC T) {K : Nat → Prop} (d x m n : Int) {w0 w : World} {B C : Nat} {L M : List Int} (h : TwoK T K w0 w B C m n L M) (hx : InR x) :
    Calls Try.prog 9 #[.pointer (some ⟨B, 0, none⟩), .pointer (some ⟨C, 0, none⟩), .agg #[.int .i64 d, .int .i64 x]] w fun e w' =>
      e = .returned (.tuple #[.int .i64 (laX d L M), .int .i64 (laE d m n L M), .bool (laB d L M)]) ∧ TwoK T K w0 w' B C m n (laL d m x L) (laM d n x L M) ∧ Turn (fun j => ¬ K j) w w' := by
  have hb := below1 w (.cells #[.int .i64 d, .int .i64 x] 38)
  have h1 := h.below hb
  have HT : Hid (∀ w', Turn (fun j => ¬ K j) (w.alloc (.cells #[.int .i64 d, .int .i64 x] 38)) w' → Turn (fun j => ¬ K j) w w') := fun w' t => (Turn.of_below hb).trans t (fun j q => Or.inl q)
  obtain ⟨x0, x1, x2⟩ := At2.new w (.int .i64 d) (.int .i64 x) 38
  unfold laX laE laB laL laM
  by_cases h0 : d = 0
  · subst h0
    simp only [if_true]
    have hc := h1.putA x hx
    clear h h1 hx hb
    go_enter Try.func9, Try.ntmps9
    go_wp2_with fail
    refine hc.mono ?_; rintro e w1 ⟨rfl, hR, ht⟩
    clear x0 x1 x2
    go_wp2_with fail
    go_ret3
    exact ⟨rfl, hR, HT.out _ ht⟩
  by_cases h01 : d = 1
  · subst h01
    simp only [if_true, if_neg h0]
    have hc := h1.putB x hx
    clear h h1 hx hb h0
    go_enter Try.func9, Try.ntmps9
    go_wp2_with fail
    refine hc.mono ?_; rintro e w1 ⟨rfl, hR, ht⟩
    clear x0 x1 x2
    go_wp2_with fail
    go_ret3
    exact ⟨rfl, hR, HT.out _ ht⟩
  by_cases h02 : d = 2
  · subst h02
    simp only [if_true, if_neg h0, if_neg h01]
    have hc := h1.takeA
    generalize L.headD 0 = z at hc ⊢
    clear h h1 hx hb h0 h01
    go_enter Try.func9, Try.ntmps9
    go_wp2_with fail
    refine hc.mono ?_; rintro e w1 ⟨rfl, hR, ht⟩
    clear x0 x1 x2
    go_wp2_with fail
    go_ret3
    exact ⟨rfl, hR, HT.out _ ht⟩
  by_cases h03 : d = 3
  · subst h03
    simp only [if_true, if_neg h0, if_neg h01, if_neg h02]
    have hc := h1.takeB
    generalize M.headD 0 = z at hc ⊢
    clear h h1 hx hb h0 h01 h02
    go_enter Try.func9, Try.ntmps9
    go_wp2_with fail
    refine hc.mono ?_; rintro e w1 ⟨rfl, hR, ht⟩
    clear x0 x1 x2
    go_wp2_with fail
    go_ret3
    exact ⟨rfl, hR, HT.out _ ht⟩
  · simp only [if_neg h0, if_neg h01, if_neg h02, if_neg h03]
    have e0 : (d == 0) = false := by simpa using h0
    have e1 : (d == 1) = false := by simpa using h01
    have e2 : (d == 2) = false := by simpa using h02
    have e3 : (d == 3) = false := by simpa using h03
    have hc := h1.either hE
    clear h h1 hx hb h0 h01 h02 h03
    go_enter Try.func9, Try.ntmps9
    go_wp2_with fail
    refine hc.mono ?_; rintro e w1 ⟨rfl, hR, ht⟩
    clear x0 x1 x2
    go_wp2_with fail
    go_ret3
    exact ⟨rfl, hR, HT.out _ ht⟩
end Go.Proofs.Ytjljjbfeefcnkaa
