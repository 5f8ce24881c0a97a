/-
  The landed walk: what it keeps in its blocks; its closure, by which a node comes. The conditions: the blocks.
-/
import Derived.Test.YtpjnpmdpabnjkaaRchA
import Derived.Test.YtpjnpmdpabnjkaaIntB0
namespace Go.Proofs.Ytpjnpmdpabnjkaa
open Go.RowKit
set_option linter.unusedSimpArgs false
set_option linter.unusedVariables false

theorem repeat_o (n : Nat) (hn : n ≤ 20000) (b : Nat) (w : World) (hc : w.cell? ⟨b, 0, none⟩ = some (.int .i64 (-1))) :
    Calls Try.prog 39 #[.slice (some ⟨b, 0, none⟩) 1 1, .int .i64 (n : Int)] w fun e w' => ∃ g, e = .returned (.slice (some ⟨g, 0, none⟩) n n) ∧ w'.ownsRow w.heap.size 3 1 (.slice (some ⟨g, 0, none⟩) n n) n ((List.replicate n (-1 : Int)).map (Value.int .i64)) ∧ Below w.heap.size w w' :=
  (repeat_i n hn b w hc).mono fun e w' ⟨g, h1, h2, h3, h4⟩ => ⟨g, h1, ⟨by simp, .inr ⟨g, n, _, rfl, h3, h2, Nat.le_refl _, by unfold maxLen; omega, by simp [mcell_len], by simp [mcell, List.take_of_length_le]⟩⟩, h4⟩
/-- The walk's own blocks. -/
def WF (b3 b7 b8 g : Nat) (G : Nat → Prop) (j : Nat) : Prop := j = b3 ∨ j = b7 ∨ j = b8 ∨ j = g ∨ G j
/-- What the walk keeps: the number of nodes, the steps (S, in block g), those that came (Q); the blocks of G lie elsewhere. -/
structure WP (w0 w : World) (b3 b7 b8 g n : Nat) (G : Nat → Prop) (S Q : List Int) (ra : Option Addr) (rc : Nat) : Prop where
  c3 : w.cell? ⟨b3, 0, none⟩ = some (.int .i64 (n : Int))
  c7 : w.cell? ⟨b7, 0, none⟩ = some (.slice (some ⟨g, 0, none⟩) n n)
  c8 : w.cell? ⟨b8, 0, none⟩ = some (.slice ra Q.length rc)
  z8 : w.frozen? ⟨b8, 0, none⟩ = false
  sg : w.ownsRow w0.heap.size 3 1 (.slice (some ⟨g, 0, none⟩) n n) n (S.map (Value.int .i64))
  own : OwnO (WF b3 b7 b8 g G) w w0.heap.size 3 1 (.slice ra Q.length rc) Q.length (Q.map (Value.int .i64))
  d1 : b3 ≠ b7 ∧ b3 ≠ b8 ∧ b3 ≠ g ∧ b7 ≠ b8 ∧ b7 ≠ g ∧ b8 ≠ g
  d2 : w0.heap.size ≤ b3 ∧ w0.heap.size ≤ b7 ∧ w0.heap.size ≤ b8 ∧ w0.heap.size ≤ g
  gd : ∀ j, G j → j ≠ b8 ∧ j ≠ g ∧ j < w.heap.size
  b : Below w0.heap.size w0 w
section
variable {w0 w w' : World} {b3 b7 b8 g n : Nat} {G G' : Nat → Prop} {S Q : List Int} {ra : Option Addr} {rc : Nat}
theorem WP.foot (h : WP w0 w b3 b7 b8 g n G S Q ra rc) : ∀ j, WF b3 b7 b8 g G j → j < w.heap.size := by
  rintro j (rfl | rfl | rfl | rfl | q)
  · exact World.block_lt_of_cell? w _ h.c3
  · exact World.block_lt_of_cell? w _ h.c7
  · exact World.block_lt_of_cell? w _ h.c8
  · exact (World.ownsRow.lt h.sg _ rfl).2
  · exact (h.gd j q).2.2
theorem WP.slen (h : WP w0 w b3 b7 b8 g n G S Q ra rc) : S.length = n := by have := h.sg.1; simpa using this
/-- Other blocks are turned. -/
theorem WP.keep {T : Nat → Prop} (h : WP w0 w b3 b7 b8 g n G S Q ra rc) (t : Turn T w w') (hT : ∀ j, T j → w0.heap.size ≤ j ∧ ¬ WF b3 b7 b8 g G j ∧ (Value.slice ra Q.length rc).ownBlock ≠ some j) : WP w0 w' b3 b7 b8 g n G S Q ra rc := by
  have l3 := h.foot b3 (Or.inl rfl); have l7 := h.foot b7 (Or.inr (Or.inl rfl)); have l8 := h.foot b8 (Or.inr (Or.inr (Or.inl rfl))); have lg := h.foot g (Or.inr (Or.inr (Or.inr (Or.inl rfl))))
  have n3 : ¬ T b3 := fun q => (hT _ q).2.1 (Or.inl rfl)
  have n7 : ¬ T b7 := fun q => (hT _ q).2.1 (Or.inr (Or.inl rfl))
  have n8 : ¬ T b8 := fun q => (hT _ q).2.1 (Or.inr (Or.inr (Or.inl rfl)))
  have ng : ¬ T g := fun q => (hT _ q).2.1 (Or.inr (Or.inr (Or.inr (Or.inl rfl))))
  exact ⟨(t.cell (a := ⟨b3, 0, none⟩) l3 n3).trans h.c3, (t.cell (a := ⟨b7, 0, none⟩) l7 n7).trans h.c7, (t.cell (a := ⟨b8, 0, none⟩) l8 n8).trans h.c8, (t.frozen (a := ⟨b8, 0, none⟩) l8 n8).trans h.z8,
    own_turn h.sg t (fun b q => by cases q; exact ng), h.own.turn t (fun b q r => (hT b r).2.2 q) (fun j q => Or.inl q), h.d1, h.d2, fun j q => ⟨(h.gd j q).1, (h.gd j q).2.1, Nat.lt_of_lt_of_le (h.gd j q).2.2 t.size⟩,
    h.b.trans (t.below (fun j q => (hT j q).1) h.b.size)⟩
theorem WP.below (h : WP w0 w b3 b7 b8 g n G S Q ra rc) (hb : Below w.heap.size w w') : WP w0 w' b3 b7 b8 g n G S Q ra rc :=
  h.keep (Turn.of_below (F := fun _ => False) hb) fun j q => q.elim
/-- Other blocks lie elsewhere. -/
theorem WP.other (h : WP w0 w b3 b7 b8 g n G S Q ra rc) (hb : Below w.heap.size w w') (hG : ∀ j, G' j → w.heap.size ≤ j ∧ j < w'.heap.size) : WP w0 w' b3 b7 b8 g n G' S Q ra rc := by
  have h2 := h.below hb
  refine ⟨h2.c3, h2.c7, h2.c8, h2.z8, h2.sg, ⟨h2.own.1, fun b q => ⟨(h2.own.2 b q).1, fun r => ?_⟩⟩, h.d1, h.d2, fun j q => ?_, h2.b⟩
  · rcases r with r | r | r | r | r
    · exact (h2.own.2 b q).2 (Or.inl r)
    · exact (h2.own.2 b q).2 (Or.inr (Or.inl r))
    · exact (h2.own.2 b q).2 (Or.inr (Or.inr (Or.inl r)))
    · exact (h2.own.2 b q).2 (Or.inr (Or.inr (Or.inr (Or.inl r))))
    · have := (h.own.2 b q).1; have := (hG b r).1; omega
  · have l8 := h.foot b8 (Or.inr (Or.inr (Or.inl rfl))); have lg := h.foot g (Or.inr (Or.inr (Or.inr (Or.inl rfl))))
    have := hG j q
    exact ⟨by omega, by omega, this.2⟩
theorem WP.noG (h : WP w0 w b3 b7 b8 g n G S Q ra rc) : WP w0 w b3 b7 b8 g n (fun _ => False) S Q ra rc := by
  refine ⟨h.c3, h.c7, h.c8, h.z8, h.sg, ⟨h.own.1, fun b q => ⟨(h.own.2 b q).1, fun r => (h.own.2 b q).2 ?_⟩⟩, h.d1, h.d2, fun j q => q.elim, h.b⟩
  rcases r with r | r | r | r | r
  · exact Or.inl r
  · exact Or.inr (Or.inl r)
  · exact Or.inr (Or.inr (Or.inl r))
  · exact Or.inr (Or.inr (Or.inr (Or.inl r)))
  · exact r.elim
theorem WP.at (h : WP w0 w b3 b7 b8 g n G S Q ra rc) {v : Nat} (hv : v < n) : w.cell? ⟨g, v, none⟩ = some (.int .i64 (S.getD v 0)) ∧ w.frozen? ⟨g, v, none⟩ = false := by
  have hl := h.slen
  refine ⟨?_, World.ownsRow.frozenAt h.sg v⟩
  rw [World.ownsRow.cellAt h.sg v (by omega)]
  simp [List.getD, hl, hv]
theorem WP.qat (h : WP w0 w b3 b7 b8 g n G S Q ra rc) {i : Nat} (hi : i < Q.length) : ∃ r, ra = some ⟨r, 0, none⟩ ∧ w.cell? ⟨r, i, none⟩ = some (.int .i64 (Q.getD i 0)) := by
  have h1 := h.own.1
  rcases h1.2 with ⟨e, h0⟩ | ⟨r, cap, cur, e, _⟩
  · omega
  · cases e
    refine ⟨r, rfl, ?_⟩
    rw [World.ownsRow.cellAt h1 i (by omega)]
    simp [List.getD, hi]
/-- A node's steps are written. -/
theorem WP.store (h : WP w0 w b3 b7 b8 g n G S Q ra rc) (v : Nat) (z : Int) : WP w0 (w.setCell ⟨g, v, none⟩ (.int .i64 z)) b3 b7 b8 g n G (S.set v z) Q ra rc ∧ ∀ j, G j → (w.setCell ⟨g, v, none⟩ (.int .i64 z)).heap[j]? = w.heap[j]? := by
  obtain ⟨hs, hg⟩ := World.ownsRow.stored h.sg v (.int .i64 z)
  have t : Turn (fun j => j = g) w (w.setCell ⟨g, v, none⟩ (.int .i64 z)) := (turn_grown hg).mono fun j q => by cases q; rfl
  have n3 : b3 ≠ g := h.d1.2.2.1
  have n7 : b7 ≠ g := h.d1.2.2.2.2.1
  have n8 : b8 ≠ g := h.d1.2.2.2.2.2
  have l3 := h.foot b3 (Or.inl rfl); have l7 := h.foot b7 (Or.inr (Or.inl rfl)); have l8 := h.foot b8 (Or.inr (Or.inr (Or.inl rfl)))
  refine ⟨⟨(t.cell (a := ⟨b3, 0, none⟩) l3 n3).trans h.c3, (t.cell (a := ⟨b7, 0, none⟩) l7 n7).trans h.c7, (t.cell (a := ⟨b8, 0, none⟩) l8 n8).trans h.c8, (t.frozen (a := ⟨b8, 0, none⟩) l8 n8).trans h.z8,
    by rw [List.map_set]; exact hs, h.own.turn t (fun b q r => (h.own.2 b q).2 (Or.inr (Or.inr (Or.inr (Or.inl r))))) (fun j q => Or.inl q), h.d1, h.d2, fun j q => ⟨(h.gd j q).1, (h.gd j q).2.1, Nat.lt_of_lt_of_le (h.gd j q).2.2 t.size⟩,
    h.b.trans (t.below (fun j q => by rw [q]; exact h.d2.2.2.2) h.b.size)⟩, fun j q => t.block j (h.gd j q).2.2 (h.gd j q).2.1⟩
/-- A node is put behind those that came. -/
theorem WP.push (h : WP w0 w b3 b7 b8 g n G S Q ra rc) {x : Int} {ra' : Option Addr} {rc' : Nat} (t : Turn (fun j => (Value.slice ra Q.length rc).ownBlock = some j) w w') (ho : OwnO (WF b3 b7 b8 g G) w' w0.heap.size 3 1 (.slice ra' (Q.length + 1) rc') (Q.length + 1) (Q.map (Value.int .i64) ++ [.int .i64 x])) :
    WP w0 (w'.setCell ⟨b8, 0, none⟩ (.slice ra' (Q.length + 1) rc')) b3 b7 b8 g n G S (Q ++ [x]) ra' rc' ∧ ∀ j, G j → (w'.setCell ⟨b8, 0, none⟩ (.slice ra' (Q.length + 1) rc')).heap[j]? = w.heap[j]? := by
  have hout : ∀ j, WF b3 b7 b8 g G j → ¬ (Value.slice ra Q.length rc).ownBlock = some j := fun j q r => (h.own.2 j r).2 q
  have l3 := h.foot b3 (Or.inl rfl); have l7 := h.foot b7 (Or.inr (Or.inl rfl)); have l8 := h.foot b8 (Or.inr (Or.inr (Or.inl rfl)))
  have u3 := (t.cell (a := ⟨b3, 0, none⟩) l3 (hout b3 (Or.inl rfl))).trans h.c3
  have u7 := (t.cell (a := ⟨b7, 0, none⟩) l7 (hout b7 (Or.inr (Or.inl rfl)))).trans h.c7
  have u8 := (t.cell (a := ⟨b8, 0, none⟩) l8 (hout b8 (Or.inr (Or.inr (Or.inl rfl))))).trans h.c8
  have v8 := (t.frozen (a := ⟨b8, 0, none⟩) l8 (hout b8 (Or.inr (Or.inr (Or.inl rfl))))).trans h.z8
  have ug := own_turn h.sg t (fun b q => by cases q; exact hout g (Or.inr (Or.inr (Or.inr (Or.inl rfl)))))
  have t2 : Turn (fun j => j = b8) w' (w'.setCell ⟨b8, 0, none⟩ (.slice ra' (Q.length + 1) rc')) := turn_set (F := fun j => j = b8) (p := ⟨b8, 0, none⟩) (Turn.refl _ _) (Or.inl (show b8 = b8 from rfl)) _
  have hb1 : Below w0.heap.size w0 w' := h.b.trans (t.below (fun j q => (World.ownsRow.lt h.own.1 j q).1) h.b.size)
  refine ⟨⟨(t2.cell (a := ⟨b3, 0, none⟩) (Nat.lt_of_lt_of_le l3 t.size) h.d1.2.1).trans u3, (t2.cell (a := ⟨b7, 0, none⟩) (Nat.lt_of_lt_of_le l7 t.size) h.d1.2.2.2.1).trans u7, ?_, (World.frozen?_setCell _ _ _ _).trans v8,
    own_turn ug t2 (fun b q => by cases q; exact fun r => h.d1.2.2.2.2.2 r.symm), ?_, h.d1, h.d2, fun j q => ⟨(h.gd j q).1, (h.gd j q).2.1, Nat.lt_of_lt_of_le (h.gd j q).2.2 (Nat.le_trans t.size t2.size)⟩,
    hb1.trans (t2.below (fun j q => by rw [q]; exact h.d2.2.2.1) hb1.size)⟩, fun j q => (t2.block j (Nat.lt_of_lt_of_le (h.gd j q).2.2 t.size) (h.gd j q).1).trans (t.block j (h.gd j q).2.2 (hout j (Or.inr (Or.inr (Or.inr (Or.inr q))))))⟩
  · rw [World.cell?_setCell_same _ _ _ u8]; simp
  · have := ho.turn t2 (fun b q r => (ho.2 b q).2 (Or.inr (Or.inr (Or.inl r)))) (fun j q => Or.inl q) (F' := WF b3 b7 b8 g G)
    simpa using this
set_option maxHeartbeats 4000000 in
set_option maxRecDepth 100000 in
theorem come_w (h : WP w0 w b3 b7 b8 g n G S Q ra rc) (hn : n ≤ 20000) (x : Int) (F : Nat) (hQ : Q.length ≤ 20000) :
    Calls Try.prog 40 #[.int .i64 x, .int .i64 (F : Int), .pointer (some ⟨b3, 0, none⟩), .pointer (some ⟨b7, 0, none⟩), .pointer (some ⟨b8, 0, none⟩)] w fun e w' => e = .returned (.tuple #[]) ∧ ∃ ra' rc', WP w0 w' b3 b7 b8 g n G (cS S x F) (cQ S Q x) ra' rc' ∧ ∀ j, G j → w'.heap[j]? = w.heap[j]? := by
  have hl := h.slen
  have c3 := h.c3; have c7 := h.c7; have c8 := h.c8; have z8 := h.z8
  by_cases h0 : 0 ≤ x
  · by_cases h1 : x < (n : Int)
    · obtain ⟨v, rfl⟩ := Int.eq_ofNat_of_zero_le h0
      have hv : v < n := by omega
      obtain ⟨cv, zv⟩ := h.at hv
      by_cases h2 : S.getD v 0 = -1
      · rw [h2] at cv
        have hc : gnd S.length (v : Int) ∧ S.getD ((v : Nat) : Int).toNat 0 = -1 := ⟨⟨h0, by rw [hl]; exact h1⟩, by rw [Int.toNat_natCast]; exact h2⟩
        unfold cS cQ
        rw [if_pos hc, if_pos hc, Int.toNat_natCast]
        have hst := h.store v (F : Int)
        have hb8 : b8 ≠ g := h.d1.2.2.2.2.2
        have u8 : (w.setCell ⟨g, v, none⟩ (.int .i64 (F : Int))).cell? ⟨b8, 0, none⟩ = some (.slice ra Q.length rc) := hst.1.c8
        have v8 : (w.setCell ⟨g, v, none⟩ (.int .i64 (F : Int))).frozen? ⟨b8, 0, none⟩ = false := hst.1.z8
        have hft := Lib.hid hst.1.foot
        have hsz := Lib.hid hst.1.b.size
        have HS := Lib.hid hst
        have ho := Lib.hid hst.1.own
        have h1 : decide ((v : Int) < (n : Int)) = true := decide_eq_true (by omega)
        clear hst h hc hl h2
        go_enter Try.func40, Try.ntmps40
        go_wp2_with
          (at_builtin
           refine wpList_push1 (w := w.setCell ⟨g, v, none⟩ (.int .i64 (F : Int))) rfl (.tmp 25) (.tmp 27) 23 rfl (WF b3 b7 b8 g G) w0.heap.size 3 1 8 (.int .i64 0) Try.underlying23 int_info rfl (by decide) [.int .i64 (v : Int)] rfl _ _ _ rfl ho.out (by simp [Act.eval]) (by intro u hu; simp at hu; subst hu; rfl) (by omega) (by decide) hsz.out hft.out ?_
           intro v4 w4 o4 t4 l4
           obtain ⟨ra', rc', rfl⟩ := (ownsRow_slc o4.1).form
           have hp := HS.out.1.push t4 o4
           have q8 : w4.cell? ⟨b8, 0, none⟩ = some (.slice ra Q.length rc) := (t4.cell (a := ⟨b8, 0, none⟩) (hft.out b8 (Or.inr (Or.inr (Or.inl rfl)))) (fun r => (ho.out.2 b8 r).2 (Or.inr (Or.inr (Or.inl rfl))))).trans u8
           have y8 : w4.frozen? ⟨b8, 0, none⟩ = false := (t4.frozen (a := ⟨b8, 0, none⟩) (hft.out b8 (Or.inr (Or.inr (Or.inl rfl)))) (fun r => (ho.out.2 b8 r).2 (Or.inr (Or.inr (Or.inl rfl))))).trans v8
           have HP := Lib.hid hp
           clear o4 t4 l4 hp)
        go_end0
        exact ⟨rfl, ra', rc', HP.out.1, fun j q => (HP.out.2 j q).trans (HS.out.2 j q)⟩
      · have d2 : (S.getD v 0 == -1) = false := by simpa using h2
        have hc : ¬ (gnd S.length (v : Int) ∧ S.getD ((v : Nat) : Int).toNat 0 = -1) := fun q => h2 (by simpa using q.2)
        unfold cS cQ
        rw [if_neg hc, if_neg hc]
        have H := Lib.hid h
        have h1 : decide ((v : Int) < (n : Int)) = true := decide_eq_true (by omega)
        generalize S.getD v 0 = z at *
        clear h hc hl
        go_enter Try.func40, Try.ntmps40
        go_wp2_with fail
        go_end0
        first | exact ⟨rfl, ra, rc, H.out, fun j q => rfl⟩ | exact ⟨rfl, ⟨ra, rc, H.out⟩, fun j q => rfl⟩
    · have hc : ¬ (gnd S.length x ∧ S.getD x.toNat 0 = -1) := fun q => h1 (by have := q.1.2; rw [hl] at this; exact this)
      unfold cS cQ
      rw [if_neg hc, if_neg hc]
      have H := Lib.hid h
      have h1 : decide (x < (n : Int)) = false := decide_eq_false h1
      clear h hc hl
      go_enter Try.func40, Try.ntmps40
      go_wp2_with fail
      go_end0
      first | exact ⟨rfl, ra, rc, H.out, fun j q => rfl⟩ | exact ⟨rfl, ⟨ra, rc, H.out⟩, fun j q => rfl⟩
  · have hc : ¬ (gnd S.length x ∧ S.getD x.toNat 0 = -1) := fun q => h0 q.1.1
    unfold cS cQ
    rw [if_neg hc, if_neg hc]
    have H := Lib.hid h
    have h0 : decide (0 ≤ x) = false := decide_eq_false h0
    clear h hc hl
    go_enter Try.func40, Try.ntmps40
    go_wp2_with fail
    go_end0
    first | exact ⟨rfl, ra, rc, H.out, fun j q => rfl⟩ | exact ⟨rfl, ⟨ra, rc, H.out⟩, fun j q => rfl⟩
end
end Go.Proofs.Ytpjnpmdpabnjkaa
