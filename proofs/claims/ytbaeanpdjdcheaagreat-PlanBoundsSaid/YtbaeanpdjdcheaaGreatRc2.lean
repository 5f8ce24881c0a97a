/-
  The library's Repeat of one number, the product of two words it stands on. The conditions: no more than 20000. The landed walk: what it keeps in its blocks; its closure, by which a node comes. The conditions: the blocks. The landed package's list of the nodes that are reached. The condition: no more than 20000 steps. The landed walk, for whatever way it goes. The conditions: no more than 20000 nodes; what each node leads to is told by a call that changes nothing. The landed package's Reach, Needs, Steps of a graph that was made, and of none. The condition: at most 10^6 numbers.
-/
import Derived.Test.YtbaeanpdjdcheaaGreatRc1
import Derived.Lib.Mul64
import Derived.Laws.Bits64b
import Derived.Laws.CopyOwn
import Derived.Deep.RegionLaw
import Derived.Test.YtbaeanpdjdcheaaGreatIntB0
import Derived.WalkSpells
import Derived.Test.YtbaeanpdjdcheaaGreatGrZ
namespace Go.Proofs.YtbaeanpdjdcheaaGreat
open Go.RowKit
set_option linter.unusedSimpArgs false
set_option linter.unusedVariables false

/- The library's Repeat of one number, the product of two words it stands on. The conditions: no more than 20000. -/
theorem mask_n (a : Nat) (ha : a < 18446744073709551616) : bits .and .u64 (a : Int) 4294967295 = ((a % 4294967296 : Nat) : Int) := by
  have h := bits_and_u64_nat a 4294967295 ha (by omega)
  rw [show a &&& 4294967295 = a % 4294967296 from Nat.and_two_pow_sub_one_eq_mod a 32] at h
  exact h
theorem div_n (a : Nat) : (a : Int) / 4294967296 = ((a / 4294967296 : Nat) : Int) := by omega
theorem mul_n (a b : Nat) : (a : Int) * (b : Int) = ((a * b : Nat) : Int) := (Int.natCast_mul a b).symm
theorem add_n (a b : Nat) : (a : Int) + (b : Int) = ((a + b : Nat) : Int) := (Int.natCast_add a b).symm
theorem wrap_n (a : Nat) (ha : a < 18446744073709551616) : IntKind.u64.wrap (a : Int) = (a : Int) := by rw [IntKind.wrap_u64]; omega
theorem wrap_m (a : Nat) : IntKind.u64.wrap (a : Int) = ((a % 18446744073709551616 : Nat) : Int) := by rw [IntKind.wrap_u64]; omega
set_option maxHeartbeats 1000000 in
theorem mul64_any (x y : Nat) (hx : x < 18446744073709551616) (hy : y < 18446744073709551616) (w : World) :
    Calls Tryz.prog 93 #[.int .u64 x, .int .u64 y] w fun e w' => e = .returned (.tuple #[.int .u64 ((x * y / 18446744073709551616 : Nat) : Int), .int .u64 ((x * y % 18446744073709551616 : Nat) : Int)]) ∧ w' = w := by
  obtain ⟨bd, bt, bw, hhi⟩ := Lib.mul64_hi x y hx hy
  have ba := Lib.half_mul_le (a := x / 4294967296) (b := y / 4294967296) (by omega) (by omega)
  have bb := Lib.half_mul_le (a := x / 4294967296) (b := y % 4294967296) (by omega) (by omega)
  have bc := Lib.half_mul_le (a := x % 4294967296) (b := y / 4294967296) (by omega) (by omega)
  have ba' : x / 4294967296 * (y / 4294967296) < 18446744073709551616 := by omega
  have bb' : x / 4294967296 * (y % 4294967296) < 18446744073709551616 := by omega
  have bc' : x % 4294967296 * (y / 4294967296) < 18446744073709551616 := by omega
  have bh1 : x / 4294967296 * (y / 4294967296) + (x / 4294967296 * (y % 4294967296) + x % 4294967296 * (y % 4294967296) / 4294967296) / 4294967296 < 18446744073709551616 := by omega
  have bh : x / 4294967296 * (y / 4294967296) + (x / 4294967296 * (y % 4294967296) + x % 4294967296 * (y % 4294967296) / 4294967296) / 4294967296 + ((x / 4294967296 * (y % 4294967296) + x % 4294967296 * (y % 4294967296) / 4294967296) % 4294967296 + x % 4294967296 * (y / 4294967296)) / 4294967296 < 18446744073709551616 := by omega
  go_enter Tryz.func93, Tryz.ntmps93
  go_wp2
  simp only [mask_n x hx, mask_n y hy, div_n, mul_n, add_n, wrap_n _ bd, wrap_n _ bb', wrap_n _ bt, mask_n _ bt, wrap_n _ bc', wrap_n _ bw, wrap_n _ ba', wrap_n _ bh1, wrap_n _ bh, wrap_m (x * y)]
  rw [hhi]
  go_ret2
  exact ⟨rfl, rfl⟩
theorem mul_one_n (n : Nat) (hn : n ≤ 1000000) (w : World) :
    Calls Tryz.prog 87 #[.int .u64 1, .int .u64 (n : Int)] w fun e w' => e = .returned (.tuple #[.int .u64 0, .int .u64 (n : Int)]) ∧ w' = w := by
  have h := mul64_any 1 n (by omega) (by omega) w
  rw [Nat.one_mul, show n / 18446744073709551616 = 0 by omega, show n % 18446744073709551616 = n by omega] at h
  go_enter Tryz.func87, Tryz.ntmps87
  go_wp2_with fail
  refine h.mono ?_; rintro e w1 ⟨rfl, rfl⟩
  go_wp2_with fail
  exact bodyPost_ret (v := .tuple #[.int .u64 0, .int .u64 (n : Int)]) (by simp [results, Tryz.results87, go_sem]) rfl ⟨rfl, rfl⟩

/-- n cells, of which the first k are written. -/
def mcell (n k : Nat) : List Value := List.replicate k (Value.int .i64 (-1)) ++ List.replicate (n - k) (Value.int .i64 0)
theorem mcell_len {n k : Nat} (h : k ≤ n) : (mcell n k).length = n := by simp [mcell]; omega
theorem mcell_at {n k j : Nat} (h : j < k) : (mcell n k)[j]? = some (.int .i64 (-1)) := by
  unfold mcell
  rw [List.getElem?_append_left (by simpa using h), List.getElem?_replicate, if_pos h]
theorem mcell_push {n k m : Nat} (h : k + m ≤ n) : splice (mcell n k) k (List.replicate m (Value.int .i64 (-1))) = mcell n (k + m) := by
  unfold splice mcell
  rw [List.take_left' (by simp), List.length_replicate, List.drop_append, List.length_replicate, List.drop_eq_nil_of_le (by simp), List.nil_append, List.drop_replicate, ← List.append_assoc, List.replicate_append_replicate]
  congr 2
  omega
set_option maxHeartbeats 2000000 in
set_option maxRecDepth 100000 in
theorem repeat_i (n : Nat) (hn : n ≤ 20000) (b : Nat) (w : World) (hc : w.cell? ⟨b, 0, none⟩ = some (.int .i64 (-1))) :
    Calls Tryz.prog 78 #[.slice (some ⟨b, 0, none⟩) 1 1, .int .i64 (n : Int)] w fun e w' => ∃ g, e = .returned (.slice (some ⟨g, 0, none⟩) n n) ∧ w'.heap[g]? = some (.cells (mcell n n).toArray 3 (0, 0)) ∧ w.heap.size ≤ g ∧ Below w.heap.size w w' := by
  have hm := mul_one_n n (by omega)
  obtain ⟨ii, hi, hz0, hz1, hz2⟩ := info_parts int_info
  have hmk : ∀ w, (Instr.makeSlice 23 (.int .i64 n) (.int .i64 n)).run Tryz.prog w = .ok (.slice (some ⟨w.heap.size, 0, none⟩) n n) (w.alloc (.cells (madeCells #[.int .i64 0] n) 3)) := fun w => by
    have := run_makeSlice (P := Tryz.prog) (w := w) 23 3 ii (.int .i64 0) Tryz.underlying23 hi hz0 .i64 .i64 n n (by omega) (by omega) (by rw [hz1]; omega) (by rw [hz2]; omega) (by omega)
    rw [hz1] at this; simpa [Value.cells] using this
  have hsz : (Tryz.prog.info? 3).map (·.size) = some 1 := by rw [hi]; simp [hz1]
  clear hi hz0 hz1 hz2 ii
  have d0 : decide ((n : Int) < 0) = false := decide_eq_false (by omega)
  have d1 : decide ((9223372036854775807 : Int) < (n : Int)) = false := decide_eq_false (by omega)
  have d2 : IntKind.u64.wrap (n : Int) = (n : Int) := wrap_n n (by omega)
  have d3 : IntKind.i64.wrap (n : Int) = (n : Int) := by simp [IntKind.wrap, IntKind.signed, IntKind.bits]; omega
  have d4 : wrap64 (n : Int) = (n : Int) := by unfold wrap64; omega
  have hcells : (madeCells #[Value.int .i64 0] n) = (mcell n 0).toArray := by
    apply Array.ext'
    rw [toList_madeCells_one]
    simp [mcell]
  rw [hcells] at hmk
  clear hcells
  have HC := Lib.hid hc
  clear hc
  go_enter Tryz.func78, Tryz.ntmps78
  go_wp2_with fail
  refine (hm _).mono ?_; rintro e w1 ⟨rfl, rfl⟩
  obtain ⟨k0, hk0⟩ : ∃ k0, k0 = Nat.min 1 n := ⟨_, rfl⟩
  have hk1 : k0 ≤ n := by rw [hk0]; exact Nat.min_le_right _ _
  have hk2 : k0 = 0 → n = 0 := by rw [hk0]; intro h; have : Nat.min 1 n = min 1 n := rfl; omega
  have HK0 := Lib.hid hk0
  have HO : Hid (∀ v ∈ List.replicate k0 (Value.int .i64 (-1)), v.oneCell' = true) := fun v hv => by rw [(List.mem_replicate.1 hv).2]; rfl
  have HP0 : Hid (∀ j v, (List.replicate k0 (Value.int .i64 (-1)))[j]? = some v → (w1.alloc (.cells (mcell n 0).toArray 3)).cell? ((⟨b, 0, none⟩ : Addr).add j) = some v) := fun j v hv => by
    have h1 : k0 ≤ 1 := by rw [hk0]; exact Nat.min_le_left _ _
    rw [List.getElem?_replicate] at hv
    split at hv
    · cases hv
      obtain rfl : j = 0 := by omega
      have hc := HC.out
      rw [show (⟨b, 0, none⟩ : Addr).add 0 = ⟨b, 0, none⟩ from rfl]
      exact (World.cell?_alloc_old _ _ _ (Nat.ne_of_lt (World.block_lt_of_cell? w1 _ hc))).trans hc
    · cases hv
  clear hk0
  go_wp2_with
    (refine wpList_copy_splice rfl (.tmp 31) (.tmp 32) 23 23 rfl 3 Tryz.underlying23 hsz _ _ n n 1 1 rfl rfl w1.heap.size 0 (mcell n 0) 3 (heap_alloc_new _ _) (List.replicate k0 (Value.int .i64 (-1))) (by rw [List.length_replicate]; exact HK0.out) (fun _ => ⟨rfl, _, rfl, HP0.out⟩) (by rw [mcell_len (Nat.zero_le _), List.length_replicate]; omega) HO.out w1.heap.size w1 (below1 _ _) (Nat.le_refl _) ?_
     rw [mcell_push (n := n) (k := 0) (m := k0) (by omega), Nat.zero_add]
     intro w2 HG hB
     have hB := Lib.hid hB)
  obtain ⟨g, hge⟩ : ∃ g, g = w1.heap.size := ⟨_, rfl⟩
  rw [← hge] at HG hB ⊢
  have HGE := Lib.hid hge
  clear hge
  clear HK0 HP0 HO hm hmk
  go_loopw [8] (fun i wr => ∃ k : Nat, k ≤ n ∧ (k = 0 → n = 0) ∧ i = .int .i64 (k : Int) ∧ wr.heap[g]? = some (.cells (mcell n k).toArray 3 (0, 0)) ∧ Below g w1 wr) (fun i _ => n - (RowKit.intOf i).toNat)
  case atStart => exact ⟨k0, hk1, hk2, by simp [goInt], HG.out, hB.out⟩
  case round =>
    obtain ⟨k, hk, hk0, rfl, hg, hb⟩ := hrel
    by_cases hlt : k < n
    · obtain ⟨m, hm⟩ : ∃ m, m = Nat.min k (n - k) := ⟨_, rfl⟩
      have hmm : m = min k (n - k) := hm
      have hm1 : 0 < m := by omega
      have hm2 : k + m ≤ n := by omega
      clear hmm
      have HM := Lib.hid hm
      have HG2 := Lib.hid hg
      have HB := Lib.hid hb
      clear hm hg hb hB HG hk1 hk2
      have hne : ¬ n = k := by omega
      have i0 : (0 : Int) ≤ (k : Int) := by omega
      have i1 : (k : Int) < (n : Int) := by omega
      have e1 : wrap64 ((k : Int) + (m : Int)) = ((k + m : Nat) : Int) := by unfold wrap64; omega
      have e2 : IntKind.i64.wrap ((k : Int) + (m : Int)) = (k : Int) + (m : Int) := by simp [IntKind.wrap, IntKind.signed, IntKind.bits]; omega
      have HO : Hid (∀ v ∈ List.replicate m (Value.int .i64 (-1)), v.oneCell' = true) := fun v hv => by rw [(List.mem_replicate.1 hv).2]; rfl
      have HP : Hid (∀ j v, (List.replicate m (Value.int .i64 (-1)))[j]? = some v → wr.cell? ((⟨g, 0, none⟩ : Addr).add j) = some v) := fun j v hv => by
        rw [List.getElem?_replicate] at hv
        split at hv
        · cases hv
          rename_i hj
          have h1 : wr.cell? ⟨g, j, none⟩ = (mcell n k).toArray[j]? := by simp [World.cell?, HG2.out]
          have h2 : m ≤ k := by rw [HM.out]; exact Nat.min_le_left _ _
          rw [List.getElem?_toArray, mcell_at (by omega)] at h1
          by_cases h0 : j = 0
          · subst h0; exact h1
          · simpa [Addr.add, h0] using h1
        · cases hv
      go_wp2_with fail
      go_region_law (refine step_copy_splice rfl (.tmp 41) (.tmp 44) 23 23 rfl 3 Tryz.underlying23 hsz (some ⟨g, k, none⟩) (some ⟨g, 0, none⟩) (n - k) (n - k) k n (by simp [Act.eval, Act.put, hne]) (by simp [Act.eval, Act.put]) g k (mcell n k) 3 HG2.out (List.replicate m (Value.int .i64 (-1))) (by rw [List.length_replicate]; exact HM.out) (fun _ => ⟨rfl, _, rfl, HP.out⟩) (by rw [mcell_len hk, List.length_replicate]; exact hm2) HO.out g w1 HB.out.drew (Nat.le_refl _) ?_; rw [mcell_push hm2]; intro w4 hg4 hb4)
      all_goals go_wp2_with fail
      all_goals go_roundw
      · (repeat apply Exists.intro)
        refine ⟨?_, rfl⟩
        exact ⟨k + m, hm2, by omega, by simp [Act.put, e2], hg4.out, hb4⟩
      · simp only [Act.put, RowKit.intOf]; simp [e2]; omega
    · obtain rfl : k = n := by omega
      have i1 : decide ((k : Int) < (k : Int)) = false := decide_eq_false (by omega)
      have HG2 := Lib.hid hg
      have HB := Lib.hid hb
      clear hg hb hB HG hk1 hk2
      go_wp2_with fail
      exact bodyPost_ret (v := .slice (some ⟨g, 0, none⟩) k k) (by simp [results, Tryz.results78, go_sem]) rfl ⟨g, rfl, HG2.out, Nat.le_of_eq HGE.out.symm, HGE.out ▸ HB.out⟩
/- The landed walk: what it keeps in its blocks; its closure, by which a node comes. The conditions: the blocks. -/
theorem repeat_o (n : Nat) (hn : n ≤ 20000) (b : Nat) (w : World) (hc : w.cell? ⟨b, 0, none⟩ = some (.int .i64 (-1))) :
    Calls Tryz.prog 78 #[.slice (some ⟨b, 0, none⟩) 1 1, .int .i64 (n : Int)] w fun e w' => ∃ g, e = .returned (.slice (some ⟨g, 0, none⟩) n n) ∧ w'.ownsRow w.heap.size 3 1 (.slice (some ⟨g, 0, none⟩) n n) n ((List.replicate n (-1 : Int)).map (Value.int .i64)) ∧ Below w.heap.size w w' :=
  (repeat_i n hn b w hc).mono fun e w' ⟨g, h1, h2, h3, h4⟩ => ⟨g, h1, ⟨by simp, .inr ⟨g, n, _, rfl, h3, h2, Nat.le_refl _, by unfold maxLen; omega, by simp [mcell_len], by simp [mcell, List.take_of_length_le]⟩⟩, h4⟩
/-- The walk's own blocks. -/
def WF (b3 b7 b8 g : Nat) (G : Nat → Prop) (j : Nat) : Prop := j = b3 ∨ j = b7 ∨ j = b8 ∨ j = g ∨ G j
/-- What the walk keeps: the number of nodes, the steps (S, in block g), those that came (Q); the blocks of G lie elsewhere. -/
structure WP (w0 w : World) (b3 b7 b8 g n : Nat) (G : Nat → Prop) (S Q : List Int) (ra : Option Addr) (rc : Nat) : Prop where
  c3 : w.cell? ⟨b3, 0, none⟩ = some (.int .i64 (n : Int))
  c7 : w.cell? ⟨b7, 0, none⟩ = some (.slice (some ⟨g, 0, none⟩) n n)
  c8 : w.cell? ⟨b8, 0, none⟩ = some (.slice ra Q.length rc)
  z8 : w.frozen? ⟨b8, 0, none⟩ = false
  sg : w.ownsRow w0.heap.size 3 1 (.slice (some ⟨g, 0, none⟩) n n) n (S.map (Value.int .i64))
  own : OwnO (WF b3 b7 b8 g G) w w0.heap.size 3 1 (.slice ra Q.length rc) Q.length (Q.map (Value.int .i64))
  d1 : b3 ≠ b7 ∧ b3 ≠ b8 ∧ b3 ≠ g ∧ b7 ≠ b8 ∧ b7 ≠ g ∧ b8 ≠ g
  d2 : w0.heap.size ≤ b3 ∧ w0.heap.size ≤ b7 ∧ w0.heap.size ≤ b8 ∧ w0.heap.size ≤ g
  gd : ∀ j, G j → j ≠ b8 ∧ j ≠ g ∧ j < w.heap.size
  b : Below w0.heap.size w0 w
section
variable {w0 w w' : World} {b3 b7 b8 g n : Nat} {G G' : Nat → Prop} {S Q : List Int} {ra : Option Addr} {rc : Nat}
theorem WP.foot (h : WP w0 w b3 b7 b8 g n G S Q ra rc) : ∀ j, WF b3 b7 b8 g G j → j < w.heap.size := by
  rintro j (rfl | rfl | rfl | rfl | q)
  · exact World.block_lt_of_cell? w _ h.c3
  · exact World.block_lt_of_cell? w _ h.c7
  · exact World.block_lt_of_cell? w _ h.c8
  · exact (World.ownsRow.lt h.sg _ rfl).2
  · exact (h.gd j q).2.2
theorem WP.slen (h : WP w0 w b3 b7 b8 g n G S Q ra rc) : S.length = n := by have := h.sg.1; simpa using this
/-- Other blocks are turned. -/
theorem WP.keep {T : Nat → Prop} (h : WP w0 w b3 b7 b8 g n G S Q ra rc) (t : Turn T w w') (hT : ∀ j, T j → w0.heap.size ≤ j ∧ ¬ WF b3 b7 b8 g G j ∧ (Value.slice ra Q.length rc).ownBlock ≠ some j) : WP w0 w' b3 b7 b8 g n G S Q ra rc := by
  have l3 := h.foot b3 (Or.inl rfl); have l7 := h.foot b7 (Or.inr (Or.inl rfl)); have l8 := h.foot b8 (Or.inr (Or.inr (Or.inl rfl))); have lg := h.foot g (Or.inr (Or.inr (Or.inr (Or.inl rfl))))
  have n3 : ¬ T b3 := fun q => (hT _ q).2.1 (Or.inl rfl)
  have n7 : ¬ T b7 := fun q => (hT _ q).2.1 (Or.inr (Or.inl rfl))
  have n8 : ¬ T b8 := fun q => (hT _ q).2.1 (Or.inr (Or.inr (Or.inl rfl)))
  have ng : ¬ T g := fun q => (hT _ q).2.1 (Or.inr (Or.inr (Or.inr (Or.inl rfl))))
  exact ⟨(t.cell (a := ⟨b3, 0, none⟩) l3 n3).trans h.c3, (t.cell (a := ⟨b7, 0, none⟩) l7 n7).trans h.c7, (t.cell (a := ⟨b8, 0, none⟩) l8 n8).trans h.c8, (t.frozen (a := ⟨b8, 0, none⟩) l8 n8).trans h.z8,
    own_turn h.sg t (fun b q => by cases q; exact ng), h.own.turn t (fun b q r => (hT b r).2.2 q) (fun j q => Or.inl q), h.d1, h.d2, fun j q => ⟨(h.gd j q).1, (h.gd j q).2.1, Nat.lt_of_lt_of_le (h.gd j q).2.2 t.size⟩,
    h.b.trans (t.below (fun j q => (hT j q).1) h.b.size)⟩
theorem WP.below (h : WP w0 w b3 b7 b8 g n G S Q ra rc) (hb : Below w.heap.size w w') : WP w0 w' b3 b7 b8 g n G S Q ra rc :=
  h.keep (Turn.of_below (F := fun _ => False) hb) fun j q => q.elim
/-- Other blocks lie elsewhere. -/
theorem WP.other (h : WP w0 w b3 b7 b8 g n G S Q ra rc) (hb : Below w.heap.size w w') (hG : ∀ j, G' j → w.heap.size ≤ j ∧ j < w'.heap.size) : WP w0 w' b3 b7 b8 g n G' S Q ra rc := by
  have h2 := h.below hb
  refine ⟨h2.c3, h2.c7, h2.c8, h2.z8, h2.sg, ⟨h2.own.1, fun b q => ⟨(h2.own.2 b q).1, fun r => ?_⟩⟩, h.d1, h.d2, fun j q => ?_, h2.b⟩
  · rcases r with r | r | r | r | r
    · exact (h2.own.2 b q).2 (Or.inl r)
    · exact (h2.own.2 b q).2 (Or.inr (Or.inl r))
    · exact (h2.own.2 b q).2 (Or.inr (Or.inr (Or.inl r)))
    · exact (h2.own.2 b q).2 (Or.inr (Or.inr (Or.inr (Or.inl r))))
    · have := (h.own.2 b q).1; have := (hG b r).1; omega
  · have l8 := h.foot b8 (Or.inr (Or.inr (Or.inl rfl))); have lg := h.foot g (Or.inr (Or.inr (Or.inr (Or.inl rfl))))
    have := hG j q
    exact ⟨by omega, by omega, this.2⟩
theorem WP.noG (h : WP w0 w b3 b7 b8 g n G S Q ra rc) : WP w0 w b3 b7 b8 g n (fun _ => False) S Q ra rc := by
  refine ⟨h.c3, h.c7, h.c8, h.z8, h.sg, ⟨h.own.1, fun b q => ⟨(h.own.2 b q).1, fun r => (h.own.2 b q).2 ?_⟩⟩, h.d1, h.d2, fun j q => q.elim, h.b⟩
  rcases r with r | r | r | r | r
  · exact Or.inl r
  · exact Or.inr (Or.inl r)
  · exact Or.inr (Or.inr (Or.inl r))
  · exact Or.inr (Or.inr (Or.inr (Or.inl r)))
  · exact r.elim
theorem WP.at (h : WP w0 w b3 b7 b8 g n G S Q ra rc) {v : Nat} (hv : v < n) : w.cell? ⟨g, v, none⟩ = some (.int .i64 (S.getD v 0)) ∧ w.frozen? ⟨g, v, none⟩ = false := by
  have hl := h.slen
  refine ⟨?_, World.ownsRow.frozenAt h.sg v⟩
  rw [World.ownsRow.cellAt h.sg v (by omega)]
  simp [List.getD, hl, hv]
theorem WP.qat (h : WP w0 w b3 b7 b8 g n G S Q ra rc) {i : Nat} (hi : i < Q.length) : ∃ r, ra = some ⟨r, 0, none⟩ ∧ w.cell? ⟨r, i, none⟩ = some (.int .i64 (Q.getD i 0)) := by
  have h1 := h.own.1
  rcases h1.2 with ⟨e, h0⟩ | ⟨r, cap, cur, e, _⟩
  · omega
  · cases e
    refine ⟨r, rfl, ?_⟩
    rw [World.ownsRow.cellAt h1 i (by omega)]
    simp [List.getD, hi]
/-- A node's steps are written. -/
theorem WP.store (h : WP w0 w b3 b7 b8 g n G S Q ra rc) (v : Nat) (z : Int) : WP w0 (w.setCell ⟨g, v, none⟩ (.int .i64 z)) b3 b7 b8 g n G (S.set v z) Q ra rc ∧ ∀ j, G j → (w.setCell ⟨g, v, none⟩ (.int .i64 z)).heap[j]? = w.heap[j]? := by
  obtain ⟨hs, hg⟩ := World.ownsRow.stored h.sg v (.int .i64 z)
  have t : Turn (fun j => j = g) w (w.setCell ⟨g, v, none⟩ (.int .i64 z)) := (turn_grown hg).mono fun j q => by cases q; rfl
  have n3 : b3 ≠ g := h.d1.2.2.1
  have n7 : b7 ≠ g := h.d1.2.2.2.2.1
  have n8 : b8 ≠ g := h.d1.2.2.2.2.2
  have l3 := h.foot b3 (Or.inl rfl); have l7 := h.foot b7 (Or.inr (Or.inl rfl)); have l8 := h.foot b8 (Or.inr (Or.inr (Or.inl rfl)))
  refine ⟨⟨(t.cell (a := ⟨b3, 0, none⟩) l3 n3).trans h.c3, (t.cell (a := ⟨b7, 0, none⟩) l7 n7).trans h.c7, (t.cell (a := ⟨b8, 0, none⟩) l8 n8).trans h.c8, (t.frozen (a := ⟨b8, 0, none⟩) l8 n8).trans h.z8,
    by rw [List.map_set]; exact hs, h.own.turn t (fun b q r => (h.own.2 b q).2 (Or.inr (Or.inr (Or.inr (Or.inl r))))) (fun j q => Or.inl q), h.d1, h.d2, fun j q => ⟨(h.gd j q).1, (h.gd j q).2.1, Nat.lt_of_lt_of_le (h.gd j q).2.2 t.size⟩,
    h.b.trans (t.below (fun j q => by rw [q]; exact h.d2.2.2.2) h.b.size)⟩, fun j q => t.block j (h.gd j q).2.2 (h.gd j q).2.1⟩
/-- A node is put behind those that came. -/
theorem WP.push (h : WP w0 w b3 b7 b8 g n G S Q ra rc) {x : Int} {ra' : Option Addr} {rc' : Nat} (t : Turn (fun j => (Value.slice ra Q.length rc).ownBlock = some j) w w') (ho : OwnO (WF b3 b7 b8 g G) w' w0.heap.size 3 1 (.slice ra' (Q.length + 1) rc') (Q.length + 1) (Q.map (Value.int .i64) ++ [.int .i64 x])) :
    WP w0 (w'.setCell ⟨b8, 0, none⟩ (.slice ra' (Q.length + 1) rc')) b3 b7 b8 g n G S (Q ++ [x]) ra' rc' ∧ ∀ j, G j → (w'.setCell ⟨b8, 0, none⟩ (.slice ra' (Q.length + 1) rc')).heap[j]? = w.heap[j]? := by
  have hout : ∀ j, WF b3 b7 b8 g G j → ¬ (Value.slice ra Q.length rc).ownBlock = some j := fun j q r => (h.own.2 j r).2 q
  have l3 := h.foot b3 (Or.inl rfl); have l7 := h.foot b7 (Or.inr (Or.inl rfl)); have l8 := h.foot b8 (Or.inr (Or.inr (Or.inl rfl)))
  have u3 := (t.cell (a := ⟨b3, 0, none⟩) l3 (hout b3 (Or.inl rfl))).trans h.c3
  have u7 := (t.cell (a := ⟨b7, 0, none⟩) l7 (hout b7 (Or.inr (Or.inl rfl)))).trans h.c7
  have u8 := (t.cell (a := ⟨b8, 0, none⟩) l8 (hout b8 (Or.inr (Or.inr (Or.inl rfl))))).trans h.c8
  have v8 := (t.frozen (a := ⟨b8, 0, none⟩) l8 (hout b8 (Or.inr (Or.inr (Or.inl rfl))))).trans h.z8
  have ug := own_turn h.sg t (fun b q => by cases q; exact hout g (Or.inr (Or.inr (Or.inr (Or.inl rfl)))))
  have t2 : Turn (fun j => j = b8) w' (w'.setCell ⟨b8, 0, none⟩ (.slice ra' (Q.length + 1) rc')) := turn_set (F := fun j => j = b8) (p := ⟨b8, 0, none⟩) (Turn.refl _ _) (Or.inl (show b8 = b8 from rfl)) _
  have hb1 : Below w0.heap.size w0 w' := h.b.trans (t.below (fun j q => (World.ownsRow.lt h.own.1 j q).1) h.b.size)
  refine ⟨⟨(t2.cell (a := ⟨b3, 0, none⟩) (Nat.lt_of_lt_of_le l3 t.size) h.d1.2.1).trans u3, (t2.cell (a := ⟨b7, 0, none⟩) (Nat.lt_of_lt_of_le l7 t.size) h.d1.2.2.2.1).trans u7, ?_, (World.frozen?_setCell _ _ _ _).trans v8,
    own_turn ug t2 (fun b q => by cases q; exact fun r => h.d1.2.2.2.2.2 r.symm), ?_, h.d1, h.d2, fun j q => ⟨(h.gd j q).1, (h.gd j q).2.1, Nat.lt_of_lt_of_le (h.gd j q).2.2 (Nat.le_trans t.size t2.size)⟩,
    hb1.trans (t2.below (fun j q => by rw [q]; exact h.d2.2.2.1) hb1.size)⟩, fun j q => (t2.block j (Nat.lt_of_lt_of_le (h.gd j q).2.2 t.size) (h.gd j q).1).trans (t.block j (h.gd j q).2.2 (hout j (Or.inr (Or.inr (Or.inr (Or.inr q))))))⟩
  · rw [World.cell?_setCell_same _ _ _ u8]; simp
  · have := ho.turn t2 (fun b q r => (ho.2 b q).2 (Or.inr (Or.inr (Or.inl r)))) (fun j q => Or.inl q) (F' := WF b3 b7 b8 g G)
    simpa using this
set_option maxHeartbeats 4000000 in
set_option maxRecDepth 100000 in
theorem come_w (h : WP w0 w b3 b7 b8 g n G S Q ra rc) (hn : n ≤ 20000) (x : Int) (F : Nat) (hQ : Q.length ≤ 20000) :
    Calls Tryz.prog 79 #[.int .i64 x, .int .i64 (F : Int), .pointer (some ⟨b3, 0, none⟩), .pointer (some ⟨b7, 0, none⟩), .pointer (some ⟨b8, 0, none⟩)] w fun e w' => e = .returned (.tuple #[]) ∧ ∃ ra' rc', WP w0 w' b3 b7 b8 g n G (cS S x F) (cQ S Q x) ra' rc' ∧ ∀ j, G j → w'.heap[j]? = w.heap[j]? := by
  have hl := h.slen
  have c3 := h.c3; have c7 := h.c7; have c8 := h.c8; have z8 := h.z8
  by_cases h0 : 0 ≤ x
  · by_cases h1 : x < (n : Int)
    · obtain ⟨v, rfl⟩ := Int.eq_ofNat_of_zero_le h0
      have hv : v < n := by omega
      obtain ⟨cv, zv⟩ := h.at hv
      by_cases h2 : S.getD v 0 = -1
      · rw [h2] at cv
        have hc : gnd S.length (v : Int) ∧ S.getD ((v : Nat) : Int).toNat 0 = -1 := ⟨⟨h0, by rw [hl]; exact h1⟩, by rw [Int.toNat_natCast]; exact h2⟩
        unfold cS cQ
        rw [if_pos hc, if_pos hc, Int.toNat_natCast]
        have hst := h.store v (F : Int)
        have hb8 : b8 ≠ g := h.d1.2.2.2.2.2
        have u8 : (w.setCell ⟨g, v, none⟩ (.int .i64 (F : Int))).cell? ⟨b8, 0, none⟩ = some (.slice ra Q.length rc) := hst.1.c8
        have v8 : (w.setCell ⟨g, v, none⟩ (.int .i64 (F : Int))).frozen? ⟨b8, 0, none⟩ = false := hst.1.z8
        have hft := Lib.hid hst.1.foot
        have hsz := Lib.hid hst.1.b.size
        have HS := Lib.hid hst
        have ho := Lib.hid hst.1.own
        have h1 : decide ((v : Int) < (n : Int)) = true := decide_eq_true (by omega)
        clear hst h hc hl h2
        go_enter Tryz.func79, Tryz.ntmps79
        go_wp2_with
          (at_builtin
           refine wpList_push1 (w := w.setCell ⟨g, v, none⟩ (.int .i64 (F : Int))) rfl (.tmp 25) (.tmp 27) 23 rfl (WF b3 b7 b8 g G) w0.heap.size 3 1 8 (.int .i64 0) Tryz.underlying23 int_info rfl (by decide) [.int .i64 (v : Int)] rfl _ _ _ rfl ho.out (by simp [Act.eval]) (by intro u hu; simp at hu; subst hu; rfl) (by omega) (by decide) hsz.out hft.out ?_
           intro v4 w4 o4 t4 l4
           obtain ⟨ra', rc', rfl⟩ := (ownsRow_slc o4.1).form
           have hp := HS.out.1.push t4 o4
           have q8 : w4.cell? ⟨b8, 0, none⟩ = some (.slice ra Q.length rc) := (t4.cell (a := ⟨b8, 0, none⟩) (hft.out b8 (Or.inr (Or.inr (Or.inl rfl)))) (fun r => (ho.out.2 b8 r).2 (Or.inr (Or.inr (Or.inl rfl))))).trans u8
           have y8 : w4.frozen? ⟨b8, 0, none⟩ = false := (t4.frozen (a := ⟨b8, 0, none⟩) (hft.out b8 (Or.inr (Or.inr (Or.inl rfl)))) (fun r => (ho.out.2 b8 r).2 (Or.inr (Or.inr (Or.inl rfl))))).trans v8
           have HP := Lib.hid hp
           clear o4 t4 l4 hp)
        go_end0
        exact ⟨rfl, ra', rc', HP.out.1, fun j q => (HP.out.2 j q).trans (HS.out.2 j q)⟩
      · have d2 : (S.getD v 0 == -1) = false := by simpa using h2
        have hc : ¬ (gnd S.length (v : Int) ∧ S.getD ((v : Nat) : Int).toNat 0 = -1) := fun q => h2 (by simpa using q.2)
        unfold cS cQ
        rw [if_neg hc, if_neg hc]
        have H := Lib.hid h
        have h1 : decide ((v : Int) < (n : Int)) = true := decide_eq_true (by omega)
        generalize S.getD v 0 = z at *
        clear h hc hl
        go_enter Tryz.func79, Tryz.ntmps79
        go_wp2_with fail
        go_end0
        first | exact ⟨rfl, ra, rc, H.out, fun j q => rfl⟩ | exact ⟨rfl, ⟨ra, rc, H.out⟩, fun j q => rfl⟩
    · have hc : ¬ (gnd S.length x ∧ S.getD x.toNat 0 = -1) := fun q => h1 (by have := q.1.2; rw [hl] at this; exact this)
      unfold cS cQ
      rw [if_neg hc, if_neg hc]
      have H := Lib.hid h
      have h1 : decide (x < (n : Int)) = false := decide_eq_false h1
      clear h hc hl
      go_enter Tryz.func79, Tryz.ntmps79
      go_wp2_with fail
      go_end0
      first | exact ⟨rfl, ra, rc, H.out, fun j q => rfl⟩ | exact ⟨rfl, ⟨ra, rc, H.out⟩, fun j q => rfl⟩
  · have hc : ¬ (gnd S.length x ∧ S.getD x.toNat 0 = -1) := fun q => h0 q.1.1
    unfold cS cQ
    rw [if_neg hc, if_neg hc]
    have H := Lib.hid h
    have h0 : decide (0 ≤ x) = false := decide_eq_false h0
    clear h hc hl
    go_enter Tryz.func79, Tryz.ntmps79
    go_wp2_with fail
    go_end0
    first | exact ⟨rfl, ra, rc, H.out, fun j q => rfl⟩ | exact ⟨rfl, ⟨ra, rc, H.out⟩, fun j q => rfl⟩
end
/- The landed package's list of the nodes that are reached. The condition: no more than 20000 steps. -/
set_option maxHeartbeats 1000000 in
theorem found_w (a : Option Addr) (c : Nat) (S : List Int) (w : World) (hr : Reads w a S) (hn : S.length ≤ 20000) :
    Calls Tryz.prog 40 #[.slice a S.length c] w fun e w' => ∃ u, e = .returned u ∧ Own w' w.heap.size u (fnd S) ∧ Below w.heap.size w w' := by
  have HR := Lib.hid hr
  clear hr
  go_enter Tryz.func40, Tryz.ntmps40
  go_wp2_with fail
  go_loopw [3, 8] (fun l i wr => ∃ k : Nat, k ≤ S.length ∧ i = .int .i64 (k : Int) ∧ Own wr w.heap.size l (fndk S k) ∧ Below w.heap.size w wr) (fun _ i _ => S.length - (RowKit.intOf i).toNat)
  case atStart => exact ⟨0, Nat.zero_le _, rfl, Own.nil _ _, Below.refl _ _⟩
  case round =>
    obtain ⟨k, hk, rfl, hown, hb⟩ := hrel
    by_cases hlt : k < S.length
    · obtain ⟨b, off, rfl, hc⟩ := HR.out.2 k hlt
      have hc := (hb.cell (World.block_lt_of_cell? _ _ hc)).trans hc
      have i0 : (0 : Int) ≤ (k : Int) := by omega
      have i1 : (k : Int) < (S.length : Int) := by omega
      have hst := fndk_step S k
      have hle := fndk_len S k
      have hsz := hb.size
      generalize S.getD k 0 = z at *
      have HO := Lib.hid hown; have HB := Lib.hid hb
      clear hown hb
      by_cases hz : z = -1
      · have dz : (z == -1) = true := by simpa using hz
        rw [if_pos hz] at hst
        have HST := Lib.hid hst
        clear hst hz
        go_wp2_with fail
        go_roundw
        · exact ⟨k + 1, by omega, by go_num, by rw [HST.out]; exact HO.out, HB.out⟩
        · simp [RowKit.intOf]; omega
      · have dz : (z == -1) = false := by simpa using hz
        rw [if_neg hz] at hst
        have HST := Lib.hid hst
        clear hst hz
        go_wp2_with
          (at_builtin
           refine wp_push wr rfl (.tmp 15) (.tmp 17) rfl w.heap.size _ (fndk S k) (k : Int) rfl HO.out rfl (by omega) hsz ?_
           intro v4 w4 o4 b4
           have O4 := Lib.hid o4; have B4 := Lib.hid (HB.out.trans b4)
           clear o4 b4)
        go_roundw
        · exact ⟨k + 1, by omega, by go_num, by rw [HST.out]; exact O4.out, B4.out⟩
        · simp [RowKit.intOf]; omega
    · obtain rfl : k = S.length := by omega
      have hd0 : decide ((S.length : Int) < (S.length : Int)) = false := decide_eq_false (by omega)
      have HO := Lib.hid hown; have HB := Lib.hid hb
      clear hown hb
      go_wp2_with fail
      go_ret
      exact ⟨_, rfl, HO.out, HB.out⟩
/- The landed walk, for whatever way it goes. The conditions: no more than 20000 nodes; what each node leads to is told by a call that changes nothing. -/
/-- The first ones have come, up to so many. -/
def First (n : Nat) (L S : List Int) (k : Nat) : Prop := ∀ x ∈ L.take k, gnd n x → S.getD x.toNat 0 ≠ -1
theorem First.step {n : Nat} {N : Nat → List Int} {L S Q : List Int} {k : Nat} (h : First n L S k) (hB : BP n N L S Q 0) (hk : k < L.length) : First n L (cS S (L.getD k 0) 0) (k + 1) := fun x hx hg => by
  rw [List.take_add_one] at hx
  rcases List.mem_append.1 hx with q | q
  · have := h x q hg
    rw [cS_old this]; exact this
  · have e : x = L.getD k 0 := by simpa [hk, List.getD] using q
    subst e
    exact (cS_here hB hg).1
theorem First.zero {n : Nat} {N : Nat → List Int} {L S Q : List Int} (h : First n L S L.length) (hB : BP n N L S Q 0) : Zero n L S := fun x hx hg => by
  have h1 := h x (by rw [List.take_length]; exact hx) hg
  have hv : x.toNat < n := by unfold gnd at hg; omega
  obtain ⟨d, e, _⟩ := hB.way _ hv h1
  obtain ⟨j, hj, hq⟩ := mem_getD ((hB.mem _ hv).2 h1)
  have := hB.top j hj
  rw [hq, Int.toNat_natCast] at this
  omega
/-- Of what a node leads to the first k have come. -/
def Some (n : Nat) (M S : List Int) (F k : Nat) : Prop := ∀ x ∈ M.take k, gnd n x → S.getD x.toNat 0 ≠ -1 ∧ S.getD x.toNat 0 ≤ (F : Int)
theorem Some.step {n F : Nat} {N : Nat → List Int} {L M S Q : List Int} {k : Nat} (h : Some n M S F k) (hB : BP n N L S Q F) (hk : k < M.length) : Some n M (cS S (M.getD k 0) F) F (k + 1) := fun x hx hg => by
  rw [List.take_add_one] at hx
  rcases List.mem_append.1 hx with q | q
  · have := h x q hg
    rw [cS_old this.1]; exact this
  · have e : x = M.getD k 0 := by simpa [hk, List.getD] using q
    subst e
    exact cS_here hB hg
/-- The loop over those that came. -/
structure LoopW (w0 w : World) (b3 b7 b8 g n : Nat) (N : Nat → List Int) (L S Q : List Int) (a : Nat) : Prop where
  wp : ∃ ra rc, WP w0 w b3 b7 b8 g n (fun _ => False) S Q ra rc
  bp : ∃ F : Nat, BP n N L S Q F ∧ (a < Q.length → (F : Int) ≤ S.getD (Q.getD a 0).toNat 0 + 1)
  z : Zero n L S
  d : Done n N S Q a
  ha : a ≤ Q.length
/-- .. and within it, over what a node leads to. -/
structure LoopV (w0 w : World) (b3 b7 b8 g n : Nat) (G : Nat → Prop) (N : Nat → List Int) (L S Q M : List Int) (a q F k : Nat) : Prop where
  wp : ∃ ra rc, WP w0 w b3 b7 b8 g n G S Q ra rc
  bp : BP n N L S Q F
  z : Zero n L S
  d : Done n N S Q a
  ha : a < Q.length
  qa : Q.getD a 0 = (q : Int)
  F1 : (F : Int) = S.getD q 0 + 1
  F2 : F ≤ Q.length
  s : Some n M S F k
theorem reads_keep {w w' : World} {a : Option Addr} {c : Nat} {M : List Int} (h : Reads w a M) (hk : ∀ j, (Value.slice a M.length c).ownBlock = some j → w'.heap[j]? = w.heap[j]?) : Reads w' a M :=
  ⟨h.1, fun i hi => by
    obtain ⟨b, off, rfl, hc⟩ := h.2 i hi
    exact ⟨b, off, rfl, (World.cell?_of_block (a := ⟨b, off + i, none⟩) (hk b rfl)).trans hc⟩⟩
section
variable {w0 w w' : World} {b3 b7 b8 g n : Nat} {N : Nat → List Int} {L S Q M : List Int} {a q F k : Nat} {G : Nat → Prop}
theorem LoopW.enter (h : LoopW w0 w b3 b7 b8 g n N L S Q a) (ha : a < Q.length) (hq : Q.getD a 0 = (q : Int)) (hF : (F : Int) = S.getD q 0 + 1) (hb : Below w.heap.size w w') (hG : ∀ j, G j → w.heap.size ≤ j ∧ j < w'.heap.size) (M : List Int) : LoopV w0 w' b3 b7 b8 g n G N L S Q M a q F 0 := by
  obtain ⟨ra, rc, hW⟩ := h.wp
  obtain ⟨F0, hB, hF0⟩ := h.bp
  have h1 := hF0 ha
  rw [hq, Int.toNat_natCast] at h1
  have h2 := hB.low a ha
  rw [hq, Int.toNat_natCast] at h2
  exact ⟨⟨ra, rc, hW.other hb hG⟩, hB.up (by omega), h.z, h.d, ha, hq, hF, by omega, fun x hx => by simp at hx⟩
theorem LoopV.leave (h : LoopV w0 w b3 b7 b8 g n G N L S Q M a q F M.length) (hM : M = N q) : LoopW w0 w b3 b7 b8 g n N L S Q (a + 1) := by
  obtain ⟨ra, rc, hW⟩ := h.wp
  have ha := h.ha
  refine ⟨⟨ra, rc, hW.noG⟩, ⟨F, h.bp, fun h1 => ?_⟩, h.z, fun i hi hl x hx hg => ?_, by omega⟩
  · have := h.bp.mono a (a + 1) (by omega) h1
    rw [h.qa, Int.toNat_natCast] at this
    have := h.F1
    omega
  · by_cases e : i = a
    · subst e
      rw [h.qa, Int.toNat_natCast] at hx ⊢
      have := h.s x (by rw [List.take_length, hM]; exact hx) hg
      rw [← h.F1]; exact this
    · exact h.d i (by omega) hl x hx hg
theorem LoopV.come {ra : Option Addr} {rc : Nat} (h : LoopV w0 w b3 b7 b8 g n G N L S Q M a q F k) (hM : M = N q) (hk : k < M.length) (hw : WP w0 w' b3 b7 b8 g n G (cS S (M.getD k 0) F) (cQ S Q (M.getD k 0)) ra rc) :
    LoopV w0 w' b3 b7 b8 g n G N L (cS S (M.getD k 0) F) (cQ S Q (M.getD k 0)) M a q F (k + 1) := by
  have ha := h.ha
  have hat := h.bp.at ha
  rw [h.qa, Int.toNat_natCast] at hat
  have hway : gnd n (M.getD k 0) → Way n N L F (M.getD k 0).toNat := fun hg => by
    obtain ⟨d, e, hd⟩ := h.bp.way q hat.2.1 hat.2.2
    have : F = d + 1 := by have := h.F1; omega
    subst this
    refine ⟨by unfold gnd at hg; omega, q, hd, ?_⟩
    rw [show (((M.getD k 0).toNat : Nat) : Int) = M.getD k 0 by unfold gnd at hg; omega, ← hM]
    exact getD_mem hk
  refine ⟨⟨ra, rc, hw⟩, h.bp.come hway h.F2, h.z.come _ _, h.d.come h.bp (by omega) _ _, Nat.lt_of_lt_of_le ha (cQ_len _ _ _), ?_, ?_, Nat.le_trans h.F2 (cQ_len _ _ _), h.s.step h.bp hk⟩
  · rw [cQ_old ha]; exact h.qa
  · rw [cS_old hat.2.2]; exact h.F1
end
theorem own_res {w0 w : World} {b3 b7 b8 g n : Nat} {G : Nat → Prop} {S Q : List Int} {ra : Option Addr} {rc : Nat} (h : WP w0 w b3 b7 b8 g n G S Q ra rc) : Own w w0.heap.size (.slice (some ⟨g, 0, none⟩) n n) S := by
  have h1 := h.sg
  have h2 := h.slen
  unfold Own
  rw [h2]; exact h1
/-- The walk's blocks as they are laid. -/
theorem walk_begin {w w1 w3 : World} {g n : Nat} {o : Obj} (c3 : w1.cell? ⟨w.heap.size, 0, none⟩ = some (.int .i64 (n : Int))) (hb1 : Below w.heap.size w w1) (hb2 : Below w1.heap.size w1 (w1.alloc o)) (hs1 : w1.heap.size = w.heap.size + 1) (hs2 : (w1.alloc o).heap.size = w1.heap.size + 1)
    (hg : w3.ownsRow (w1.alloc o).heap.size 3 1 (.slice (some ⟨g, 0, none⟩) n n) n ((List.replicate n (-1 : Int)).map (Value.int .i64))) (hb3 : Below (w1.alloc o).heap.size (w1.alloc o) w3) :
    WP w ((w3.alloc (.cells #[.slice (some ⟨g, 0, none⟩) n n] 23)).alloc (.cells #[.slice none 0 0] 23)) w.heap.size w3.heap.size (w3.heap.size + 1) g n (fun _ => False) (List.replicate n (-1)) [] none 0 := by
  have l3 := World.block_lt_of_cell? w1 _ c3
  have lg := World.ownsRow.lt hg g rfl
  have hs3 := hb3.size
  have b13 : Below w1.heap.size w1 w3 := hb2.trans (hb3.mono (by omega))
  have c3b := (b13.cell (p := ⟨w.heap.size, 0, none⟩) l3).trans c3
  have bb : Below w3.heap.size w3 ((w3.alloc (.cells #[.slice (some ⟨g, 0, none⟩) n n] 23)).alloc (.cells #[.slice none 0 0] 23)) := ((Below.refl _ _).alloc (Nat.le_refl _) _).alloc (by simp) _
  have hmono : ∀ {W W' : World} {v : Value} {xs : List Value} {a b : Nat}, b ≤ a → W.ownsRow a 3 1 v n xs → W.ownsRow b 3 1 v n xs := fun {W W' v xs a b} hab h => ⟨h.1, h.2.imp id fun ⟨g, cap, cur, e, q, r⟩ => ⟨g, cap, cur, e, Nat.le_trans hab q, r⟩⟩
  refine ⟨(bb.cell (p := ⟨w.heap.size, 0, none⟩) (by show w.heap.size < w3.heap.size; omega)).trans c3b, by simp [go_sem], by simp [go_sem], by simp [go_sem], ownsRow_below (hmono (W' := w) (by omega) hg) bb, OwnO.nil _ _ _ _ _, by omega, by omega, fun j q => q.elim, (hb1.trans (b13.mono (by omega))).trans (bb.mono (by omega))⟩
set_option maxHeartbeats 4000000 in
set_option maxRecDepth 100000 in
theorem walked_w (n : Nat) (hn : n ≤ 20000) (a : Option Addr) (c : Nat) (L : List Int) (hL : L.length ≤ 1000000) (w : World) (hr : Reads w a L) (F : FuncId) (pv : Value) (N : Nat → List Int)
    (he : ∀ args w, (callFunc F args).run Tryz.prog w = .ok (.enter F args) w)
    (hN : ∀ v, v < n → (N v).length ≤ 1000000 ∧ ∀ z ∈ N v, InR z)
    (hF : ∀ W v, v < n → Below w.heap.size w W → Calls Tryz.prog F #[.int .i64 ((v : Nat) : Int), pv] W fun e W' => ∃ u, e = .returned u ∧ Own W' W.heap.size u (N v) ∧ Below W.heap.size W W') :
    Calls Tryz.prog 63 #[.int .i64 (n : Int), .slice a L.length c, .func (.func F) #[] #[pv]] w fun e w' => ∃ u S, e = .returned u ∧ Own w' w.heap.size u S ∧ IsSt n N L S ∧ Below w.heap.size w w' := by
  have hmf : ∀ (fn : Fn) (first cap : Array Value) (w : World), (Instr.makeFunc fn first cap).run Tryz.prog w = .ok (.func fn first cap) w := fun _ _ _ _ => rfl
  have HR := Lib.hid hr; have HF := Lib.hid hF; have HN := Lib.hid hN
  clear hr hF hN
  go_enter Tryz.func63, Tryz.ntmps63
  go_wp2_with fail
  have c3 : (w.alloc (.cells #[.int .i64 (n : Int)] 3)).cell? ⟨w.heap.size, 0, none⟩ = some (.int .i64 (n : Int)) := by simp [go_sem]
  have hb1 := below1 w (.cells #[.int .i64 (n : Int)] 3)
  have hs1 : (w.alloc (.cells #[.int .i64 (n : Int)] 3)).heap.size = w.heap.size + 1 := by simp
  generalize w.alloc (.cells #[.int .i64 (n : Int)] 3) = w1 at *
  have hrp := repeat_o n hn w1.heap.size (w1.alloc (.cells #[.int .i64 (-1)] 3)) (by simp [go_sem])
  have hb2 := below1 w1 (.cells #[.int .i64 (-1)] 3)
  have hs2 : (w1.alloc (.cells #[.int .i64 (-1)] 3)).heap.size = w1.heap.size + 1 := by simp
  have c3' := (hb2.cell (p := ⟨w.heap.size, 0, none⟩) (World.block_lt_of_cell? w1 _ c3)).trans c3
  have HB1 := Lib.hid hb1; have HB2 := Lib.hid hb2; have HS1 := Lib.hid hs1; have HS2 := Lib.hid hs2
  clear hb1 hb2 hs1 hs2
  go_step3
  go_wp2_with fail
  refine hrp.mono ?_; clear hrp; rintro e w3 ⟨g, rfl, hg, hb3⟩
  have HG := Lib.hid hg; have HB3 := Lib.hid hb3
  clear hg hb3
  have hWP : WP w ((w3.alloc (.cells #[.slice (some ⟨g, 0, none⟩) n n] 23)).alloc (.cells #[.slice none 0 0] 23)) w.heap.size w3.heap.size (w3.heap.size + 1) g n (fun _ => False) (List.replicate n (-1)) [] none 0 := walk_begin c3 HB1.out HB2.out HS1.out HS2.out HG.out HB3.out
  clear c3' c3 HB1 HB2 HS1 HS2 HG HB3
  go_wp2_with fail
  generalize (w3.alloc (.cells #[.slice (some ⟨g, 0, none⟩) n n] 23)).alloc (.cells #[.slice none 0 0] 23) = w5 at *
  generalize w3.heap.size + 1 = b8 at *
  generalize w3.heap.size = b7 at *
  obtain ⟨b3, hb3⟩ : ∃ b3, b3 = w.heap.size := ⟨_, rfl⟩
  have HBB := Lib.hid hb3
  rw [← hb3] at hWP ⊢
  clear hb3
  have HW0 := Lib.hid hWP
  clear hWP
  go_loopw [22] (fun i wr => ∃ (k : Nat) (S Q : List Int) (ra : Option Addr) (rc : Nat), k ≤ L.length ∧ i = .int .i64 (k : Int) ∧ WP w wr b3 b7 b8 g n (fun _ => False) S Q ra rc ∧ BP n N L S Q 0 ∧ First n L S k) (fun i _ => L.length - (RowKit.intOf i).toNat)
  case atStart => exact ⟨0, _, _, _, _, Nat.zero_le _, rfl, HW0.out, BP.begin n N L, fun x hx => by simp at hx⟩
  case round =>
    clear HW0
    obtain ⟨k, S, Q, ra, rc, hk, rfl, hW, hB, hFi⟩ := hrel
    by_cases hlt : k < L.length
    · obtain ⟨b, off, rfl, hc⟩ := HR.out.2 k hlt
      have hc := (hW.b.cell (World.block_lt_of_cell? _ _ hc)).trans hc
      have i0 : (0 : Int) ≤ (k : Int) := by omega
      have i1 : (k : Int) < (L.length : Int) := by omega
      have hcm := come_w hW hn (L.getD k 0) 0 (Nat.le_trans hB.len hn)
      rw [show ((0 : Nat) : Int) = 0 from rfl] at hcm
      have hB1 : Hid (BP n N L (cS S (L.getD k 0) 0) (cQ S Q (L.getD k 0)) 0) := hB.come (fun hg => ⟨by unfold gnd at hg; omega, by rw [show (((L.getD k 0).toNat : Nat) : Int) = L.getD k 0 by unfold gnd at hg; omega]; exact getD_mem hlt⟩) (Nat.zero_le _)
      have hF1 := Lib.hid (hFi.step hB hlt)
      have HLT := Lib.hid hlt
      generalize L.getD k 0 = x at *
      clear hW hB hFi hlt hk
      go_wp2_with fail
      refine hcm.mono ?_; clear hcm; rintro e w6 ⟨rfl, ra', rc', hW6, _⟩
      have HW6 := Lib.hid hW6
      clear hW6
      go_wp2_with fail
      go_roundw
      · exact ⟨k + 1, _, _, ra', rc', HLT.out, by go_num, HW6.out, hB1.out, hF1.out⟩
      · have := HLT.out; simp [RowKit.intOf]; omega
    · obtain rfl : k = L.length := by omega
      have hd0 : decide ((L.length : Int) < (L.length : Int)) = false := decide_eq_false (by omega)
      have HL : Hid (LoopW w wr b3 b7 b8 g n N L S Q 0) := ⟨⟨ra, rc, hW⟩, ⟨0, hB, fun h0 => by have := hB.at h0; obtain ⟨d, e, _⟩ := hB.way _ this.2.1 this.2.2; omega⟩, hFi.zero hB, fun i hi => absurd hi (Nat.not_lt_zero i), Nat.zero_le _⟩
      clear hW hB hFi hk
      go_wp2_with fail
      go_step3
      go_wp2_with fail
      go_loopw [12] (fun i wr => ∃ (at' : Nat) (S Q : List Int), i = .int .i64 (at' : Int) ∧ LoopW w wr b3 b7 b8 g n N L S Q at') (fun i _ => n - (RowKit.intOf i).toNat)
      case atStart => exact ⟨0, _, _, rfl, HL.out⟩
      case round =>
        clear HL
        obtain ⟨z, S, Q, rfl, hLW⟩ := hrel
        obtain ⟨ra, rc, hW⟩ := hLW.wp
        obtain ⟨F0, hB0, hF0⟩ := hLW.bp
        have hQn := hB0.len
        have hz := hLW.ha
        by_cases hlt : z < Q.length
        · obtain ⟨r, rfl, hcq⟩ := hW.qat hlt
          have hat := hB0.at hlt
          obtain ⟨q, hq⟩ : ∃ q : Nat, Q.getD z 0 = (q : Int) := ⟨(Q.getD z 0).toNat, by have := hat.1; unfold gnd at this; omega⟩
          rw [hq, Int.toNat_natCast] at hat
          rw [hq] at hcq
          obtain ⟨d, hd, _⟩ := hB0.way q hat.2.1 hat.2.2
          obtain ⟨hcs, _⟩ := hW.at hat.2.1
          rw [hd] at hcs
          have hdl := hB0.low z hlt
          rw [hq, Int.toNat_natCast, hd] at hdl
          have c3 := hW.c3; have c7 := hW.c7; have c8 := hW.c8
          have hqn : q < n := hat.2.1
          have i0 : (0 : Int) ≤ (z : Int) := by omega
          have i1 : (z : Int) < (Q.length : Int) := by omega
          have i2 : (0 : Int) ≤ (q : Int) := by omega
          have i3 : (q : Int) < (n : Int) := by omega
          have e1 : wrap64 ((d : Int) + 1) = ((d + 1 : Nat) : Int) := by unfold wrap64; omega
          have e2 : IntKind.i64.wrap ((d : Int) + 1) = ((d + 1 : Nat) : Int) := by simp [IntKind.wrap, IntKind.signed, IntKind.bits]; omega
          have HL := Lib.hid hLW; have HQ := Lib.hid hq; have HD := Lib.hid hd; have HB := Lib.hid hW.b; have HLT := Lib.hid hlt
          have hF1 := HF.out
          clear hW hB0 hF0 hLW hq hd hat hz hlt
          go_wp2_with fail
          go_quiet (fail)
          go_wp2_with fail
          have hbq : Below wr.heap.size wr (wr.drewN nq) := ⟨rfl, rfl, rfl, Nat.le_refl _, fun _ _ => rfl⟩
          have HBQ := Lib.hid hbq
          refine (hF1 (wr.drewN nq) q hqn (HB.out.trans (hbq.mono HB.out.size))).mono ?_
          clear hF1 hbq
          rintro e w6 ⟨u, rfl, ho, hb6⟩
          obtain ⟨ua, uc, rfl, _, hur⟩ := ho.reads (HN.out q hqn).2
          have HE : Hid (LoopV w w6 b3 b7 b8 g n (fun j => (Value.slice ua (N q).length uc).ownBlock = some j) N L S Q (N q) z q (d + 1) 0) :=
            HL.out.enter HLT.out HQ.out (by rw [HD.out]; omega) (HBQ.out.trans hb6) (fun j hj => World.ownsRow.lt ho j hj) (N q)
          have HU := Lib.hid hur
          have hMl := (HN.out q hqn).1
          obtain ⟨M, hM⟩ : ∃ M, M = N q := ⟨_, rfl⟩
          rw [← hM] at HE HU hMl ⊢
          have HM := Lib.hid hM
          clear ho hb6 hur hM c3 c7 c8 hcq hcs HB HBQ HL HQ HD hQn
          go_wp2_with fail
          go_loopw [51] (fun i wr => ∃ (k : Nat) (S Q : List Int), k ≤ M.length ∧ i = .int .i64 (k : Int) ∧ LoopV w wr b3 b7 b8 g n (fun j => (Value.slice ua M.length uc).ownBlock = some j) N L S Q M z q (d + 1) k ∧ Reads wr ua M) (fun i _ => M.length - (RowKit.intOf i).toNat)
          case atStart => exact ⟨0, _, _, Nat.zero_le _, rfl, HE.out, HU.out⟩
          case round =>
            clear HE HU
            obtain ⟨k, S, Q, hk, rfl, hV, hU⟩ := hrel
            obtain ⟨ra, rc, hW⟩ := hV.wp
            have hQn := hV.bp.len
            have c3 := hW.c3; have c7 := hW.c7; have c8 := hW.c8
            by_cases hkl : k < M.length
            · obtain ⟨ub, uo, rfl, hcu⟩ := hU.2 k hkl
              have i0 : (0 : Int) ≤ (k : Int) := by omega
              have i1 : (k : Int) < (M.length : Int) := by omega
              by_cases hqe : Q.length = n
              · have HS := Lib.hid (walk_stop hV.bp hV.z hV.d hV.ha (by rw [hV.qa, Int.toNat_natCast]; exact hV.F1) hqe)
                have HO := Lib.hid (own_res hW)
                have HB := Lib.hid hW.b
                have dq : ((Q.length : Int) == (n : Int)) = true := by simp; omega
                clear hW hV hU hqe
                go_wp2_with fail
                try rw [Exit.noGoto_ret]
                go_ret
                exact ⟨_, _, rfl, HO.out, HS.out, HB.out⟩
              · have dq : ((Q.length : Int) == (n : Int)) = false := by simp; omega
                have hcm := come_w hW hn (M.getD k 0) (d + 1) (by omega)
                rw [show ((d + 1 : Nat) : Int) = (d : Int) + 1 by omega] at hcm
                have hnext := fun w' ra rc hw => hV.come (w' := w') (ra := ra) (rc := rc) HM.out hkl hw
                have HN1 := Lib.hid hnext
                have HU := Lib.hid hU
                have HKL := Lib.hid hkl
                generalize M.getD k 0 = x at *
                clear hW hV hU hnext hkl
                go_wp2_with fail
                refine hcm.mono ?_; clear hcm; rintro e w7 ⟨rfl, ra', rc', hW7, hK7⟩
                have HW7 := Lib.hid (And.intro hW7 hK7)
                clear hW7 hK7
                go_wp2_with fail
                go_roundw
                · exact ⟨k + 1, _, _, HKL.out, by go_num, HN1.out _ _ _ HW7.out.1, reads_keep (c := uc) HU.out (fun j hj => HW7.out.2 j hj)⟩
                · have := HKL.out; simp [RowKit.intOf]; omega
            · obtain rfl : k = M.length := by omega
              have hd0 : decide ((M.length : Int) < (M.length : Int)) = false := decide_eq_false (by omega)
              have HL1 := Lib.hid (hV.leave HM.out)
              have hza := hV.ha
              clear hV hU hW hk
              go_wp2_with fail
              go_roundw
              · exact ⟨z + 1, _, _, by go_num, HL1.out⟩
              · simp [RowKit.intOf]; omega
        · obtain rfl : z = Q.length := by omega
          have hd0 : decide ((Q.length : Int) < (Q.length : Int)) = false := decide_eq_false (by omega)
          have c7 := hW.c7; have c8 := hW.c8
          have HS := Lib.hid (walk_end hB0 hLW.z hLW.d)
          have HO := Lib.hid (own_res hW)
          have HB := Lib.hid hW.b
          clear hW hB0 hF0 hLW
          go_wp2_with fail
          try rw [Exit.noGoto_ret]
          go_ret
          exact ⟨_, _, rfl, HO.out, HS.out, HB.out⟩
/- The landed package's Reach, Needs, Steps of a graph that was made, and of none. The condition: at most 10^6 numbers. -/
theorem isst_zero {N : Nat → List Int} {L S : List Int} (h : IsSt 0 N L S) : S = [] := List.eq_nil_of_length_eq_zero h.len
theorem isst_inr {n : Nat} {N : Nat → List Int} {L S : List Int} (h : IsSt n N L S) (hn : n ≤ 20000) : ∀ z ∈ S, InR z := fun z hz => by
  obtain ⟨v, hv, e⟩ := List.getElem_of_mem hz
  have hvn : v < n := h.len ▸ hv
  have e1 : S.getD v 0 = z := by simp [List.getD, hv, e]
  unfold InR
  rcases h.at' v hvn with ⟨q, _⟩ | ⟨d, q, hw, hm⟩
  · omega
  · obtain ⟨d2, h1, _, h3, _⟩ := way_short hw
    have := hm d2 h3
    omega
section
variable {w0 w : World} {B : Nat} {R : List (List Int)} {F : Nat → Prop}
theorem up_c {gb : Nat} (h : OneG w0 w B R F) (hc : w.cell? ⟨gb, 0, none⟩ = some (.pointer (some ⟨B, 0, none⟩))) (v : Nat) :
    Calls Tryz.prog 64 #[.int .i64 ((v : Nat) : Int), .pointer (some ⟨gb, 0, none⟩)] w fun e w' => ∃ u, e = .returned u ∧ Own w' w.heap.size u (nUp R v) ∧ Below w.heap.size w w' := by
  have hr := readers_o h (v : Int)
  clear h
  go_enter Tryz.func64, Tryz.ntmps64
  go_wp2_with fail
  refine hr.mono ?_; clear hr; rintro e w1 ⟨u, rfl, ho, _, hb⟩
  go_wp2_with fail
  go_ret
  exact ⟨u, rfl, ho, hb⟩
set_option maxRecDepth 100000 in
theorem steps_o (h : OneG w0 w B R F) (a : Option Addr) (c : Nat) (L : List Int) (hr : Reads w a L) (hn : L.length ≤ 1000000) :
    Calls Tryz.prog 41 #[.pointer (some ⟨B, 0, none⟩), .slice a L.length c] w fun e w' => ∃ u S, e = .returned u ∧ Own w' w.heap.size u S ∧ IsSt R.length (nUp R) L S ∧ Below w.heap.size w w' := by
  have hb := below1 w (.cells #[.pointer (some ⟨B, 0, none⟩)] 29)
  have hc : (w.alloc (.cells #[.pointer (some ⟨B, 0, none⟩)] 29)).cell? ⟨w.heap.size, 0, none⟩ = some (.pointer (some ⟨B, 0, none⟩)) := by simp [go_sem]
  have hI := h.r.1
  have h1 := h.below hb
  have hnd := nodes_o h1
  have hwk := walked_w R.length hI.hi a c L hn (w.alloc (.cells #[.pointer (some ⟨B, 0, none⟩)] 29)) (hr.below hb) 64 (.pointer (some ⟨w.heap.size, 0, none⟩)) (nUp R) (fun _ _ => rfl)
    (fun v hv => ⟨Nat.le_trans (rdrs_len _) (Nat.le_trans hI.hi (by omega)), inr_rdrs hI _⟩) (fun W v hv hW => up_c (h1.below hW) ((hW.cell (p := ⟨w.heap.size, 0, none⟩) (World.block_lt_of_cell? _ _ hc)).trans hc) v)
  have HB := Lib.hid hb
  have hs := hb.size
  clear h h1 hr hb
  go_enter Tryz.func41, Tryz.ntmps41
  go_wp2_with fail
  generalize w.alloc (.cells #[.pointer (some ⟨B, 0, none⟩)] 29) = W at *
  refine hnd.mono ?_; rintro e w1 ⟨rfl, rfl⟩
  go_wp2_with fail
  refine hwk.mono ?_; clear hwk; rintro e w2 ⟨u, S, rfl, ho, hS, hb2⟩
  go_wp2_with fail
  go_ret
  exact ⟨u, S, rfl, own_low ho hs, hS, HB.out.trans (hb2.mono hs)⟩
theorem reach_o (h : OneG w0 w B R F) (a : Option Addr) (c : Nat) (L : List Int) (hr : Reads w a L) (hn : L.length ≤ 1000000) :
    Calls Tryz.prog 24 #[.pointer (some ⟨B, 0, none⟩), .slice a L.length c] w fun e w' => ∃ u S, e = .returned u ∧ Own w' w.heap.size u (fnd S) ∧ IsSt R.length (nUp R) L S ∧ Below w.heap.size w w' := by
  have hst := steps_o h a c L hr hn
  have hI := h.r.1.hi
  clear h hr
  go_enter Tryz.func24, Tryz.ntmps24
  go_wp2_with fail
  refine hst.mono ?_; clear hst; rintro e w1 ⟨u, S, rfl, ho, hS, hb⟩
  obtain ⟨ua, uc, rfl, _, hu⟩ := ho.reads (isst_inr hS hI)
  have hf := found_w ua uc S w1 hu (by rw [hS.len]; exact hI)
  have HS := Lib.hid hS; have HB := Lib.hid hb
  clear ho hu hS hb
  go_wp2_with fail
  refine hf.mono ?_; clear hf; rintro e w2 ⟨v, rfl, ho, hb⟩
  go_wp2_with fail
  go_ret
  exact ⟨v, S, rfl, own_low ho HB.out.size, HS.out, HB.out.trans (hb.mono HB.out.size)⟩
set_option maxRecDepth 100000 in
theorem steps_n (a : Option Addr) (c : Nat) (L : List Int) (hr : Reads w a L) (hn : L.length ≤ 1000000) :
    Calls Tryz.prog 41 #[.pointer none, .slice a L.length c] w fun e w' => ∃ u, e = .returned u ∧ Own w' w.heap.size u [] ∧ Below w.heap.size w w' := by
  have hb := below1 w (.cells #[.pointer none] 29)
  have hc : (w.alloc (.cells #[.pointer none] 29)).cell? ⟨w.heap.size, 0, none⟩ = some (.pointer none) := by simp [go_sem]
  have hnd := nodes_n (w.alloc (.cells #[.pointer none] 29))
  have hwk := walked_w 0 (by omega) a c L hn (w.alloc (.cells #[.pointer none] 29)) (hr.below hb) 64 (.pointer (some ⟨w.heap.size, 0, none⟩)) (fun _ => []) (fun _ _ => rfl)
    (fun v hv => absurd hv (Nat.not_lt_zero v)) (fun W v hv hW => absurd hv (Nat.not_lt_zero v))
  rw [show ((0 : Nat) : Int) = 0 from rfl] at hwk
  have HB := Lib.hid hb
  have hs := hb.size
  clear hr hb
  go_enter Tryz.func41, Tryz.ntmps41
  go_wp2_with fail
  generalize w.alloc (.cells #[.pointer none] 29) = W at *
  refine hnd.mono ?_; rintro e w1 ⟨rfl, rfl⟩
  go_wp2_with fail
  refine hwk.mono ?_; clear hwk; rintro e w2 ⟨u, S, rfl, ho, hS, hb2⟩
  obtain rfl := isst_zero hS
  go_wp2_with fail
  go_ret
  exact ⟨u, rfl, own_low ho hs, HB.out.trans (hb2.mono hs)⟩
theorem reach_n (a : Option Addr) (c : Nat) (L : List Int) (hr : Reads w a L) (hn : L.length ≤ 1000000) :
    Calls Tryz.prog 24 #[.pointer none, .slice a L.length c] w fun e w' => ∃ u, e = .returned u ∧ Own w' w.heap.size u [] ∧ Below w.heap.size w w' := by
  have hst := steps_n a c L hr hn
  clear hr
  go_enter Tryz.func24, Tryz.ntmps24
  go_wp2_with fail
  refine hst.mono ?_; clear hst; rintro e w1 ⟨u, rfl, ho, hb⟩
  obtain ⟨ua, uc, rfl, _, hu⟩ := ho.reads (fun z hz => by cases hz)
  have hf := found_w ua uc [] w1 hu (by simp)
  have HB := Lib.hid hb
  clear ho hu hb
  go_wp2_with fail
  refine hf.mono ?_; clear hf; rintro e w2 ⟨v, rfl, ho, hb⟩
  go_wp2_with fail
  go_ret
  exact ⟨v, rfl, own_low ho HB.out.size, HB.out.trans (hb.mono HB.out.size)⟩
end
end Go.Proofs.YtbaeanpdjdcheaaGreat
