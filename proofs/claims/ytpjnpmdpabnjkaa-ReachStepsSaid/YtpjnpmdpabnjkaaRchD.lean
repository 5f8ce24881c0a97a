/-
  The landed walk, for whatever way it goes. The conditions: no more than 20000 nodes; what each node leads to is told by a call that changes nothing.
-/
import Derived.Test.YtpjnpmdpabnjkaaRchC
import Derived.WalkSpells
namespace Go.Proofs.Ytpjnpmdpabnjkaa
open Go.RowKit
set_option linter.unusedSimpArgs false
set_option linter.unusedVariables false

/-- The first ones have come, up to so many. -/
def First (n : Nat) (L S : List Int) (k : Nat) : Prop := ∀ x ∈ L.take k, gnd n x → S.getD x.toNat 0 ≠ -1
theorem First.step {n : Nat} {N : Nat → List Int} {L S Q : List Int} {k : Nat} (h : First n L S k) (hB : BP n N L S Q 0) (hk : k < L.length) : First n L (cS S (L.getD k 0) 0) (k + 1) := fun x hx hg => by
  rw [List.take_add_one] at hx
  rcases List.mem_append.1 hx with q | q
  · have := h x q hg
    rw [cS_old this]; exact this
  · have e : x = L.getD k 0 := by simpa [hk, List.getD] using q
    subst e
    exact (cS_here hB hg).1
theorem First.zero {n : Nat} {N : Nat → List Int} {L S Q : List Int} (h : First n L S L.length) (hB : BP n N L S Q 0) : Zero n L S := fun x hx hg => by
  have h1 := h x (by rw [List.take_length]; exact hx) hg
  have hv : x.toNat < n := by unfold gnd at hg; omega
  obtain ⟨d, e, _⟩ := hB.way _ hv h1
  obtain ⟨j, hj, hq⟩ := mem_getD ((hB.mem _ hv).2 h1)
  have := hB.top j hj
  rw [hq, Int.toNat_natCast] at this
  omega
/-- Of what a node leads to the first k have come. -/
def Some (n : Nat) (M S : List Int) (F k : Nat) : Prop := ∀ x ∈ M.take k, gnd n x → S.getD x.toNat 0 ≠ -1 ∧ S.getD x.toNat 0 ≤ (F : Int)
theorem Some.step {n F : Nat} {N : Nat → List Int} {L M S Q : List Int} {k : Nat} (h : Some n M S F k) (hB : BP n N L S Q F) (hk : k < M.length) : Some n M (cS S (M.getD k 0) F) F (k + 1) := fun x hx hg => by
  rw [List.take_add_one] at hx
  rcases List.mem_append.1 hx with q | q
  · have := h x q hg
    rw [cS_old this.1]; exact this
  · have e : x = M.getD k 0 := by simpa [hk, List.getD] using q
    subst e
    exact cS_here hB hg
/-- The loop over those that came. -/
structure LoopW (w0 w : World) (b3 b7 b8 g n : Nat) (N : Nat → List Int) (L S Q : List Int) (a : Nat) : Prop where
  wp : ∃ ra rc, WP w0 w b3 b7 b8 g n (fun _ => False) S Q ra rc
  bp : ∃ F : Nat, BP n N L S Q F ∧ (a < Q.length → (F : Int) ≤ S.getD (Q.getD a 0).toNat 0 + 1)
  z : Zero n L S
  d : Done n N S Q a
  ha : a ≤ Q.length
/-- .. and within it, over what a node leads to. -/
structure LoopV (w0 w : World) (b3 b7 b8 g n : Nat) (G : Nat → Prop) (N : Nat → List Int) (L S Q M : List Int) (a q F k : Nat) : Prop where
  wp : ∃ ra rc, WP w0 w b3 b7 b8 g n G S Q ra rc
  bp : BP n N L S Q F
  z : Zero n L S
  d : Done n N S Q a
  ha : a < Q.length
  qa : Q.getD a 0 = (q : Int)
  F1 : (F : Int) = S.getD q 0 + 1
  F2 : F ≤ Q.length
  s : Some n M S F k
theorem reads_keep {w w' : World} {a : Option Addr} {c : Nat} {M : List Int} (h : Reads w a M) (hk : ∀ j, (Value.slice a M.length c).ownBlock = some j → w'.heap[j]? = w.heap[j]?) : Reads w' a M :=
  ⟨h.1, fun i hi => by
    obtain ⟨b, off, rfl, hc⟩ := h.2 i hi
    exact ⟨b, off, rfl, (World.cell?_of_block (a := ⟨b, off + i, none⟩) (hk b rfl)).trans hc⟩⟩
section
variable {w0 w w' : World} {b3 b7 b8 g n : Nat} {N : Nat → List Int} {L S Q M : List Int} {a q F k : Nat} {G : Nat → Prop}
theorem LoopW.enter (h : LoopW w0 w b3 b7 b8 g n N L S Q a) (ha : a < Q.length) (hq : Q.getD a 0 = (q : Int)) (hF : (F : Int) = S.getD q 0 + 1) (hb : Below w.heap.size w w') (hG : ∀ j, G j → w.heap.size ≤ j ∧ j < w'.heap.size) (M : List Int) : LoopV w0 w' b3 b7 b8 g n G N L S Q M a q F 0 := by
  obtain ⟨ra, rc, hW⟩ := h.wp
  obtain ⟨F0, hB, hF0⟩ := h.bp
  have h1 := hF0 ha
  rw [hq, Int.toNat_natCast] at h1
  have h2 := hB.low a ha
  rw [hq, Int.toNat_natCast] at h2
  exact ⟨⟨ra, rc, hW.other hb hG⟩, hB.up (by omega), h.z, h.d, ha, hq, hF, by omega, fun x hx => by simp at hx⟩
theorem LoopV.leave (h : LoopV w0 w b3 b7 b8 g n G N L S Q M a q F M.length) (hM : M = N q) : LoopW w0 w b3 b7 b8 g n N L S Q (a + 1) := by
  obtain ⟨ra, rc, hW⟩ := h.wp
  have ha := h.ha
  refine ⟨⟨ra, rc, hW.noG⟩, ⟨F, h.bp, fun h1 => ?_⟩, h.z, fun i hi hl x hx hg => ?_, by omega⟩
  · have := h.bp.mono a (a + 1) (by omega) h1
    rw [h.qa, Int.toNat_natCast] at this
    have := h.F1
    omega
  · by_cases e : i = a
    · subst e
      rw [h.qa, Int.toNat_natCast] at hx ⊢
      have := h.s x (by rw [List.take_length, hM]; exact hx) hg
      rw [← h.F1]; exact this
    · exact h.d i (by omega) hl x hx hg
theorem LoopV.come {ra : Option Addr} {rc : Nat} (h : LoopV w0 w b3 b7 b8 g n G N L S Q M a q F k) (hM : M = N q) (hk : k < M.length) (hw : WP w0 w' b3 b7 b8 g n G (cS S (M.getD k 0) F) (cQ S Q (M.getD k 0)) ra rc) :
    LoopV w0 w' b3 b7 b8 g n G N L (cS S (M.getD k 0) F) (cQ S Q (M.getD k 0)) M a q F (k + 1) := by
  have ha := h.ha
  have hat := h.bp.at ha
  rw [h.qa, Int.toNat_natCast] at hat
  have hway : gnd n (M.getD k 0) → Way n N L F (M.getD k 0).toNat := fun hg => by
    obtain ⟨d, e, hd⟩ := h.bp.way q hat.2.1 hat.2.2
    have : F = d + 1 := by have := h.F1; omega
    subst this
    refine ⟨by unfold gnd at hg; omega, q, hd, ?_⟩
    rw [show (((M.getD k 0).toNat : Nat) : Int) = M.getD k 0 by unfold gnd at hg; omega, ← hM]
    exact getD_mem hk
  refine ⟨⟨ra, rc, hw⟩, h.bp.come hway h.F2, h.z.come _ _, h.d.come h.bp (by omega) _ _, Nat.lt_of_lt_of_le ha (cQ_len _ _ _), ?_, ?_, Nat.le_trans h.F2 (cQ_len _ _ _), h.s.step h.bp hk⟩
  · rw [cQ_old ha]; exact h.qa
  · rw [cS_old hat.2.2]; exact h.F1
end
theorem own_res {w0 w : World} {b3 b7 b8 g n : Nat} {G : Nat → Prop} {S Q : List Int} {ra : Option Addr} {rc : Nat} (h : WP w0 w b3 b7 b8 g n G S Q ra rc) : Own w w0.heap.size (.slice (some ⟨g, 0, none⟩) n n) S := by
  have h1 := h.sg
  have h2 := h.slen
  unfold Own
  rw [h2]; exact h1
/-- The walk's blocks as they are laid. -/
theorem walk_begin {w w1 w3 : World} {g n : Nat} {o : Obj} (c3 : w1.cell? ⟨w.heap.size, 0, none⟩ = some (.int .i64 (n : Int))) (hb1 : Below w.heap.size w w1) (hb2 : Below w1.heap.size w1 (w1.alloc o)) (hs1 : w1.heap.size = w.heap.size + 1) (hs2 : (w1.alloc o).heap.size = w1.heap.size + 1)
    (hg : w3.ownsRow (w1.alloc o).heap.size 3 1 (.slice (some ⟨g, 0, none⟩) n n) n ((List.replicate n (-1 : Int)).map (Value.int .i64))) (hb3 : Below (w1.alloc o).heap.size (w1.alloc o) w3) :
    WP w ((w3.alloc (.cells #[.slice (some ⟨g, 0, none⟩) n n] 23)).alloc (.cells #[.slice none 0 0] 23)) w.heap.size w3.heap.size (w3.heap.size + 1) g n (fun _ => False) (List.replicate n (-1)) [] none 0 := by
  have l3 := World.block_lt_of_cell? w1 _ c3
  have lg := World.ownsRow.lt hg g rfl
  have hs3 := hb3.size
  have b13 : Below w1.heap.size w1 w3 := hb2.trans (hb3.mono (by omega))
  have c3b := (b13.cell (p := ⟨w.heap.size, 0, none⟩) l3).trans c3
  have bb : Below w3.heap.size w3 ((w3.alloc (.cells #[.slice (some ⟨g, 0, none⟩) n n] 23)).alloc (.cells #[.slice none 0 0] 23)) := ((Below.refl _ _).alloc (Nat.le_refl _) _).alloc (by simp) _
  have hmono : ∀ {W W' : World} {v : Value} {xs : List Value} {a b : Nat}, b ≤ a → W.ownsRow a 3 1 v n xs → W.ownsRow b 3 1 v n xs := fun {W W' v xs a b} hab h => ⟨h.1, h.2.imp id fun ⟨g, cap, cur, e, q, r⟩ => ⟨g, cap, cur, e, Nat.le_trans hab q, r⟩⟩
  refine ⟨(bb.cell (p := ⟨w.heap.size, 0, none⟩) (by show w.heap.size < w3.heap.size; omega)).trans c3b, by simp [go_sem], by simp [go_sem], by simp [go_sem], ownsRow_below (hmono (W' := w) (by omega) hg) bb, OwnO.nil _ _ _ _ _, by omega, by omega, fun j q => q.elim, (hb1.trans (b13.mono (by omega))).trans (bb.mono (by omega))⟩
set_option maxHeartbeats 4000000 in
set_option maxRecDepth 100000 in
theorem walked_w (n : Nat) (hn : n ≤ 20000) (a : Option Addr) (c : Nat) (L : List Int) (hL : L.length ≤ 1000000) (w : World) (hr : Reads w a L) (F : FuncId) (pv : Value) (N : Nat → List Int)
    (he : ∀ args w, (callFunc F args).run Try.prog w = .ok (.enter F args) w)
    (hN : ∀ v, v < n → (N v).length ≤ 1000000 ∧ ∀ z ∈ N v, InR z)
    (hF : ∀ W v, v < n → Below w.heap.size w W → Calls Try.prog F #[.int .i64 ((v : Nat) : Int), pv] W fun e W' => ∃ u, e = .returned u ∧ Own W' W.heap.size u (N v) ∧ Below W.heap.size W W') :
    Calls Try.prog 27 #[.int .i64 (n : Int), .slice a L.length c, .func (.func F) #[] #[pv]] w fun e w' => ∃ u S, e = .returned u ∧ Own w' w.heap.size u S ∧ IsSt n N L S ∧ Below w.heap.size w w' := by
  have hmf : ∀ (fn : Fn) (first cap : Array Value) (w : World), (Instr.makeFunc fn first cap).run Try.prog w = .ok (.func fn first cap) w := fun _ _ _ _ => rfl
  have HR := Lib.hid hr; have HF := Lib.hid hF; have HN := Lib.hid hN
  clear hr hF hN
  go_enter Try.func27, Try.ntmps27
  go_wp2_with fail
  have c3 : (w.alloc (.cells #[.int .i64 (n : Int)] 3)).cell? ⟨w.heap.size, 0, none⟩ = some (.int .i64 (n : Int)) := by simp [go_sem]
  have hb1 := below1 w (.cells #[.int .i64 (n : Int)] 3)
  have hs1 : (w.alloc (.cells #[.int .i64 (n : Int)] 3)).heap.size = w.heap.size + 1 := by simp
  generalize w.alloc (.cells #[.int .i64 (n : Int)] 3) = w1 at *
  have hrp := repeat_o n hn w1.heap.size (w1.alloc (.cells #[.int .i64 (-1)] 3)) (by simp [go_sem])
  have hb2 := below1 w1 (.cells #[.int .i64 (-1)] 3)
  have hs2 : (w1.alloc (.cells #[.int .i64 (-1)] 3)).heap.size = w1.heap.size + 1 := by simp
  have c3' := (hb2.cell (p := ⟨w.heap.size, 0, none⟩) (World.block_lt_of_cell? w1 _ c3)).trans c3
  have HB1 := Lib.hid hb1; have HB2 := Lib.hid hb2; have HS1 := Lib.hid hs1; have HS2 := Lib.hid hs2
  clear hb1 hb2 hs1 hs2
  go_step3
  go_wp2_with fail
  refine hrp.mono ?_; clear hrp; rintro e w3 ⟨g, rfl, hg, hb3⟩
  have HG := Lib.hid hg; have HB3 := Lib.hid hb3
  clear hg hb3
  have hWP : WP w ((w3.alloc (.cells #[.slice (some ⟨g, 0, none⟩) n n] 23)).alloc (.cells #[.slice none 0 0] 23)) w.heap.size w3.heap.size (w3.heap.size + 1) g n (fun _ => False) (List.replicate n (-1)) [] none 0 := walk_begin c3 HB1.out HB2.out HS1.out HS2.out HG.out HB3.out
  clear c3' c3 HB1 HB2 HS1 HS2 HG HB3
  go_wp2_with fail
  generalize (w3.alloc (.cells #[.slice (some ⟨g, 0, none⟩) n n] 23)).alloc (.cells #[.slice none 0 0] 23) = w5 at *
  generalize w3.heap.size + 1 = b8 at *
  generalize w3.heap.size = b7 at *
  obtain ⟨b3, hb3⟩ : ∃ b3, b3 = w.heap.size := ⟨_, rfl⟩
  have HBB := Lib.hid hb3
  rw [← hb3] at hWP ⊢
  clear hb3
  have HW0 := Lib.hid hWP
  clear hWP
  go_loopw [22] (fun i wr => ∃ (k : Nat) (S Q : List Int) (ra : Option Addr) (rc : Nat), k ≤ L.length ∧ i = .int .i64 (k : Int) ∧ WP w wr b3 b7 b8 g n (fun _ => False) S Q ra rc ∧ BP n N L S Q 0 ∧ First n L S k) (fun i _ => L.length - (RowKit.intOf i).toNat)
  case atStart => exact ⟨0, _, _, _, _, Nat.zero_le _, rfl, HW0.out, BP.begin n N L, fun x hx => by simp at hx⟩
  case round =>
    clear HW0
    obtain ⟨k, S, Q, ra, rc, hk, rfl, hW, hB, hFi⟩ := hrel
    by_cases hlt : k < L.length
    · obtain ⟨b, off, rfl, hc⟩ := HR.out.2 k hlt
      have hc := (hW.b.cell (World.block_lt_of_cell? _ _ hc)).trans hc
      have i0 : (0 : Int) ≤ (k : Int) := by omega
      have i1 : (k : Int) < (L.length : Int) := by omega
      have hcm := come_w hW hn (L.getD k 0) 0 (Nat.le_trans hB.len hn)
      rw [show ((0 : Nat) : Int) = 0 from rfl] at hcm
      have hB1 : Hid (BP n N L (cS S (L.getD k 0) 0) (cQ S Q (L.getD k 0)) 0) := hB.come (fun hg => ⟨by unfold gnd at hg; omega, by rw [show (((L.getD k 0).toNat : Nat) : Int) = L.getD k 0 by unfold gnd at hg; omega]; exact getD_mem hlt⟩) (Nat.zero_le _)
      have hF1 := Lib.hid (hFi.step hB hlt)
      have HLT := Lib.hid hlt
      generalize L.getD k 0 = x at *
      clear hW hB hFi hlt hk
      go_wp2_with fail
      refine hcm.mono ?_; clear hcm; rintro e w6 ⟨rfl, ra', rc', hW6, _⟩
      have HW6 := Lib.hid hW6
      clear hW6
      go_wp2_with fail
      go_roundw
      · exact ⟨k + 1, _, _, ra', rc', HLT.out, by go_num, HW6.out, hB1.out, hF1.out⟩
      · have := HLT.out; simp [RowKit.intOf]; omega
    · obtain rfl : k = L.length := by omega
      have hd0 : decide ((L.length : Int) < (L.length : Int)) = false := decide_eq_false (by omega)
      have HL : Hid (LoopW w wr b3 b7 b8 g n N L S Q 0) := ⟨⟨ra, rc, hW⟩, ⟨0, hB, fun h0 => by have := hB.at h0; obtain ⟨d, e, _⟩ := hB.way _ this.2.1 this.2.2; omega⟩, hFi.zero hB, fun i hi => absurd hi (Nat.not_lt_zero i), Nat.zero_le _⟩
      clear hW hB hFi hk
      go_wp2_with fail
      go_step3
      go_wp2_with fail
      go_loopw [12] (fun i wr => ∃ (at' : Nat) (S Q : List Int), i = .int .i64 (at' : Int) ∧ LoopW w wr b3 b7 b8 g n N L S Q at') (fun i _ => n - (RowKit.intOf i).toNat)
      case atStart => exact ⟨0, _, _, rfl, HL.out⟩
      case round =>
        clear HL
        obtain ⟨z, S, Q, rfl, hLW⟩ := hrel
        obtain ⟨ra, rc, hW⟩ := hLW.wp
        obtain ⟨F0, hB0, hF0⟩ := hLW.bp
        have hQn := hB0.len
        have hz := hLW.ha
        by_cases hlt : z < Q.length
        · obtain ⟨r, rfl, hcq⟩ := hW.qat hlt
          have hat := hB0.at hlt
          obtain ⟨q, hq⟩ : ∃ q : Nat, Q.getD z 0 = (q : Int) := ⟨(Q.getD z 0).toNat, by have := hat.1; unfold gnd at this; omega⟩
          rw [hq, Int.toNat_natCast] at hat
          rw [hq] at hcq
          obtain ⟨d, hd, _⟩ := hB0.way q hat.2.1 hat.2.2
          obtain ⟨hcs, _⟩ := hW.at hat.2.1
          rw [hd] at hcs
          have hdl := hB0.low z hlt
          rw [hq, Int.toNat_natCast, hd] at hdl
          have c3 := hW.c3; have c7 := hW.c7; have c8 := hW.c8
          have hqn : q < n := hat.2.1
          have i0 : (0 : Int) ≤ (z : Int) := by omega
          have i1 : (z : Int) < (Q.length : Int) := by omega
          have i2 : (0 : Int) ≤ (q : Int) := by omega
          have i3 : (q : Int) < (n : Int) := by omega
          have e1 : wrap64 ((d : Int) + 1) = ((d + 1 : Nat) : Int) := by unfold wrap64; omega
          have e2 : IntKind.i64.wrap ((d : Int) + 1) = ((d + 1 : Nat) : Int) := by simp [IntKind.wrap, IntKind.signed, IntKind.bits]; omega
          have HL := Lib.hid hLW; have HQ := Lib.hid hq; have HD := Lib.hid hd; have HB := Lib.hid hW.b; have HLT := Lib.hid hlt
          have hF1 := HF.out
          clear hW hB0 hF0 hLW hq hd hat hz hlt
          go_wp2_with fail
          go_quiet (fail)
          go_wp2_with fail
          have hbq : Below wr.heap.size wr (wr.drewN nq) := ⟨rfl, rfl, rfl, Nat.le_refl _, fun _ _ => rfl⟩
          have HBQ := Lib.hid hbq
          refine (hF1 (wr.drewN nq) q hqn (HB.out.trans (hbq.mono HB.out.size))).mono ?_
          clear hF1 hbq
          rintro e w6 ⟨u, rfl, ho, hb6⟩
          obtain ⟨ua, uc, rfl, _, hur⟩ := ho.reads (HN.out q hqn).2
          have HE : Hid (LoopV w w6 b3 b7 b8 g n (fun j => (Value.slice ua (N q).length uc).ownBlock = some j) N L S Q (N q) z q (d + 1) 0) :=
            HL.out.enter HLT.out HQ.out (by rw [HD.out]; omega) (HBQ.out.trans hb6) (fun j hj => World.ownsRow.lt ho j hj) (N q)
          have HU := Lib.hid hur
          have hMl := (HN.out q hqn).1
          obtain ⟨M, hM⟩ : ∃ M, M = N q := ⟨_, rfl⟩
          rw [← hM] at HE HU hMl ⊢
          have HM := Lib.hid hM
          clear ho hb6 hur hM c3 c7 c8 hcq hcs HB HBQ HL HQ HD hQn
          go_wp2_with fail
          go_loopw [51] (fun i wr => ∃ (k : Nat) (S Q : List Int), k ≤ M.length ∧ i = .int .i64 (k : Int) ∧ LoopV w wr b3 b7 b8 g n (fun j => (Value.slice ua M.length uc).ownBlock = some j) N L S Q M z q (d + 1) k ∧ Reads wr ua M) (fun i _ => M.length - (RowKit.intOf i).toNat)
          case atStart => exact ⟨0, _, _, Nat.zero_le _, rfl, HE.out, HU.out⟩
          case round =>
            clear HE HU
            obtain ⟨k, S, Q, hk, rfl, hV, hU⟩ := hrel
            obtain ⟨ra, rc, hW⟩ := hV.wp
            have hQn := hV.bp.len
            have c3 := hW.c3; have c7 := hW.c7; have c8 := hW.c8
            by_cases hkl : k < M.length
            · obtain ⟨ub, uo, rfl, hcu⟩ := hU.2 k hkl
              have i0 : (0 : Int) ≤ (k : Int) := by omega
              have i1 : (k : Int) < (M.length : Int) := by omega
              by_cases hqe : Q.length = n
              · have HS := Lib.hid (walk_stop hV.bp hV.z hV.d hV.ha (by rw [hV.qa, Int.toNat_natCast]; exact hV.F1) hqe)
                have HO := Lib.hid (own_res hW)
                have HB := Lib.hid hW.b
                have dq : ((Q.length : Int) == (n : Int)) = true := by simp; omega
                clear hW hV hU hqe
                go_wp2_with fail
                try rw [Exit.noGoto_ret]
                go_ret
                exact ⟨_, _, rfl, HO.out, HS.out, HB.out⟩
              · have dq : ((Q.length : Int) == (n : Int)) = false := by simp; omega
                have hcm := come_w hW hn (M.getD k 0) (d + 1) (by omega)
                rw [show ((d + 1 : Nat) : Int) = (d : Int) + 1 by omega] at hcm
                have hnext := fun w' ra rc hw => hV.come (w' := w') (ra := ra) (rc := rc) HM.out hkl hw
                have HN1 := Lib.hid hnext
                have HU := Lib.hid hU
                have HKL := Lib.hid hkl
                generalize M.getD k 0 = x at *
                clear hW hV hU hnext hkl
                go_wp2_with fail
                refine hcm.mono ?_; clear hcm; rintro e w7 ⟨rfl, ra', rc', hW7, hK7⟩
                have HW7 := Lib.hid (And.intro hW7 hK7)
                clear hW7 hK7
                go_wp2_with fail
                go_roundw
                · exact ⟨k + 1, _, _, HKL.out, by go_num, HN1.out _ _ _ HW7.out.1, reads_keep (c := uc) HU.out (fun j hj => HW7.out.2 j hj)⟩
                · have := HKL.out; simp [RowKit.intOf]; omega
            · obtain rfl : k = M.length := by omega
              have hd0 : decide ((M.length : Int) < (M.length : Int)) = false := decide_eq_false (by omega)
              have HL1 := Lib.hid (hV.leave HM.out)
              have hza := hV.ha
              clear hV hU hW hk
              go_wp2_with fail
              go_roundw
              · exact ⟨z + 1, _, _, by go_num, HL1.out⟩
              · simp [RowKit.intOf]; omega
        · obtain rfl : z = Q.length := by omega
          have hd0 : decide ((Q.length : Int) < (Q.length : Int)) = false := decide_eq_false (by omega)
          have c7 := hW.c7; have c8 := hW.c8
          have HS := Lib.hid (walk_end hB0 hLW.z hLW.d)
          have HO := Lib.hid (own_res hW)
          have HB := Lib.hid hW.b
          clear hW hB0 hF0 hLW
          go_wp2_with fail
          try rw [Exit.noGoto_ret]
          go_ret
          exact ⟨_, _, rfl, HO.out, HS.out, HB.out⟩
end Go.Proofs.Ytpjnpmdpabnjkaa
