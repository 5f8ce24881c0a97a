/-
  The landed graph's drop. The conditions: the graph's blocks; the row lies elsewhere.
-/
import Derived.Test.YtbaeanpdjdcheaaGreatGrE
namespace Go.Proofs.YtbaeanpdjdcheaaGreat
open Go.RowKit MapSets
set_option linter.unusedSimpArgs false
set_option linter.unusedVariables false

theorem run_makeMap_n (k : Int) (w : World) : (Instr.makeMap 69 (some (.int .i64 k))).run Tryz.prog w = .ok (.map (some w.heap.size)) (w.alloc (.map #[] 0)) := by
  simp [Instr.makeMap, run_underlying Tryz.underlying69, asInt, asIntOf, Result.andThen]
/-- The readers' side, when so many of what was read are looked at. -/
def qdrop (q : Nat → Int → Bool) (v : Nat) (l L : List Int) (y : Nat) (u : Int) : Bool := q y u && !(decide (u = (v : Int)) && (decide ((y : Int) ∈ L) && !decide ((y : Int) ∈ l)))
theorem qdrop_nil (q : Nat → Int → Bool) (v : Nat) (l : List Int) : qdrop q v l [] = q := by funext y u; simp [qdrop]
theorem gmiss_step {L l : List Int} {k : Nat} (hk : k < L.length) : gmiss (L.take (k + 1)) l = gmiss (L.take k) l + if L.getD k 0 ∈ l then 0 else 1 := by
  unfold gmiss
  rw [List.take_succ_eq_append_getElem hk, List.filter_append, List.length_append, getD_lt _ _ hk]
  by_cases hq : L[k] ∈ l <;> simp [hq]
theorem qdrop_step {q : Nat → Int → Bool} {v : Nat} {l L : List Int} {k y : Nat} (hk : k < L.length) (hy : L.getD k 0 = (y : Int)) (hn : (y : Int) ∉ l) (x : Nat) (u : Int) :
    (if x = y then !decide (u = (v : Int)) && qdrop q v l (L.take k) y u else qdrop q v l (L.take k) x u) = qdrop q v l (L.take (k + 1)) x u := by
  unfold qdrop
  rw [← take_mem hk, hy]
  by_cases e : x = y
  · subst e; rw [if_pos rfl, decide_eq_true (rfl : (x : Int) = (x : Int)), decide_eq_false hn]
    cases q x u <;> cases decide (u = (v : Int)) <;> simp
  · rw [if_neg e, decide_eq_false (show ¬ (x : Int) = (y : Int) by omega), Bool.false_or]
theorem qdrop_skip {q : Nat → Int → Bool} {v : Nat} {l L : List Int} {k y : Nat} (hk : k < L.length) (hy : L.getD k 0 = (y : Int)) (hn : (y : Int) ∈ l) (x : Nat) (u : Int) : qdrop q v l (L.take k) x u = qdrop q v l (L.take (k + 1)) x u := by
  unfold qdrop
  rw [← take_mem hk, hy]
  by_cases e : x = y
  · subst e; rw [decide_eq_true (rfl : (x : Int) = (x : Int)), decide_eq_true hn]; simp
  · rw [decide_eq_false (show ¬ (x : Int) = (y : Int) by omega), Bool.false_or]
theorem MapSet_below {w w' : World} {b : Nat} {f : Int → Bool} (h : MSet w b f) (hb : Below w.heap.size w w') : MSet w' b f := h.keep (hb.block b h.lt)
set_option maxHeartbeats 4000000 in
set_option maxRecDepth 100000 in
theorem drop_g {w : World} {B A S n : Nat} {V : Nat → Value} {M : Nat → Option Nat} {R : List (List Int)} {q : Nat → Int → Bool} {E : Int} (h : GrP w B A S n V M R q E) (v : Nat) (hv : v < n) {x : Value} {l : List Int} (hl : SlX (grF B A S n V M) w x l)
    (hall : ∀ z ∈ l, gnd n z) (hn : l.length ≤ 1000000) (hin : ∀ z ∈ gR R v, gnd n z ∧ q z.toNat (v : Int) = true) (hLn : (gR R v).length ≤ 1000000) (hLd : (gR R v).Nodup) :
    Calls Tryz.prog 33 #[.pointer (some ⟨B, 0, none⟩), .int .i64 v, x] w fun e w' => e = .returned (.int .i64 (gmiss (gR R v) l : Nat)) ∧ GrP w' B A S n V M R (qdrop q v l (gR R v)) E ∧ Turn (grF B A S n V M) w w' := by
  have hO := hl
  obtain ⟨⟨a, c, rfl, hlc, hac, hr⟩, _⟩ := hl
  have HO := Lib.hid hO
  have HH := Lib.hid h
  have hmm := run_makeMap_n
  have hinv : InR (v : Int) := by have := h.hi; unfold InR; omega
  have hmx : n < maxLen := by have := h.hi; unfold maxLen; omega
  have hrA := h.hA.r v hv
  generalize hL : gR R v = L at *
  have HL := Lib.hid hL; clear hL
  obtain ⟨a2, c2, hV, _, _, hr2⟩ := hrA
  have HV := Lib.hid hV
  clear hO h hac hlc hr2 hV
  go_enter Tryz.func33, Tryz.ntmps33
  go_wp2_with fail
  have HR := Lib.hid hr
  clear hr
  go_loopw [20] (fun i wr => ∃ k : Nat, k ≤ l.length ∧ i = .int .i64 (k : Int) ∧ MSet wr w.heap.size (fun z => decide (z ∈ l.take k)) ∧ Below w.heap.size w wr) (fun i _ => l.length - (RowKit.intOf i).toNat)
  case atStart => exact ⟨0, Nat.zero_le _, rfl, (MapSets.made w).same fun z _ => by simp, below1 w _⟩
  case round =>
    obtain ⟨k, hk, rfl, hM, hb⟩ := hrel
    have HB := Lib.hid hb
    by_cases hlt : k < l.length
    · obtain ⟨b, off, rfl, hc0⟩ := (HR.out.below hb).2 k hlt
      have i0 : (0 : Int) ≤ (k : Int) := by omega
      have i1 : (k : Int) < (l.length : Int) := by omega
      have hz : InR (l.getD k 0) := HR.out.1 _ (by rw [getD_lt _ _ hlt]; exact List.getElem_mem hlt)
      obtain ⟨w2, hst, hm2, hg2⟩ := MapSets.run_store gkit hM (N := n) (fun u _ hu => hall u (List.mem_of_mem_take (of_decide_eq_true hu))) hmx hz
      have HM2 := Lib.hid (hm2.same fun j _ => take_mem hlt j)
      have HG2 := Lib.hid hg2
      generalize l.getD k 0 = z at *
      clear hM hb hm2 hg2
      go_wp2_with fail
      go_roundw
      · exact ⟨k + 1, by omega, by go_num, HM2.out, HB.out.grown HG2.out HB.out.size (fun j hj => by cases hj; exact Nat.le_refl _)⟩
      · simp [RowKit.intOf]; omega
    · obtain rfl : k = l.length := by omega
      rw [List.take_length] at hM
      have hd0 : decide ((l.length : Int) < (l.length : Int)) = false := decide_eq_false (by omega)
      have HM := Lib.hid hM
      have HP := HH.out.below hb
      have b0 := HP.b0
      have sA := HP.hA.a v hv
      rw [HV.out] at sA
      have j0 : (0 : Int) ≤ (v : Int) := by omega
      have j1 : (v : Int) < (n : Int) := by omega
      have HP := Lib.hid HP
      clear hM hb
      go_wp2_with fail
      go_loopw [10, 36] (fun m i w3 => ∃ k : Nat, k ≤ L.length ∧ i = .int .i64 (k : Int) ∧ m = .int .i64 (gmiss (L.take k) l : Nat) ∧ GrP w3 B A S n V M R (qdrop q v l (L.take k)) E ∧ MSet w3 w.heap.size (fun z => decide (z ∈ l)) ∧ Turn (grF B A S n V M) w w3 ∧ w.heap.size < w3.heap.size) (fun m i _ => L.length - (RowKit.intOf i).toNat)
      case atStart => exact ⟨0, Nat.zero_le _, rfl, rfl, by rw [List.take_zero, qdrop_nil]; exact HP.out, HM.out, Turn.of_below HB.out, HM.out.lt⟩
      case round =>
        obtain ⟨k, hk2, rfl, rfl, h3, hM3, ht3, hsz⟩ := hrel
        by_cases hlt2 : k < L.length
        · have hr3 := h3.hA.r v hv
          rw [HL.out, HV.out] at hr3
          obtain ⟨_, _, e', _, _, hr3⟩ := hr3
          cases e'
          obtain ⟨b, off, rfl, hc0⟩ := hr3.2 k hlt2
          have i0 : (0 : Int) ≤ (k : Int) := by omega
          have i1 : (k : Int) < (L.length : Int) := by omega
          have hz : InR (L.getD k 0) := hr3.1 _ (by rw [getD_lt _ _ hlt2]; exact List.getElem_mem hlt2)
          obtain ⟨hzn, hzq⟩ := hin (L.getD k 0) (by rw [getD_lt _ _ hlt2]; exact List.getElem_mem hlt2)
          obtain ⟨y, hy⟩ := Int.eq_ofNat_of_zero_le hzn.1
          have hyn : y < n := by have := hzn.2; omega
          have hlk := MapSets.run_look gkit hM3 hz
          have HST := Lib.hid (gmiss_step (l := l) hlt2)
          have HQ := Lib.hid (fun hq x u => qdrop_step (q := q) (v := v) (l := l) hlt2 hy hq x u)
          have HSK := Lib.hid (fun hq x u => qdrop_skip (q := q) (v := v) (l := l) hlt2 hy hq x u)
          have HLE := Lib.hid (Nat.le_trans (gmiss_le (L.take k) l) (by rw [List.length_take]; omega : (L.take k).length ≤ 1000000))
          rw [hy] at hc0 hlk hzq hz HST
          rw [Int.toNat_natCast] at hzq
          generalize gmiss (L.take k) l = m0 at *
          have hm0 := HLE.out
          have hba := below1 wr (.cells #[] 67)
          have h4 := h3.below hba
          have hM4 := MapSet_below hM3 hba
          have HT4 := Lib.hid (ht3.trans (Turn.of_below (F := grF B A S n V M) hba) (fun j hj => Or.inl hj))
          have H4 := Lib.hid h4; have HM4 := Lib.hid hM4
          have HSZ := Lib.hid (Nat.lt_of_lt_of_le hsz hba.size)
          clear h3 hM3 ht3 hr3 hzn hba
          by_cases hin2 : (y : Int) ∈ l
          · rw [decide_eq_true hin2] at hlk
            clear h4 hM4 hsz
            go_wp2_with fail
            go_roundw
            · refine ⟨k + 1, by omega, by go_num, by rw [HST.out, if_pos hin2]; rfl, H4.out.same fun x _ u => HSK.out hin2 x u, HM4.out, HT4.out, HSZ.out⟩
            · simp [RowKit.intOf]; omega
          · rw [decide_eq_false hin2] at hlk
            have b1 := h4.b1
            have s := h4.hS.s y hyn
            have l0 : (0 : Int) ≤ (y : Int) := by omega
            have l1 : (y : Int) < (n : Int) := by omega
            obtain ⟨b2, hM2⟩ : ∃ b2, M y = some b2 := by
              cases hMy : M y with
              | some b2 => exact ⟨b2, rfl⟩
              | none =>
                have := h4.hS.no y hyn hMy v
                have hny : ¬ ((y : Int) ∈ L.take k) := fun hh => by
                  obtain ⟨j, hj, e⟩ := List.getElem_of_mem hh
                  rw [List.length_take] at hj
                  rw [List.getElem_take, ← hy, getD_lt _ _ hlt2] at e
                  exact List.pairwise_iff_getElem.1 hLd j k (by omega) hlt2 (by omega) e
                simp [qdrop, hzq, hny] at this
            rw [hM2] at s
            obtain ⟨w4, hdr, hm4, hg4⟩ := MapSets.run_drop gkit (h4.hS.yes y b2 hyn hM2) hinv 0
            have HG := Lib.hid (h4.remap hyn hM2 hm4 hg4 (fun u hu => h4.hS.sup y u hyn (Bool.and_eq_true_iff.1 hu).2))
            have HM5 := Lib.hid (hM4.keep (hg4.block w.heap.size hM4.lt (fun r => by
              have := (HH.out.hS.yes y b2 hyn hM2).lt
              have : w.heap.size = b2 := by simpa using r
              omega)))
            have HSZ5 := Lib.hid (Nat.lt_of_lt_of_le HSZ.out hg4.size)
            clear h4 hM4 hsz hm4 hg4
            go_wp2_with fail
            go_roundw
            · refine ⟨k + 1, by omega, by go_num, by rw [HST.out, if_neg hin2]; go_num, HG.out.1.same fun x _ u => HQ.out hin2 x u, HM5.out, HT4.out.trans HG.out.2 (fun j hj => Or.inl hj), HSZ5.out⟩
            · simp [RowKit.intOf]; omega
        · obtain rfl : k = L.length := by omega
          rw [List.take_length] at h3 ⊢
          have hd1 : decide ((L.length : Int) < (L.length : Int)) = false := decide_eq_false (by omega)
          have H3 := Lib.hid h3; have HT3 := Lib.hid ht3
          clear h3 hM3 ht3 hsz
          go_wp2_with fail
          go_ret
          exact ⟨rfl, H3.out, HT3.out⟩
end Go.Proofs.YtbaeanpdjdcheaaGreat
