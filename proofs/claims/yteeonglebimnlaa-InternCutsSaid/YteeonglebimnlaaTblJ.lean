/-
  The table of numbers of the landed code: what drop and Cut answer; the table's contracts whole. No conditions.
-/
import Derived.Test.YteeonglebimnlaaTblI
namespace Go.Proofs.Yteeonglebimnlaa
open Go.RowKit Go.Maps Go.MapFns
set_option linter.unusedSimpArgs false
set_option linter.unusedVariables false

theorem less_up {k n : Nat} (h : k < n) : n - ((k : Int) + 1).toNat < n - (k : Int).toNat := by omega
theorem wipe_i (w : World) (g q n cap cap2 : Nat) (K : List Int) (h : w.ownsRow 0 3 1 (.slice (some ⟨g, 0, none⟩) K.length cap) K.length (K.flatMap fun k : Int => [Value.int .i64 k])) (hq : q + n = K.length) (hn : 0 < n) (ty : TypeId) :
    (Builtin.clear_ #[28] ty #[.slice (some ⟨g, q, none⟩) n cap2]).run Try.prog w = .ok (.tuple #[]) (w.setCells g q (List.replicate n (.int .i64 0))) :=
  Lib.run_clear_slice w 28 3 ty (.int .i64 0) Try.underlying28 (fun w => by kernel_rfl) rfl rfl g q n cap2 hn (fun j hj => by
    rw [h.cellAt (q + j) (by omega), flat_one]
    simp; omega) (fun j hj => h.frozenAt (q + j))
/-- What holds at the head of drop's loop. -/
structure DropI (w : World) (B : Nat) (m : Int) (bm : Nat) (v : Value) (K : List Int) (n : Nat) (i : Value) (wr : World) : Prop where
  out : ∃ k : Nat, n + k ≤ K.length ∧ i = .int .i64 (k : Int) ∧ TabHI wr B m K (K.length - k) (kc K n (n + k)) bm v ∧ Turn (TabF B bm v) w wr
set_option maxHeartbeats 4000000 in
theorem drop_i {w : World} {B bm g q n cap : Nat} {m : Int} {K : List Int} (h : TabPI w B m K bm (.slice (some ⟨g, 0, none⟩) K.length cap)) (hnd : K.Nodup) (hok : ∀ k ∈ K, InR k) (hl : K.length ≤ 20000) (hq : q + n = K.length) (hn : 0 < n) (cap2 : Nat) : Calls Try.prog 39 #[.pointer (some ⟨B, 0, none⟩), .slice (some ⟨g, q, none⟩) n cap2] w fun e w' =>
    e = .returned (.tuple #[]) ∧ ∃ wr, TabHI wr B m K q (kf (K.take q)) bm (.slice (some ⟨g, 0, none⟩) K.length cap) ∧ Turn (TabF B bm (.slice (some ⟨g, 0, none⟩) K.length cap)) w wr ∧ w' = wr.setCells g q (List.replicate n (.int .i64 0)) := by
  have H := Lib.hid h; have HD := Lib.hid hnd; have HO := Lib.hid hok
  clear h hnd hok
  go_enter Try.func39, Try.ntmps39
  go_wp2_with fail
  have H0 : Hid (DropI w B m bm (.slice (some ⟨g, 0, none⟩) K.length cap) K q (.int .i64 0) w) := ⟨⟨0, by omega, rfl, by rw [Nat.sub_zero, Nat.add_zero]; exact H.out.same rfl rfl (fun k => kc_start k), Turn.refl _ _⟩⟩
  go_loopw [8] (fun i wr => DropI w B m bm (.slice (some ⟨g, 0, none⟩) K.length cap) K q i wr) (fun i _ => n - (intOf i).toNat)
  case atStart => exact H0.out
  case round =>
    clear H0
    obtain ⟨k, hk, rfl, hT, ht⟩ := hrel.out
    clear hrel
    by_cases hlt : k < n
    · have d1 : decide ((k : Int) < (n : Int)) = true := decide_eq_true (by omega)
      have i0 : (0 : Int) ≤ (k : Int) := by omega
      have i1 : (k : Int) < (n : Int) := by omega
      have e1 := wrap64_up k (by omega)
      have hcell := hT.row.cellAt (q + k) (by omega)
      have hx : (K.flatMap fun k : Int => [Value.int .i64 k])[q + k]? = some (.int .i64 (K.getD (q + k) 0)) := by
        rw [flat_one]; simp [show q + k < K.length by omega]
      rw [hx] at hcell
      have HZ : Hid (InR (K.getD (q + k) 0)) := HO.out _ (by rw [show K.getD (q + k) 0 = K[q + k]'(by omega) by simp [List.getD, show q + k < K.length by omega]]; exact List.getElem_mem _)
      have HT1 := Lib.hid (kc_there HD.out (n := q) (i := q + k) (by omega) 0)
      have HST : Hid (∀ j, (if j = K.getD (q + k) 0 then none else kc K q (q + k) j) = kc K q (q + k + 1) j) := fun j => kc_step HD.out (by omega) (by omega) 0 j
      generalize K.getD (q + k) 0 = z at *
      have HT := Lib.hid hT; have HW := Lib.hid ht; have HLT := Lib.hid hlt; have HQ := Lib.hid (show q + n = K.length ∧ q + k ≤ K.length from ⟨hq, hk⟩)
      clear hx hT ht hlt hq hk
      go_wp2_with fail
      refine (found_i z _).mono ?_; rintro e w2 ⟨rfl, hb⟩
      have H2 := Lib.hid (HT.out.below hb)
      have x2 := H2.out.c2
      go_wp2_with
        (at_delete
         refine wp_drop kitI rfl (.tmp 17) (.tmp 18) rfl rfl H2.out.map z HZ.out rfl HT1.out ?_
         intro w3 M3 g3
         have H3 := Lib.hid (H2.out.remap M3 g3)
         clear M3 g3)
      go_roundw
      · refine ⟨⟨k + 1, by have := HLT.out; have := HQ.out; omega, by go_num, ?_, (HW.out.trans (Turn.of_below hb (F := fun _ => False)) (fun j q => q.elim)).trans H3.out.2 (fun j q => Or.inl q)⟩⟩
        exact H3.out.1.same rfl (by omega) (fun j => HST.out j)
      · simp only [e1]; exact less_up HLT.out
    · obtain rfl : k = n := by omega
      have d1 : decide ((k : Int) < (k : Int)) = false := decide_eq_false (by omega)
      have hcl := wipe_i wr g q k cap cap2 K hT.row hq hn
      have HT := Lib.hid (hT.same (f' := kf (K.take q)) rfl (show K.length - k = q by omega) (fun j => by rw [hq]; exact kc_end j))
      have HW := Lib.hid ht
      clear hT ht hlt hk
      go_wp2_with (simp only [hcl])
      go_end0
      exact ⟨rfl, wr, HT.out, HW.out, rfl⟩
set_option maxHeartbeats 4000000 in
theorem cut_i {w : World} {B bm : Nat} {m : Int} {K : List Int} {v : Value} (n : Int) (h : TabPI w B m K bm v) (hn : InR n) (hm : 1 ≤ m) (hnd : K.Nodup) (hok : ∀ k ∈ K, InR k) (hl : K.length ≤ 20000) : Calls Try.prog 24 #[.pointer (some ⟨B, 0, none⟩), .int .i64 n] w fun e w' =>
    e = .returned (.tuple #[]) ∧ ∃ v', TabPI w' B m (gcut K n) bm v' ∧ Turn (TabF B bm v) w w' ∧ ∀ j, TabF B bm v' j → TabF B bm v j ∨ w.heap.size ≤ j := by
  have hln := len_i h hm hl
  have H := Lib.hid h; have HD := Lib.hid hnd; have HO := Lib.hid hok
  obtain ⟨q, hq⟩ : ∃ q : Nat, n.toNat = q := ⟨_, rfl⟩
  have hmx : (if n < 0 then (0 : Int) else n) = (q : Int) := by split <;> omega
  have hq2 : (q : Int) ≤ 9223372036854775807 := by unfold InR at hn; omega
  unfold gcut
  rw [hq]
  clear hq hn h hnd hok
  by_cases hlt : q < K.length
  · have d1 : decide ((K.length : Int) ≤ (q : Int)) = false := decide_eq_false (by omega)
    have e0 : ∃ g cap, v = .slice (some ⟨g, 0, none⟩) K.length cap ∧ K.length ≤ cap := by
      rcases H.out.row.2 with ⟨_, r⟩ | ⟨g, cap, cur, r, _, _, r3, _⟩
      · omega
      · exact ⟨g, cap, r, r3⟩
    obtain ⟨g, cap, rfl, hcap⟩ := e0
    have c1 := H.out.c1
    have i0 : (0 : Int) ≤ (q : Int) := by omega
    have i1 : (q : Int) ≤ (K.length : Int) := by omega
    have hdr := drop_i (q := q) (n := K.length - q) H.out HD.out HO.out hl (by omega) (by omega) (cap - q)
    go_enter Try.func24, Try.ntmps24
    go_wp2_with fail
    refine hln.mono ?_; rintro e w1 ⟨rfl, rfl⟩
    go_wp2_with fail
    refine hdr.mono ?_; rintro e w2 ⟨rfl, wr, hT, ht, rfl⟩
    obtain ⟨_, tw⟩ := row_wiped (size := 1) hT.row (k := q) (by omega) (List.replicate (K.length - q) (.int .i64 0))
    have HC := Lib.hid (hT.clip (n := q) (fun _ _ => rfl) (by omega) (List.replicate (K.length - q) (.int .i64 0)))
    rw [Nat.mul_one] at tw HC
    have hne : ¬ B = g := fun r => hT.h2 (by rw [r]; rfl)
    have y1 := (tw.cell (a := ⟨B, 1, none⟩) hT.lt hne).trans hT.c1
    have y2 := (tw.frozen (a := ⟨B, 1, none⟩) hT.lt hne).trans hT.z1
    have HW := Lib.hid ht
    clear tw hT ht hne hdr
    go_wp2_with fail
    go_end0
    refine ⟨rfl, _, HC.out.1.same rfl (by simp; omega) (fun _ => rfl), HW.out.trans HC.out.2.1 (fun j q => Or.inl q), fun j q => Or.inl (HC.out.2.2 j q)⟩
  · have d1 : decide ((K.length : Int) ≤ (q : Int)) = true := decide_eq_true (by omega)
    have ht : K.take q = K := List.take_of_length_le (by omega)
    rw [ht]
    go_enter Try.func24, Try.ntmps24
    go_wp2_with fail
    refine hln.mono ?_; rintro e w1 ⟨rfl, rfl⟩
    go_wp2_with fail
    refine bodyPost_ret (results_none rfl _ _ _) rfl ?_
    exact ⟨rfl, v, H.out, Turn.refl _ _, fun j q => Or.inl q⟩
/-- The contracts of a table of numbers. -/
def tabI : TabI where
  Rep := RepT Try.prog 3 3 3 1 InR (fun k => Lit.int .i64 k) (fun k : Int => [Value.int .i64 k])
  foot h := h.foot
  keep h hs hk := h.keep hs hk
  inv h := h.1
  new_ok m w h1 h2 := (new_i m w h1 h2).mono fun e w' ⟨B, bm, v, he, hT, hb, hF⟩ => ⟨B, TabF B bm v, he, ⟨⟨List.nodup_nil, by simp; omega, h1, h2, fun k hk => by cases hk⟩, bm, v, hT, rfl⟩, hb, hF⟩
  new_no := new_no_i
  id k h hk := by
    obtain ⟨h0, bm, v, hT, rfl⟩ := h
    refine (id_i k hT hk h0.2.1 h0.2.2.1 h0.2.2.2.1).mono fun e w' ⟨he, v', hT', ht, hF⟩ => ⟨he, TabF _ bm v', ⟨⟨?_, ?_, h0.2.2.1, h0.2.2.2.1, ?_⟩, bm, v', hT', rfl⟩, ht, hF⟩
    · unfold gidK; split
      · exact h0.1
      · split
        · exact h0.1
        · rename_i q _; exact List.nodup_append.2 ⟨h0.1, by simp, fun a ha b hb => by simp at hb; subst hb; exact fun r => q (r ▸ ha)⟩
    · have := h0.2.1
      unfold gidK; split
      · exact this
      · split
        · exact this
        · simp; omega
    · intro j hj
      unfold gidK at hj; split at hj
      · exact h0.2.2.2.2 j hj
      · split at hj
        · exact h0.2.2.2.2 j hj
        · rcases List.mem_append.1 hj with hj | hj
          · exact h0.2.2.2.2 j hj
          · rw [List.mem_singleton.1 hj]; exact hk
  find _ {w B m K F} k h hk := by
    obtain ⟨h0, bm, v, hT, rfl⟩ := h
    have := find_i k hT h0.2.2.1 hk
    rw [kf_get, kf_some] at this
    exact this
  key _ {w B m K F} i h hi := by
    obtain ⟨h0, bm, v, hT, rfl⟩ := h
    exact key_i i hT h0.2.2.1 hi (by have := h0.2.1; have := h0.2.2.2.1; omega)
  len h := by
    obtain ⟨h0, bm, v, hT, rfl⟩ := h
    exact (len_i hT h0.2.2.1 (by have := h0.2.1; have := h0.2.2.2.1; omega)).mono fun e w' ⟨q, r⟩ => ⟨q, r ▸ Below.refl _ _⟩
  cut _ {w B m K F} n h hn := by
    obtain ⟨h0, bm, v, hT, rfl⟩ := h
    refine (cut_i n hT hn h0.2.2.1 h0.1 h0.2.2.2.2 (by have := h0.2.1; have := h0.2.2.2.1; omega)).mono fun e w' ⟨he, v', hT', ht, hF⟩ => ⟨he, TabF _ bm v', ⟨⟨?_, ?_, h0.2.2.1, h0.2.2.2.1, ?_⟩, bm, v', hT', rfl⟩, ht, hF⟩
    · exact h0.1.sublist (List.take_sublist _ _)
    · have := h0.2.1
      unfold gcut; rw [List.length_take]; omega
    · intro j hj
      exact h0.2.2.2.2 j (List.mem_of_mem_take hj)
end Go.Proofs.Yteeonglebimnlaa
