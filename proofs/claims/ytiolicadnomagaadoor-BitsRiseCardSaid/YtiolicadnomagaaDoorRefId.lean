/-
  What the document's own Rising, Put, Drop and Both (gavelkindref11) answer, for whatever rows and number. The condition: at most 4 * 10^8 numbers.
-/
import Derived.Test.YtiolicadnomagaaDoorRefIc
namespace Go.Proofs.YtiolicadnomagaaDoor
open Go.RowKit
set_option linter.unusedSimpArgs false
set_option linter.unusedVariables false

theorem rise_take {L : List Int} {k : Nat} (h : k < L.length) : rise (L.take (k + 1)) = wth (rise (L.take k)) (L.getD k 0) := by
  unfold rise
  rw [List.take_succ_eq_append_getElem h, List.foldl_append, getD_lt _ _ h]
  rfl
theorem rise_in : ∀ (L M : List Int), (∀ z ∈ L, InR z) → (∀ z ∈ M, InR z) → ∀ z ∈ L.foldl wth M, InR z
  | [], M, _, hM => hM
  | x :: L, M, hL, hM => rise_in L (wth M x) (fun z hz => hL z (by simp [hz])) (wth_in x (hL x (by simp)) M hM)
theorem rise_len : ∀ (L M : List Int), (L.foldl wth M).length ≤ M.length + L.length
  | [], M => by simp
  | x :: L, M => by
    have h1 := rise_len L (wth M x)
    have h2 := wth_len x M
    simp only [List.foldl_cons, List.length_cons]
    omega

set_option maxHeartbeats 1000000 in
theorem r11rise (a : Option Addr) (c : Nat) (L : List Int) (w : World) (hL : Reads w a L) (hl : L.length ≤ 400000000) :
    Calls Tryd.prog 18 #[.slice a L.length c] w fun e w' => ∃ u, e = .returned u ∧ Sl w' u (rise L) ∧ Below w.heap.size w w' := by
  have HL := Lib.hid hL; clear hL
  go_enter Tryd.func18, Tryd.ntmps18
  go_wp2_with fail
  go_loopw [3, 4] (fun v i wr => ∃ k : Nat, k ≤ L.length ∧ i = .int .i64 (k : Int) ∧ Sl wr v (rise (L.take k)) ∧ Below w.heap.size w wr) (fun _ i _ => L.length - (intOf i).toNat)
  case atStart => exact ⟨0, Nat.zero_le _, rfl, ⟨none, 0, rfl, Nat.zero_le _, fun _ => rfl, fun z hz => by (cases hz), fun i hi => by (cases hi)⟩, Below.refl _ _⟩
  case round =>
    obtain ⟨k, hk, rfl, hs, hb⟩ := hrel
    by_cases hlt : k < L.length
    · obtain ⟨b, off, rfl, hc⟩ := (HL.out.below hb).2 k hlt
      have i0 : (0 : Int) ≤ (k : Int) := by omega
      have i1 : (k : Int) < (L.length : Int) := by omega
      have HM := Lib.hid (rise_take hlt)
      have hlen : (rise (L.take k)).length ≤ 900000000 := by
        have := rise_len (L.take k) []
        rw [List.length_take] at this
        unfold rise
        simp at this ⊢; omega
      have hw := fun w1 (h : Sl w1 u3 (rise (L.take k))) => r11with u3 (rise (L.take k)) (L.getD k 0) w1 h (HL.out.at k hlt) hlen
      clear hlen
      generalize L.getD k 0 = z at *
      generalize rise (L.take k) = R at *
      have HS := Lib.hid hs; clear hs
      go_wp2_with fail
      refine (hw _ HS.out).mono ?_; rintro e w1 ⟨u, rfl, hu, hb1⟩
      replace hb := hb.trans (hb1.mono hb.size)
      have HU := Lib.hid hu; clear hu hw
      go_wp2_with fail
      go_roundw
      · exact ⟨k + 1, by omega, by go_num, by rw [HM.out]; exact HU.out, hb⟩
      · simp [intOf]; omega
    · obtain rfl : k = L.length := by omega
      rw [List.take_length] at hs
      have hd0 : decide ((L.length : Int) < (L.length : Int)) = false := decide_eq_false (by omega)
      have HS := Lib.hid hs; clear hs
      go_wp2_with fail
      go_ret
      exact ⟨_, rfl, HS.out, hb⟩

set_option maxHeartbeats 1000000 in
theorem r11put (v : Value) (L : List Int) (n : Int) (w : World) (hv : Sl w v L) (hn : InR n) (hl : L.length ≤ 900000000) :
    Calls Tryd.prog 24 #[v, .int .i64 n] w fun e w' => ∃ u, e = .returned (.tuple #[u, .int .i64 (bputE L n)]) ∧ Sl w' u (bputK L n) ∧ Below w.heap.size w w' := by
  have HV := Lib.hid hv
  have hw := r11with v L n w hv hn hl
  obtain ⟨a, c, rfl, hcap, hc0, hL⟩ := hv
  have hh := has_any a c L n w hL (by omega)
  clear hcap hc0 hL
  unfold bputE bputK
  by_cases h : OkB n
  · have d1 : decide (n < 0) = false := decide_eq_false (by unfold OkB at h; omega)
    have d2 : decide (65535 < n) = false := decide_eq_false (by unfold OkB at h; omega)
    rw [if_pos h, if_pos h]
    by_cases hm : n ∈ L
    · rw [if_pos hm, if_pos hm]
      rw [decide_eq_true hm] at hh
      clear h hm hn hl hw
      go_enter Tryd.func24, Tryd.ntmps24
      go_wp2_with fail
      refine hh.mono ?_; rintro e w1 ⟨rfl, rfl⟩
      go_wp2_with fail
      go_ret2
      exact ⟨_, rfl, HV.out, Below.refl _ _⟩
    · rw [if_neg hm, if_neg hm]
      rw [decide_eq_false hm] at hh
      clear h hm hn hl
      go_enter Tryd.func24, Tryd.ntmps24
      go_wp2_with fail
      refine hh.mono ?_; rintro e w1 ⟨rfl, rfl⟩
      go_wp2_with fail
      refine hw.mono ?_; rintro e w2 ⟨u, rfl, hu, hb⟩
      have HU := Lib.hid hu; clear hu
      go_wp2_with fail
      go_ret2
      exact ⟨_, rfl, HU.out, hb⟩
  · rw [if_neg h, if_neg h]
    by_cases h1 : n < 0
    · clear h hn hl hh hw
      go_enter Tryd.func24, Tryd.ntmps24
      go_wp2_with fail
      go_ret2
      exact ⟨_, rfl, HV.out, Below.refl _ _⟩
    · have h2 : 65535 < n := by unfold OkB at h; omega
      clear h hn hl hh hw
      go_enter Tryd.func24, Tryd.ntmps24
      go_wp2_with fail
      go_ret2
      exact ⟨_, rfl, HV.out, Below.refl _ _⟩

theorem filt_take {L : List Int} {k : Nat} (h : k < L.length) (p : Int → Bool) : (L.take (k + 1)).filter p = if p (L.getD k 0) then (L.take k).filter p ++ [L.getD k 0] else (L.take k).filter p := by
  rw [List.take_succ_eq_append_getElem h, List.filter_append, getD_lt _ _ h]
  by_cases q : p L[k] <;> simp [q]
theorem filt_len {L : List Int} {k : Nat} (hk : k ≤ L.length) (p : Int → Bool) : ((L.take k).filter p).length ≤ k := by
  have := List.length_filter_le p (L.take k)
  rw [List.length_take] at this
  omega
theorem filt_all {L : List Int} {n : Int} : (L.filter (fun z => decide (z ≠ n))).length = L.length ↔ ¬ n ∈ L := by
  rw [List.length_filter_eq_length_iff]
  simp only [decide_eq_true_eq]
  exact ⟨fun h q => h n q rfl, fun h z hz e => h (e ▸ hz)⟩

set_option maxHeartbeats 2000000 in
theorem r11both (a a' : Option Addr) (c c' : Nat) (L M : List Int) (w : World) (hL : Reads w a L) (hM : Reads w a' M) (hl : L.length ≤ 400000000) (hl' : M.length ≤ 400000000) :
    Calls Tryd.prog 19 #[.slice a L.length c, .slice a' M.length c'] w fun e w' => ∃ u, e = .returned u ∧ Sl w' u (both L M) ∧ Below w.heap.size w w' := by
  have HL := Lib.hid hL; have HM := Lib.hid hM; clear hL hM
  have HN := Lib.hid (And.intro hl hl'); have hLn : (L.length : Int) ≤ 400000000 := by omega
  clear hl hl'
  go_enter Tryd.func19, Tryd.ntmps19
  go_wp2_with fail
  go_loopw [5, 6] (fun v i wr => ∃ k : Nat, k ≤ L.length ∧ i = .int .i64 (k : Int) ∧ Own wr w.heap.size v ((L.take k).filter (fun z => decide (z ∈ M))) ∧ Below w.heap.size w wr) (fun _ i _ => L.length - (intOf i).toNat)
  case atStart => exact ⟨0, Nat.zero_le _, rfl, Own.nil _ _, Below.refl _ _⟩
  case round =>
    obtain ⟨k, hk, rfl, hown, hb⟩ := hrel
    by_cases hlt : k < L.length
    · obtain ⟨b, off, rfl, hc⟩ := (HL.out.below hb).2 k hlt
      have i0 : (0 : Int) ≤ (k : Int) := by omega
      have i1 : (k : Int) < (L.length : Int) := by omega
      have HF := Lib.hid (filt_take hlt (fun z => decide (z ∈ M)))
      have HK := Lib.hid (filt_len hk (fun z => decide (z ∈ M)))
      have hh := has_any a' c' M (L.getD k 0) wr (HM.out.below hb) (by have := HN.out; omega)
      generalize L.getD k 0 = z at *
      generalize (L.take k).filter (fun z => decide (z ∈ M)) = R at *
      by_cases hm : z ∈ M
      · have HF2 : Hid (List.filter (fun z => decide (z ∈ M)) (List.take (k + 1) L) = R ++ [z]) := by
          have h := HF.out
          rw [if_pos (decide_eq_true hm)] at h; exact h
        rw [decide_eq_true hm] at hh
        clear hm HF
        go_wp2_with fail
        refine hh.mono ?_; rintro e w1 ⟨rfl, rfl⟩
        clear hh
        go_wp2_with (at_builtin; refine wp_push wr rfl (.tmp 19) (.tmp 24) rfl w.heap.size _ R z rfl hown rfl (by have := HK.out; have := HN.out; omega) hb.size ?_; intro v1 w1 hown1 hb1)
        go_roundw
        · exact ⟨k + 1, by omega, by go_num, by rw [HF2.out]; exact hown1, hb.trans hb1⟩
        · simp [intOf]; omega
      · have HF2 : Hid (List.filter (fun z => decide (z ∈ M)) (List.take (k + 1) L) = R) := by
          have h := HF.out
          rw [if_neg (by simpa using hm)] at h; exact h
        rw [decide_eq_false hm] at hh
        clear hm HF
        go_wp2_with fail
        refine hh.mono ?_; rintro e w1 ⟨rfl, rfl⟩
        clear hh
        go_wp2_with fail
        go_roundw
        · exact ⟨k + 1, by omega, by go_num, by rw [HF2.out]; exact hown, hb⟩
        · simp [intOf]; omega
    · obtain rfl : k = L.length := by omega
      rw [List.take_length] at hown
      have hd0 : decide ((L.length : Int) < (L.length : Int)) = false := decide_eq_false (by omega)
      have HS := Lib.hid (hown.sl (fun z hz => HL.out.1 z ((List.mem_filter.mp hz).1))); clear hown
      go_wp2_with fail
      go_ret
      exact ⟨_, rfl, HS.out, hb⟩

set_option maxHeartbeats 2000000 in
theorem r11drop (v : Value) (L : List Int) (n : Int) (w : World) (hv : Sl w v L) (hl : L.length ≤ 400000000) :
    Calls Tryd.prog 25 #[v, .int .i64 n] w fun e w' => ∃ u, e = .returned (.tuple #[u, .int .i64 (bdropE L n)]) ∧ Sl w' u (bdropK L n) ∧ Below w.heap.size w w' := by
  have HV := Lib.hid hv
  obtain ⟨a, c, rfl, hcap, hc0, hL⟩ := hv
  have HL := Lib.hid hL; clear hcap hc0 hL
  unfold bdropE bdropK
  by_cases h : OkB n
  · have d1 : decide (n < 0) = false := decide_eq_false (by unfold OkB at h; omega)
    have d2 : decide (65535 < n) = false := decide_eq_false (by unfold OkB at h; omega)
    rw [if_pos h, if_pos h]
    obtain ⟨f, hf⟩ : ∃ f, f = L.filter (fun z => decide (z ≠ n)) := ⟨_, rfl⟩
    obtain ⟨e0, he0⟩ : ∃ e0 : Int, e0 = if n ∈ L then 0 else 35 := ⟨_, rfl⟩
    rw [← hf, ← he0]
    have HF0 := Lib.hid hf; have HE0 := Lib.hid he0
    have HN := Lib.hid hl; have hLn : (L.length : Int) ≤ 400000000 := by omega
    clear h hl hf he0
    go_enter Tryd.func25, Tryd.ntmps25
    go_wp2_with fail
    go_loopw [6, 7] (fun v i wr => ∃ k : Nat, k ≤ L.length ∧ i = .int .i64 (k : Int) ∧ Own wr w.heap.size v ((L.take k).filter (fun z => decide (z ≠ n))) ∧ Below w.heap.size w wr) (fun _ i _ => L.length - (intOf i).toNat)
    case atStart => exact ⟨0, Nat.zero_le _, rfl, Own.nil _ _, Below.refl _ _⟩
    case round =>
      obtain ⟨k, hk, rfl, hown, hb⟩ := hrel
      by_cases hlt : k < L.length
      · obtain ⟨b, off, rfl, hc⟩ := (HL.out.below hb).2 k hlt
        have i0 : (0 : Int) ≤ (k : Int) := by omega
        have i1 : (k : Int) < (L.length : Int) := by omega
        have HF := Lib.hid (filt_take hlt (fun z => decide (z ≠ n)))
        have HK := Lib.hid (filt_len hk (fun z => decide (z ≠ n)))
        generalize L.getD k 0 = z at *
        generalize (L.take k).filter (fun z => decide (z ≠ n)) = R at *
        by_cases hm : z = n
        · have HF2 : Hid (List.filter (fun z => decide (z ≠ n)) (List.take (k + 1) L) = R) := by
            have h := HF.out
            rw [if_neg (by simpa using hm)] at h; exact h
          subst hm
          clear HF
          go_wp2_with fail
          go_roundw
          · exact ⟨k + 1, by omega, by go_num, by rw [HF2.out]; exact hown, hb⟩
          · simp [intOf]; omega
        · have HF2 : Hid (List.filter (fun z => decide (z ≠ n)) (List.take (k + 1) L) = R ++ [z]) := by
            have h := HF.out
            rw [if_pos (by simpa using hm)] at h; exact h
          have hm' : (z != n) = true := by simpa using hm
          clear HF hm
          go_wp2_with (at_builtin; refine wp_push wr rfl (.tmp 27) (.tmp 32) rfl w.heap.size _ R z rfl hown rfl (by have := HK.out; have := HN.out; omega) hb.size ?_; intro v1 w1 hown1 hb1)
          go_roundw
          · exact ⟨k + 1, by omega, by go_num, by rw [HF2.out]; exact hown1, hb.trans hb1⟩
          · simp [intOf]; omega
      · obtain rfl : k = L.length := by omega
        rw [List.take_length, ← HF0.out] at hown
        have hd0 : decide ((L.length : Int) < (L.length : Int)) = false := decide_eq_false (by omega)
        have HS := Lib.hid (hown.sl (fun z hz => HL.out.1 z ((List.mem_filter.mp (HF0.out ▸ hz)).1)))
        have HQ : Hid ((f.length = L.length ∧ e0 = 35 ∧ f = L) ∨ (f.length ≠ L.length ∧ e0 = 0)) := by
          by_cases q : n ∈ L
          · right; exact ⟨fun r => (filt_all.mp (HF0.out ▸ r)) q, by rw [HE0.out, if_pos q]⟩
          · left
            have r := filt_all.mpr q
            exact ⟨by rw [HF0.out]; exact r, by rw [HE0.out, if_neg q], by rw [HF0.out]; exact List.filter_eq_self.mpr (List.length_filter_eq_length_iff.mp r)⟩
        obtain ⟨a1, c1, rfl, _, _⟩ := hown.reads (fun z hz => HL.out.1 z ((List.mem_filter.mp (HF0.out ▸ hz)).1))
        clear hown
        rcases HQ.out with ⟨q1, rfl, q3⟩ | ⟨q1, rfl⟩
        · have HV2 : Hid (Sl w (.slice a L.length c) f) := by rw [q3]; exact HV.out
          rw [q1]
          clear q1 q3
          go_wp2_with fail
          go_ret2
          exact ⟨_, rfl, HV2.out.below hb, hb⟩
        · have q2 : ((f.length : Int) == (L.length : Int)) = false := by simp; omega
          clear q1
          go_wp2_with fail
          go_ret2
          exact ⟨_, rfl, HS.out, hb⟩
  · rw [if_neg h, if_neg h]
    by_cases h1 : n < 0
    · clear h hl
      go_enter Tryd.func25, Tryd.ntmps25
      go_wp2_with fail
      go_ret2
      exact ⟨_, rfl, HV.out, Below.refl _ _⟩
    · have h2 : 65535 < n := by unfold OkB at h; omega
      clear h hl
      go_enter Tryd.func25, Tryd.ntmps25
      go_wp2_with fail
      go_ret2
      exact ⟨_, rfl, HV.out, Below.refl _ _⟩
end Go.Proofs.YtiolicadnomagaaDoor
