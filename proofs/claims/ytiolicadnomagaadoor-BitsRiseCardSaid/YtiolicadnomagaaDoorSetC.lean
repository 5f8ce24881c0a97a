/-
  The landed set's Has, turn, Put, Drop, Clear, Len. The conditions: the set's blocks.
-/
import Derived.Test.YtiolicadnomagaaDoorSetB
import Derived.Deep.RegionWith
import Derived.Deep.RegionHeld3
import Derived.Deep.DeepCutAuto
namespace Go.Proofs.YtiolicadnomagaaDoor
open Go.RowKit
set_option linter.unusedSimpArgs false
set_option linter.unusedVariables false

/-- Whether a word has a bit, as the code asks. -/
theorem bit_test (x k : Nat) (hx : x < 18446744073709551616) (hk : k < 64) : bits .and .u64 (x : Int) ((2 ^ k : Nat) : Int) = (if x.testBit k then ((2 ^ k : Nat) : Int) else 0) := by
  have h2 : 2 ^ k < 18446744073709551616 := by
    have : 2 ^ k < 2 ^ 64 := Nat.pow_lt_pow_right (by omega) hk
    simpa using this
  rw [bits_and_u64_nat _ _ hx h2]
  have e : x &&& 2 ^ k = if x.testBit k then 2 ^ k else 0 := by
    apply Nat.eq_of_testBit_eq
    intro i
    rw [Nat.testBit_and, Nat.testBit_two_pow]
    by_cases h : k = i
    · subst h
      cases hb : x.testBit k <;> simp [Nat.testBit_two_pow]
    · rw [decide_eq_false h, Bool.and_false]
      split
      · rw [Nat.testBit_two_pow, decide_eq_false h]
      · simp
  rw [e]
  split <;> simp
theorem bit_flip (x k : Nat) (hx : x < 18446744073709551616) (hk : k < 64) : bits .xor .u64 (x : Int) ((2 ^ k : Nat) : Int) = ((x ^^^ 2 ^ k : Nat) : Int) ∧ x ^^^ 2 ^ k < 18446744073709551616 := by
  have h2 : 2 ^ k < 18446744073709551616 := by
    have : 2 ^ k < 2 ^ 64 := Nat.pow_lt_pow_right (by omega) hk
    simpa using this
  exact ⟨bits_xor_u64_nat _ _ hx h2, by have := @Nat.xor_lt_two_pow x (2 ^ k) 64 (by simpa using hx) (by simpa using h2); simpa using this⟩
set_option maxHeartbeats 4000000 in
set_option maxRecDepth 100000 in
theorem has_in {w : World} {B G : Nat} {ws : List Nat} (h : SetP w B G ws) (n : Int) (h0 : 0 ≤ n) (h1 : n ≤ 65535) :
    Calls Tryd.prog 11 #[.pointer (some ⟨B, 0, none⟩), .int .i64 n] w fun e w' => e = .returned (.bool (decide (n ∈ nums 0 ws))) ∧ w' = w.drew := by
  obtain ⟨m, rfl⟩ := Int.eq_ofNat_of_zero_le h0
  have hm : m ≤ 65535 := by omega
  have hmd := fun wz (q : wz.heap = w.heap) => made_s (h.keep (w' := wz) (by rw [q]) (by rw [q]))
  have hmb := maybe_s (m : Int) (by unfold InR; omega)
  rw [decide_eq_true (show OkB (m : Int) from ⟨h0, h1⟩)] at hmb
  have hbt := bit_s m hm
  have hq : ((m : Int)).tdiv 64 = ((m / 64 : Nat) : Int) := by rw [Int.tdiv_eq_ediv_of_nonneg (by omega)]; omega
  have hq' : wrap64 ((m : Int).tdiv 64) = ((m / 64 : Nat) : Int) := by rw [hq]; unfold wrap64; omega
  have hq2 : wrap64 ((m : Int) / 64) = ((m / 64 : Nat) : Int) := by unfold wrap64; omega
  have hq3 : IntKind.i64.wrap ((m : Int) / 64) = ((m / 64 : Nat) : Int) := by simp [IntKind.wrap, IntKind.signed, IntKind.bits]; omega
  have hq4 : ((m : Int) / 64 + 9223372036854775808) % 18446744073709551616 - 9223372036854775808 = ((m / 64 : Nat) : Int) := by omega
  have hrow := h.row (m / 64) (by omega)
  have hc0 := h.c0
  have hmem : decide ((m : Int) ∈ nums 0 ws) = (ws.getD (m / 64) 0).testBit (m % 64) := by
    have := @mem_nums0 (m : Int) ws h.len
    rw [Int.toNat_natCast] at this
    cases hb : (ws.getD (m / 64) 0).testBit (m % 64)
    · exact decide_eq_false fun q => by have := (this.1 q).2.2; rw [hb] at this; cases this
    · exact decide_eq_true (this.2 ⟨h0, h1, hb⟩)
  rw [hmem]
  have hbd := h.bd (m / 64)
  have i0 : (0 : Int) ≤ ((m / 64 : Nat) : Int) := by omega
  have i1 : ((m / 64 : Nat) : Int) < 1024 := by omega
  have hk : m % 64 < 64 := by omega
  have hb := bit_test (ws.getD (m / 64) 0) (m % 64) hbd hk
  have hp : 0 < 2 ^ (m % 64) := Nat.two_pow_pos _
  obtain ⟨N, hN⟩ : ∃ N : Nat, N = 1024 := ⟨_, rfl⟩
  rw [← hN] at hc0
  rw [show (1024 : Int) = (N : Int) by omega] at i1
  clear hq hq' hq2 hq4 hN
  generalize ws.getD (m / 64) 0 = x at *
  generalize 2 ^ (m % 64) = p at *
  generalize m / 64 = q at *
  generalize x.testBit (m % 64) = r at *
  clear h hmem hbd
  go_enter Tryd.func11, Tryd.ntmps11
  go_wp2_with fail
  go_region_held3 (fun wz => wz.cell? ⟨B, 0, none⟩ = some (.slice (some ⟨G, 0, none⟩) N N) ∧ wz.cell? ⟨G, q, none⟩ = some (.int .u64 (x : Int))) (exact ⟨hc0, hrow⟩)
    (first
      | (go_at_call 28; refine (hmd w.drew rfl).mono ?_; rintro e w1 ⟨rfl, rfl⟩)
      | (go_at_call 29; refine (hmb w.drew).mono ?_; rintro e w1 ⟨rfl, rfl⟩)
      | (go_at_call 30; refine (hbt w.drew).mono ?_; rintro e w1 ⟨rfl, rfl⟩))
  all_goals go_wp2_with fail
  · have hpn : ((p : Int) != 0) = true := by simp; omega
    go_ret
    exact ⟨by simp_all, rfl⟩
  · go_ret
    exact ⟨by simp_all, rfl⟩
/-- What a turn of one number tells, and leaves. -/
def turnE (S : List Int) (n : Int) (b : Bool) : Int := if OkB n then (if decide (n ∈ S) = b then 0 else 35) else 2
def turnK (S : List Int) (n : Int) (b : Bool) : List Int := if OkB n ∧ decide (n ∈ S) = b then (if b then S.filter (· ≠ n) else wth S n) else S
theorem mem_wth (n z : Int) : ∀ L : List Int, z ∈ wth L n ↔ z = n ∨ z ∈ L
  | [] => by simp [wth]
  | x :: l => by
    unfold wth
    split
    · rw [List.mem_cons, mem_wth n z l, List.mem_cons]
      constructor
      · rintro (h | h | h)
        · exact Or.inr (Or.inl h)
        · exact Or.inl h
        · exact Or.inr (Or.inr h)
      · rintro (h | h | h)
        · exact Or.inr (Or.inl h)
        · exact Or.inl h
        · exact Or.inr (Or.inr h)
    · split
      · rename_i h1 h2; subst h2; simp
      · simp
theorem rises_wth (n : Int) : ∀ L : List Int, Rises L → Rises (wth L n)
  | [], _ => List.pairwise_cons.2 ⟨by simp, List.Pairwise.nil⟩
  | x :: l, h => by
    have h' := List.pairwise_cons.1 h
    unfold wth
    split
    · rename_i hx
      refine List.pairwise_cons.2 ⟨fun y hy => ?_, rises_wth n l h'.2⟩
      rcases (mem_wth n y l).1 hy with rfl | q
      · exact hx
      · exact h'.1 y q
    · split
      · exact h
      · refine List.pairwise_cons.2 ⟨fun y hy => ?_, h⟩
        rcases List.mem_cons.1 hy with rfl | q
        · omega
        · have := h'.1 y q; omega
theorem nums_flip {ws : List Nat} (hl : ws.length = 1024) {n : Int} (h : OkB n) : nums 0 (ws.set (n.toNat / 64) (ws.getD (n.toNat / 64) 0 ^^^ 2 ^ (n.toNat % 64))) = turnK (nums 0 ws) n (decide (n ∈ nums 0 ws)) := by
  unfold turnK
  rw [if_pos ⟨h, rfl⟩]
  by_cases hin : n ∈ nums 0 ws
  · rw [decide_eq_true hin, if_pos rfl]
    refine rises_ext (nums_rise _ _) ((nums_rise _ _).filter _) fun z => ?_
    rw [mem_flip hl h.1 h.2, List.mem_filter]
    by_cases e : z = n
    · subst e; rw [if_pos rfl]; simp [hin]
    · rw [if_neg e]; simp [e]
  · rw [decide_eq_false hin, if_neg (by simp)]
    refine rises_ext (nums_rise _ _) (rises_wth n _ (nums_rise _ _)) fun z => ?_
    rw [mem_flip hl h.1 h.2, mem_wth]
    by_cases e : z = n
    · subst e; rw [if_pos rfl]; simp [hin]
    · rw [if_neg e]; simp [e]
set_option maxHeartbeats 4000000 in
set_option maxRecDepth 100000 in
theorem turn_s {w : World} {B G : Nat} {ws : List Nat} (h : SetP w B G ws) (n : Int) (hn : InR n) (b : Bool) :
    Calls Tryd.prog 37 #[.pointer (some ⟨B, 0, none⟩), .int .i64 n, .bool b] w fun e w' =>
      ∃ ws', e = .returned (.int .i64 (turnE (nums 0 ws) n b)) ∧ SetP w' B G ws' ∧ nums 0 ws' = turnK (nums 0 ws) n b ∧ Turn (fun j => j = G) w w' := by
  have hmd := made_s h
  have hmb := maybe_s n hn w
  by_cases ho : OkB n
  · rw [decide_eq_true ho] at hmb
    have hhs := has_in h n ho.1 ho.2
    by_cases e : decide (n ∈ nums 0 ws) = b
    · subst e
      rw [show turnE (nums 0 ws) n (decide (n ∈ nums 0 ws)) = 0 by unfold turnE; rw [if_pos ho, if_pos rfl], ← nums_flip h.len ho]
      obtain ⟨m, rfl⟩ := Int.eq_ofNat_of_zero_le ho.1
      have hm : m ≤ 65535 := by have := ho.2; omega
      rw [Int.toNat_natCast]
      have hq3 : IntKind.i64.wrap ((m : Int) / 64) = ((m / 64 : Nat) : Int) := by simp [IntKind.wrap, IntKind.signed, IntKind.bits]; omega
      have hbt := bit_s m hm
      have hf := bit_flip (ws.getD (m / 64) 0) (m % 64) (h.bd _) (by omega)
      have hput := (h.keep (w' := w.drew.drew) rfl rfl).put (k := m / 64) (x := ws.getD (m / 64) 0 ^^^ 2 ^ (m % 64)) (by omega) hf.2
      have hcs : (w.drew.drew.setCell ⟨G, m / 64, none⟩ (.int .u64 (ws.getD (m / 64) 0 ^^^ 2 ^ (m % 64) : Nat))).cell? ⟨B, 0, none⟩ = some (.slice (some ⟨G, 0, none⟩) 1024 1024) := hput.1.c0
      have HP := Lib.hid (And.intro hcs hput)
      have hc0 := h.c0
      have hrow := h.row (m / 64) (by omega)
      have hfz := h.fz (m / 64) (by omega)
      have i0 : (0 : Int) ≤ ((m / 64 : Nat) : Int) := by omega
      have i1 : ((m / 64 : Nat) : Int) < 1024 := by omega
      have hx := hf.1
      obtain ⟨N, hN⟩ : ∃ N : Nat, N = 1024 := ⟨_, rfl⟩
      rw [← hN] at hc0 HP
      rw [show (1024 : Int) = (N : Int) by omega] at i1
      generalize decide ((m : Int) ∈ nums 0 ws) = d at *
      generalize hX : ws.getD (m / 64) 0 = x at *
      generalize hP2 : 2 ^ (m % 64) = p at *
      generalize hY : x ^^^ p = y at *
      generalize hQ : m / 64 = q at *
      clear h hput hcs hf hN hX hP2 hY hQ
      go_enter Tryd.func37, Tryd.ntmps37
      go_wp2_with fail
      refine hmd.mono ?_; rintro e w1 ⟨rfl, rfl⟩
      go_wp2_with fail
      refine hmb.mono ?_; rintro e w1 ⟨rfl, rfl⟩
      go_wp2_with fail
      refine hhs.mono ?_; rintro e w1 ⟨rfl, rfl⟩
      go_wp2_with fail
      refine wp_region_held_drew (S := (fun wz => wz.cell? ⟨B, 0, none⟩ = some (.slice (some ⟨G, 0, none⟩) N N))) (by kernel_rfl) (hc0) (fun hHeld => ?_)
      refine wpAnyH_take (i := 0) (v := ?_) rfl (by kernel_rfl) (by kernel_rfl) (by kernel_rfl) (fun _ _ _ h => h) (Or.inl ⟨by rfl, ?y0⟩) (by assumption) ?_
      case y0 => intro w hSw; (try dsimp only at hSw); go_simp; (try with_reducible rfl)
      (try simp only [Act.put, List.setIfInBounds_toArray, List.set_cons_zero, List.set_cons_succ, List.getElem_toArray, List.getElem_cons_zero, List.getElem_cons_succ])
      refine wpAnyH_take (i := 1) (v := ?_) rfl (by kernel_rfl) (by kernel_rfl) (by kernel_rfl) (fun _ _ _ h => h) (Or.inl ⟨by rfl, ?y1⟩) (by assumption) ?_
      case y1 => intro w hSw; (try dsimp only at hSw); go_simp; (try with_reducible rfl)
      (try simp only [Act.put, List.setIfInBounds_toArray, List.set_cons_zero, List.set_cons_succ, List.getElem_toArray, List.getElem_cons_zero, List.getElem_cons_succ])
      refine wpAnyH_take (i := 2) (v := ?_) rfl (by kernel_rfl) (by kernel_rfl) (by kernel_rfl) (fun _ _ _ h => h) (Or.inl ⟨by rfl, ?y2⟩) (by assumption) ?_
      case y2 => intro w hSw; (try dsimp only at hSw); go_simp; (try with_reducible rfl)
      (try simp only [Act.put, List.setIfInBounds_toArray, List.set_cons_zero, List.set_cons_succ, List.getElem_toArray, List.getElem_cons_zero, List.getElem_cons_succ])
      refine wpAnyH_take (i := 3) (v := ?_) rfl (by kernel_rfl) (by kernel_rfl) (by kernel_rfl) (fun _ _ _ h => h) (Or.inl ⟨by rfl, ?y3⟩) (by assumption) ?_
      case y3 => intro w hSw; (try dsimp only at hSw); go_simp; (try with_reducible rfl)
      (try simp only [Act.put, List.setIfInBounds_toArray, List.set_cons_zero, List.set_cons_succ, List.getElem_toArray, List.getElem_cons_zero, List.getElem_cons_succ])
      refine wpAnyH_take (i := 4) (v := ?_) rfl (by kernel_rfl) (by kernel_rfl) (by kernel_rfl) (fun _ _ _ h => h) (Or.inl ⟨by rfl, ?y4⟩) (by assumption) ?_
      case y4 => intro w hSw; (try dsimp only at hSw); go_simp; (try with_reducible rfl)
      (try simp only [Act.put, List.setIfInBounds_toArray, List.set_cons_zero, List.set_cons_succ, List.getElem_toArray, List.getElem_cons_zero, List.getElem_cons_succ])
      refine wpAnyH_take (i := 5) (v := ?_) rfl (by kernel_rfl) (by kernel_rfl) (by kernel_rfl) (fun _ _ _ h => h) (Or.inl ⟨by rfl, ?y5⟩) (by assumption) ?_
      case y5 => intro w hSw; (try dsimp only at hSw); go_simp; (try with_reducible rfl)
      (try simp only [Act.put, List.setIfInBounds_toArray, List.set_cons_zero, List.set_cons_succ, List.getElem_toArray, List.getElem_cons_zero, List.getElem_cons_succ])
      refine wpAnyH_take (i := 6) (v := ?_) rfl (by kernel_rfl) (by kernel_rfl) (by kernel_rfl) (fun _ _ _ h => h) (Or.inl ⟨by rfl, ?y6⟩) (by assumption) ?_
      case y6 => intro w hSw; (try dsimp only at hSw); go_simp; (try with_reducible rfl)
      (try simp only [Act.put, List.setIfInBounds_toArray, List.set_cons_zero, List.set_cons_succ, List.getElem_toArray, List.getElem_cons_zero, List.getElem_cons_succ])
      refine wpAnyH_take (i := 8) (v := ?_) rfl (by kernel_rfl) (by kernel_rfl) (by kernel_rfl) (fun _ _ _ h => h) (Or.inl ⟨by rfl, ?y8⟩) (by assumption) ?_
      case y8 => intro w hSw; (try dsimp only at hSw); go_simp; (try with_reducible rfl)
      (try simp only [Act.put, List.setIfInBounds_toArray, List.set_cons_zero, List.set_cons_succ, List.getElem_toArray, List.getElem_cons_zero, List.getElem_cons_succ])
      refine wpAnyH_ready (rs := [7, 9]) (by kernel_rfl) (by simp) ?_
      refine AllReadyH.cons rfl (fun KK hKK => ?_) (AllReadyH.cons rfl (fun KK hKK => ?_) AllReadyH.nil)
      · skip
        go_simp
        refine hKK.out _ _ hc0 (fun hHeld => ?_)
        clear hKK KK
        (try simp only [Act.put, List.setIfInBounds_toArray, List.set_cons_zero, List.set_cons_succ, List.getElem_toArray, List.getElem_cons_zero, List.getElem_cons_succ])
        refine wpAnyH_ready (rs := [9]) (by kernel_rfl) (by simp) ?_
        refine AllReadyH.cons rfl (fun KK hKK => ?_) AllReadyH.nil
        go_simp
        refine (hbt w1.drew.drew).mono ?_; rintro e w2 ⟨rfl, rfl⟩
        refine hKK.out _ _ hc0 (fun hHeld => ?_)
        clear hKK KK
        (try simp only [Act.put, List.setIfInBounds_toArray, List.set_cons_zero, List.set_cons_succ, List.getElem_toArray, List.getElem_cons_zero, List.getElem_cons_succ])
        refine wpAnyH_take (i := 10) (v := ?_) rfl (by kernel_rfl) (by kernel_rfl) (by kernel_rfl) (fun _ _ _ h => h) (Or.inl ⟨by rfl, ?y10⟩) (by assumption) ?_
        case y10 => intro w hSw; (try dsimp only at hSw); go_simp; (try with_reducible rfl)
        (try simp only [Act.put, List.setIfInBounds_toArray, List.set_cons_zero, List.set_cons_succ, List.getElem_toArray, List.getElem_cons_zero, List.getElem_cons_succ])
        refine wpAnyH_take (i := 11) (v := ?_) rfl (by kernel_rfl) (by kernel_rfl) (by kernel_rfl) (fun _ _ _ h => h) (Or.inl ⟨by rfl, ?y11⟩) (by assumption) ?_
        case y11 => intro w hSw; (try dsimp only at hSw); go_simp; (try with_reducible rfl)
        (try simp only [Act.put, List.setIfInBounds_toArray, List.set_cons_zero, List.set_cons_succ, List.getElem_toArray, List.getElem_cons_zero, List.getElem_cons_succ])
        refine wpAnyH_ready (rs := [12]) (by kernel_rfl) (by simp) ?_
        refine AllReadyH.cons rfl (fun KK hKK => ?_) AllReadyH.nil
        go_simp
        refine hKK.out _ _ HP.out.1 (fun hHeld => ?_)
        clear hKK KK
        refine wpAnyH_done (by kernel_rfl) ?_ _
        go_wp2_with fail
        go_ret
        exact ⟨_, rfl, HP.out.2.1, rfl, Turn.trans (Turn.of_below ((Below.refl _ _).drew.drew)) HP.out.2.2 (fun j q => Or.inl q)⟩
      · skip
        go_simp
        refine (hbt w1.drew.drew).mono ?_; rintro e w2 ⟨rfl, rfl⟩
        refine hKK.out _ _ hc0 (fun hHeld => ?_)
        clear hKK KK
        (try simp only [Act.put, List.setIfInBounds_toArray, List.set_cons_zero, List.set_cons_succ, List.getElem_toArray, List.getElem_cons_zero, List.getElem_cons_succ])
        refine wpAnyH_ready (rs := [7]) (by kernel_rfl) (by simp) ?_
        refine AllReadyH.cons rfl (fun KK hKK => ?_) AllReadyH.nil
        go_simp
        refine hKK.out _ _ hc0 (fun hHeld => ?_)
        clear hKK KK
        (try simp only [Act.put, List.setIfInBounds_toArray, List.set_cons_zero, List.set_cons_succ, List.getElem_toArray, List.getElem_cons_zero, List.getElem_cons_succ])
        refine wpAnyH_take (i := 10) (v := ?_) rfl (by kernel_rfl) (by kernel_rfl) (by kernel_rfl) (fun _ _ _ h => h) (Or.inl ⟨by rfl, ?y10⟩) (by assumption) ?_
        case y10 => intro w hSw; (try dsimp only at hSw); go_simp; (try with_reducible rfl)
        (try simp only [Act.put, List.setIfInBounds_toArray, List.set_cons_zero, List.set_cons_succ, List.getElem_toArray, List.getElem_cons_zero, List.getElem_cons_succ])
        refine wpAnyH_take (i := 11) (v := ?_) rfl (by kernel_rfl) (by kernel_rfl) (by kernel_rfl) (fun _ _ _ h => h) (Or.inl ⟨by rfl, ?y11⟩) (by assumption) ?_
        case y11 => intro w hSw; (try dsimp only at hSw); go_simp; (try with_reducible rfl)
        (try simp only [Act.put, List.setIfInBounds_toArray, List.set_cons_zero, List.set_cons_succ, List.getElem_toArray, List.getElem_cons_zero, List.getElem_cons_succ])
        refine wpAnyH_ready (rs := [12]) (by kernel_rfl) (by simp) ?_
        refine AllReadyH.cons rfl (fun KK hKK => ?_) AllReadyH.nil
        go_simp
        refine hKK.out _ _ HP.out.1 (fun hHeld => ?_)
        clear hKK KK
        refine wpAnyH_done (by kernel_rfl) ?_ _
        go_wp2_with fail
        go_ret
        exact ⟨_, rfl, HP.out.2.1, rfl, Turn.trans (Turn.of_below ((Below.refl _ _).drew.drew)) HP.out.2.2 (fun j q => Or.inl q)⟩
    · have e1 : turnE (nums 0 ws) n b = 35 := by unfold turnE; rw [if_pos ho, if_neg e]
      have e2 : turnK (nums 0 ws) n b = nums 0 ws := by unfold turnK; rw [if_neg (fun q => e q.2)]
      rw [e1, e2]
      have hne : (decide (n ∈ nums 0 ws) == b) = false := beq_eq_false_iff_ne.mpr e
      have HP : Hid (SetP w.drew B G ws) := h.keep rfl rfl
      generalize decide (n ∈ nums 0 ws) = d at *
      clear h e1 e2
      go_enter Tryd.func37, Tryd.ntmps37
      go_wp2_with fail
      refine hmd.mono ?_; rintro e w1 ⟨rfl, rfl⟩
      go_wp2_with fail
      refine hmb.mono ?_; rintro e w1 ⟨rfl, rfl⟩
      go_wp2_with fail
      refine hhs.mono ?_; rintro e w1 ⟨rfl, rfl⟩
      go_wp2_with fail
      go_ret
      exact ⟨_, rfl, HP.out, rfl, Turn.of_below (Below.refl _ _).drew⟩
  · rw [decide_eq_false ho] at hmb
    have e1 : turnE (nums 0 ws) n b = 2 := by unfold turnE; rw [if_neg ho]
    have e2 : turnK (nums 0 ws) n b = nums 0 ws := by unfold turnK; rw [if_neg (fun q => ho q.1)]
    rw [e1, e2]
    go_enter Tryd.func37, Tryd.ntmps37
    go_wp2_with fail
    refine hmd.mono ?_; rintro e w1 ⟨rfl, rfl⟩
    go_wp2_with fail
    refine hmb.mono ?_; rintro e w1 ⟨rfl, rfl⟩
    go_wp2_with fail
    go_ret
    exact ⟨_, rfl, h, rfl, Turn.refl _ _⟩
theorem turn_n (n : Int) (b : Bool) (w : World) : Calls Tryd.prog 37 #[.pointer none, .int .i64 n, .bool b] w fun e w' => e = .returned (.int .i64 1) ∧ w' = w := by
  have hmd := made_n w
  go_enter Tryd.func37, Tryd.ntmps37
  go_wp2_with fail
  refine hmd.mono ?_; rintro e w1 ⟨rfl, rfl⟩
  go_wp2_with fail
  go_ret
  exact ⟨rfl, rfl⟩
/-- The set's calls, on the set of the numbers S. -/
theorem putE_is (S : List Int) (n : Int) : turnE S n false = bputE S n ∧ turnK S n false = bputK S n := by
  unfold turnE turnK bputE bputK
  by_cases h : OkB n <;> by_cases k : n ∈ S <;> simp [h, k]
theorem dropE_is (S : List Int) (n : Int) : turnE S n true = bdropE S n ∧ turnK S n true = bdropK S n := by
  unfold turnE turnK bdropE bdropK
  by_cases h : OkB n
  · by_cases k : n ∈ S
    · simp [h, k]
    · refine ⟨by simp [h, k], ?_⟩
      rw [if_neg (fun q => by simp [k] at q), if_pos h]
      exact (List.filter_eq_self.2 (fun a ha => by simp; intro e; exact k (e ▸ ha))).symm
  · simp [h]
theorem put_s {w : World} {B : Nat} {S : List Int} {F : Nat → Prop} (h : SetR w B S F) (n : Int) (hn : InR n) :
    Calls Tryd.prog 21 #[.pointer (some ⟨B, 0, none⟩), .int .i64 n] w fun e w' => e = .returned (.int .i64 (bputE S n)) ∧ SetR w' B (bputK S n) F ∧ Turn F w w' := by
  obtain ⟨G, ws, h, rfl, rfl⟩ := h
  have ht := turn_s h n hn false
  rw [(putE_is _ n).1, (putE_is _ n).2] at ht
  clear h
  go_enter Tryd.func21, Tryd.ntmps21
  go_wp2_with fail
  refine ht.mono ?_; rintro e w1 ⟨ws', rfl, h1, h2, h3⟩
  go_wp2_with fail
  go_ret
  exact ⟨rfl, ⟨G, ws', h1, h2.symm, rfl⟩, h3.mono (fun j q => Or.inr q)⟩
theorem drop_s {w : World} {B : Nat} {S : List Int} {F : Nat → Prop} (h : SetR w B S F) (n : Int) (hn : InR n) :
    Calls Tryd.prog 22 #[.pointer (some ⟨B, 0, none⟩), .int .i64 n] w fun e w' => e = .returned (.int .i64 (bdropE S n)) ∧ SetR w' B (bdropK S n) F ∧ Turn F w w' := by
  obtain ⟨G, ws, h, rfl, rfl⟩ := h
  have ht := turn_s h n hn true
  rw [(dropE_is _ n).1, (dropE_is _ n).2] at ht
  clear h
  go_enter Tryd.func22, Tryd.ntmps22
  go_wp2_with fail
  refine ht.mono ?_; rintro e w1 ⟨ws', rfl, h1, h2, h3⟩
  go_wp2_with fail
  go_ret
  exact ⟨rfl, ⟨G, ws', h1, h2.symm, rfl⟩, h3.mono (fun j q => Or.inr q)⟩
theorem put_n (n : Int) (w : World) : Calls Tryd.prog 21 #[.pointer none, .int .i64 n] w fun e w' => e = .returned (.int .i64 1) ∧ w' = w := by
  have ht := turn_n n false w
  go_enter Tryd.func21, Tryd.ntmps21
  go_wp2_with fail
  refine ht.mono ?_; rintro e w1 ⟨rfl, rfl⟩
  go_wp2_with fail
  go_ret
  exact ⟨rfl, rfl⟩
set_option maxHeartbeats 1000000 in
theorem has_s {w : World} {B : Nat} {S : List Int} {F : Nat → Prop} (h : SetR w B S F) (n : Int) (hn : InR n) :
    Calls Tryd.prog 11 #[.pointer (some ⟨B, 0, none⟩), .int .i64 n] w fun e w' => e = .returned (.bool (decide (n ∈ S))) ∧ Below w.heap.size w w' := by
  have hok := h.ok
  obtain ⟨G, ws, h, rfl, rfl⟩ := h
  by_cases ho : OkB n
  · exact (has_in h n ho.1 ho.2).mono fun e w' ⟨he, hw⟩ => ⟨he, hw ▸ (Below.refl _ _).drew⟩
  · rw [decide_eq_false (fun q => ho (hok n q))]
    have hmd := fun wz (q : wz.heap = w.heap) => made_s (h.keep (w' := wz) (by rw [q]) (by rw [q]))
    have hmb := maybe_s n hn
    rw [decide_eq_false ho] at hmb
    clear h hok
    go_enter Tryd.func11, Tryd.ntmps11
    go_wp2_with fail
    refine wp_region_held_drew (S := (fun _ => True)) (by kernel_rfl) (trivial) (fun hHeld => ?_)
    refine wpAnyH_take (i := 0) (v := ?_) rfl (by kernel_rfl) (by kernel_rfl) (by kernel_rfl) (fun _ _ _ h => h) (Or.inl ⟨by rfl, ?y0⟩) (by assumption) ?_
    case y0 => intro w hSw; (try dsimp only at hSw); go_simp; (try with_reducible rfl)
    (try simp only [Act.put, List.setIfInBounds_toArray, List.set_cons_zero, List.set_cons_succ, List.getElem_toArray, List.getElem_cons_zero, List.getElem_cons_succ])
    refine wpAnyH_ready (rs := [1]) (by kernel_rfl) (by simp) ?_
    refine AllReadyH.cons rfl (fun K hK => ?_) AllReadyH.nil
    go_simp
    refine (hmd w.drew rfl).mono ?_; rintro e w1 ⟨rfl, rfl⟩
    refine hK.out _ _ (trivial) (fun hHeld => ?_)
    clear hK K
    (try simp only [Act.put, List.setIfInBounds_toArray, List.set_cons_zero, List.set_cons_succ, List.getElem_toArray, List.getElem_cons_zero, List.getElem_cons_succ])
    refine wpAnyH_take (i := 2) (v := ?_) rfl (by kernel_rfl) (by kernel_rfl) (by kernel_rfl) (fun _ _ _ h => h) (Or.inl ⟨by rfl, ?y2⟩) (by assumption) ?_
    case y2 => intro w hSw; (try dsimp only at hSw); go_simp; (try with_reducible rfl)
    (try simp only [Act.put, List.setIfInBounds_toArray, List.set_cons_zero, List.set_cons_succ, List.getElem_toArray, List.getElem_cons_zero, List.getElem_cons_succ])
    refine wpAnyH_take (i := 3) (v := ?_) rfl (by kernel_rfl) (by kernel_rfl) (by kernel_rfl) (fun _ _ _ h => h) (Or.inl ⟨by rfl, ?y3⟩) (by assumption) ?_
    case y3 => intro w hSw; (try dsimp only at hSw); go_simp; (try with_reducible rfl)
    (try simp only [Act.put, List.setIfInBounds_toArray, List.set_cons_zero, List.set_cons_succ, List.getElem_toArray, List.getElem_cons_zero, List.getElem_cons_succ])
    refine wpAnyH_ready (rs := [4]) (by kernel_rfl) (by simp) ?_
    refine AllReadyH.cons rfl (fun K hK => ?_) AllReadyH.nil
    go_simp
    refine (hmb w.drew).mono ?_; rintro e w1 ⟨rfl, rfl⟩
    refine hK.out _ _ (trivial) (fun hHeld => ?_)
    clear hK K
    (try simp only [Act.put, List.setIfInBounds_toArray, List.set_cons_zero, List.set_cons_succ, List.getElem_toArray, List.getElem_cons_zero, List.getElem_cons_succ])
    refine wpAnyH_take (i := 5) (v := ?_) rfl (by kernel_rfl) (by kernel_rfl) (by kernel_rfl) (fun _ _ _ h => h) (Or.inl ⟨by rfl, ?y5⟩) (by assumption) ?_
    case y5 => intro w hSw; (try dsimp only at hSw); go_simp; (try with_reducible rfl)
    (try simp only [Act.put, List.setIfInBounds_toArray, List.set_cons_zero, List.set_cons_succ, List.getElem_toArray, List.getElem_cons_zero, List.getElem_cons_succ])
    refine wpAnyH_take (i := 6) (v := ?_) rfl (by kernel_rfl) (by kernel_rfl) (by kernel_rfl) (fun _ _ _ h => h) (Or.inl ⟨by rfl, ?y6⟩) (by assumption) ?_
    case y6 => intro w hSw; (try dsimp only at hSw); go_simp; (try with_reducible rfl)
    (try simp only [Act.put, List.setIfInBounds_toArray, List.set_cons_zero, List.set_cons_succ, List.getElem_toArray, List.getElem_cons_zero, List.getElem_cons_succ])
    refine wpAnyH_take (i := 7) (v := undef) rfl (by kernel_rfl) (by kernel_rfl) (by kernel_rfl) (fun _ _ _ h => h) (Or.inr ⟨by rfl, rfl⟩) (by assumption) ?_
    (try simp only [Act.put, List.setIfInBounds_toArray, List.set_cons_zero, List.set_cons_succ, List.getElem_toArray, List.getElem_cons_zero, List.getElem_cons_succ])
    refine wpAnyH_take (i := 8) (v := undef) rfl (by kernel_rfl) (by kernel_rfl) (by kernel_rfl) (fun _ _ _ h => h) (Or.inr ⟨by rfl, rfl⟩) (by assumption) ?_
    (try simp only [Act.put, List.setIfInBounds_toArray, List.set_cons_zero, List.set_cons_succ, List.getElem_toArray, List.getElem_cons_zero, List.getElem_cons_succ])
    refine wpAnyH_take (i := 9) (v := undef) rfl (by kernel_rfl) (by kernel_rfl) (by kernel_rfl) (fun _ _ _ h => h) (Or.inr ⟨by rfl, rfl⟩) (by assumption) ?_
    (try simp only [Act.put, List.setIfInBounds_toArray, List.set_cons_zero, List.set_cons_succ, List.getElem_toArray, List.getElem_cons_zero, List.getElem_cons_succ])
    refine wpAnyH_take (i := 10) (v := undef) rfl (by kernel_rfl) (by kernel_rfl) (by kernel_rfl) (fun _ _ _ h => h) (Or.inr ⟨by rfl, rfl⟩) (by assumption) ?_
    (try simp only [Act.put, List.setIfInBounds_toArray, List.set_cons_zero, List.set_cons_succ, List.getElem_toArray, List.getElem_cons_zero, List.getElem_cons_succ])
    refine wpAnyH_take (i := 11) (v := undef) rfl (by kernel_rfl) (by kernel_rfl) (by kernel_rfl) (fun _ _ _ h => h) (Or.inr ⟨by rfl, rfl⟩) (by assumption) ?_
    (try simp only [Act.put, List.setIfInBounds_toArray, List.set_cons_zero, List.set_cons_succ, List.getElem_toArray, List.getElem_cons_zero, List.getElem_cons_succ])
    refine wpAnyH_take (i := 12) (v := undef) rfl (by kernel_rfl) (by kernel_rfl) (by kernel_rfl) (fun _ _ _ h => h) (Or.inr ⟨by rfl, rfl⟩) (by assumption) ?_
    (try simp only [Act.put, List.setIfInBounds_toArray, List.set_cons_zero, List.set_cons_succ, List.getElem_toArray, List.getElem_cons_zero, List.getElem_cons_succ])
    refine wpAnyH_take (i := 13) (v := undef) rfl (by kernel_rfl) (by kernel_rfl) (by kernel_rfl) (fun _ _ _ h => h) (Or.inr ⟨by rfl, rfl⟩) (by assumption) ?_
    (try simp only [Act.put, List.setIfInBounds_toArray, List.set_cons_zero, List.set_cons_succ, List.getElem_toArray, List.getElem_cons_zero, List.getElem_cons_succ])
    refine wpAnyH_take (i := 14) (v := undef) rfl (by kernel_rfl) (by kernel_rfl) (by kernel_rfl) (fun _ _ _ h => h) (Or.inr ⟨by rfl, rfl⟩) (by assumption) ?_
    (try simp only [Act.put, List.setIfInBounds_toArray, List.set_cons_zero, List.set_cons_succ, List.getElem_toArray, List.getElem_cons_zero, List.getElem_cons_succ])
    refine wpAnyH_take (i := 15) (v := undef) rfl (by kernel_rfl) (by kernel_rfl) (by kernel_rfl) (fun _ _ _ h => h) (Or.inr ⟨by rfl, rfl⟩) (by assumption) ?_
    (try simp only [Act.put, List.setIfInBounds_toArray, List.set_cons_zero, List.set_cons_succ, List.getElem_toArray, List.getElem_cons_zero, List.getElem_cons_succ])
    refine wpAnyH_take (i := 16) (v := undef) rfl (by kernel_rfl) (by kernel_rfl) (by kernel_rfl) (fun _ _ _ h => h) (Or.inr ⟨by rfl, rfl⟩) (by assumption) ?_
    (try simp only [Act.put, List.setIfInBounds_toArray, List.set_cons_zero, List.set_cons_succ, List.getElem_toArray, List.getElem_cons_zero, List.getElem_cons_succ])
    refine wpAnyH_take (i := 17) (v := undef) rfl (by kernel_rfl) (by kernel_rfl) (by kernel_rfl) (fun _ _ _ h => h) (Or.inr ⟨by rfl, rfl⟩) (by assumption) ?_
    (try simp only [Act.put, List.setIfInBounds_toArray, List.set_cons_zero, List.set_cons_succ, List.getElem_toArray, List.getElem_cons_zero, List.getElem_cons_succ])
    refine wpAnyH_take (i := 18) (v := undef) rfl (by kernel_rfl) (by kernel_rfl) (by kernel_rfl) (fun _ _ _ h => h) (Or.inr ⟨by rfl, rfl⟩) (by assumption) ?_
    (try simp only [Act.put, List.setIfInBounds_toArray, List.set_cons_zero, List.set_cons_succ, List.getElem_toArray, List.getElem_cons_zero, List.getElem_cons_succ])
    refine wpAnyH_take (i := 19) (v := ?_) rfl (by kernel_rfl) (by kernel_rfl) (by kernel_rfl) (fun _ _ _ h => h) (Or.inl ⟨by rfl, ?y19⟩) (by assumption) ?_
    case y19 => intro w hSw; (try dsimp only at hSw); go_simp; (try with_reducible rfl)
    (try simp only [Act.put, List.setIfInBounds_toArray, List.set_cons_zero, List.set_cons_succ, List.getElem_toArray, List.getElem_cons_zero, List.getElem_cons_succ])
    refine wpAnyH_take (i := 20) (v := ?_) rfl (by kernel_rfl) (by kernel_rfl) (by kernel_rfl) (fun _ _ _ h => h) (Or.inl ⟨by rfl, ?y20⟩) (by assumption) ?_
    case y20 => intro w hSw; (try dsimp only at hSw); go_simp; (try with_reducible rfl)
    (try simp only [Act.put, List.setIfInBounds_toArray, List.set_cons_zero, List.set_cons_succ, List.getElem_toArray, List.getElem_cons_zero, List.getElem_cons_succ])
    refine wpAnyH_done (by kernel_rfl) ?_ _
    go_wp2_with fail
    go_ret
    exact ⟨rfl, (Below.refl _ _).drew⟩
end Go.Proofs.YtiolicadnomagaaDoor
