/-
  What the document's own first, Peek, Pop, Sorted and Same (gavelkindref09) answer, for whatever rows of pairs. The condition: at most 9 * 10^8 pairs.
-/
import Derived.Test.YtjkldjgeagociaaPilM
import Derived.Test.YtjkldjgeagociaaRatK
import Derived.Deep.QuietTactic
import Derived.BigQuiet
import Derived.WalkSmall
import Derived.Deep.RegionHeld3
import Derived.Deep.DeepCutAuto
namespace Go.Proofs.Ytjkldjgeagociaa
open Go.RowKit
set_option linter.unusedSimpArgs false
set_option linter.unusedVariables false

set_option maxHeartbeats 2000000 in
theorem r9first (v : Value) (L : List (Int × Int)) (w : World) (hv : SlP w v L) (hn : (L.length : Int) ≤ 900000000) :
    Calls Try.prog 32 #[v] w fun e w' => e = .returned (.int .i64 (lowi L)) ∧ Below w.heap.size w w' := by
  obtain ⟨a, c, rfl⟩ := hv.form
  have HL := Lib.hid hv; clear hv
  go_enter Try.func32, Try.ntmps32
  go_wp2_with fail
  go_loopw [3, 4] (fun v i wr => ∃ k : Nat, k ≤ L.length ∧ i = .int .i64 (k : Int) ∧ v = .int .i64 (lowAt L k) ∧ Below w.heap.size w wr) (fun _ i _ => L.length - (intOf i).toNat)
  case atStart => exact ⟨0, Nat.zero_le _, rfl, rfl, Below.refl _ _⟩
  case round =>
    obtain ⟨k, hk, rfl, rfl, hb⟩ := hrel
    by_cases hlt : k < L.length
    · obtain ⟨b, off, rfl, hc, _⟩ := (HL.out.below hb).cell k hlt
      have i0 : (0 : Int) ≤ (k : Int) := by omega
      have i1 : (k : Int) < (L.length : Int) := by omega
      rcases lowAt_bd L k with ⟨rfl, hq⟩ | ⟨q1, q2, q3⟩
      · rw [hq]
        have HR : Hid (lowAt L 1 = 0) := by show _ = _; unfold lowAt; rw [hq]; simp
        clear hq
        go_wp2_with fail
        go_quiet (fail)
        go_wp2_with fail
        go_roundw
        · exact ⟨1, by omega, by go_num, by rw [HR.out]; rfl, below_drewN hb _⟩
        · simp [intOf]; omega
      · obtain ⟨m, hm⟩ := Int.eq_ofNat_of_zero_le q2
        have HS : Hid (lowAt L (k + 1) = if (L.getD k (0, 0)).1 < (L.getD m (0, 0)).1 then (k : Int) else (m : Int)) := by
          show _ = _
          rw [lowAt, hm, Int.toNat_natCast]
          by_cases q : (L.getD k (0, 0)).1 < (L.getD m (0, 0)).1
          · rw [if_pos q, if_pos (Or.inr q)]
          · rw [if_neg q, if_neg (by omega)]
        rw [hm] at q3 ⊢
        obtain ⟨b', off', e', hc', _⟩ := (HL.out.below hb).cell m (by omega)
        cases e'
        have j0 : (0 : Int) ≤ (m : Int) := by omega
        have j1 : (m : Int) < (L.length : Int) := by omega
        have j2 : decide ((m : Int) < 0) = false := decide_eq_false (by omega)
        generalize (L.getD k (0, 0)).1 = x at *
        generalize (L.getD m (0, 0)).1 = y at *
        clear q1 q2 q3 hm
        by_cases hxy : x < y
        · have HS2 : Hid (lowAt L (k + 1) = (k : Int)) := by have h := HS.out; rw [if_pos hxy] at h; exact h
          clear HS
          have d : decide (x < y) = true := decide_eq_true hxy
          clear hxy
          go_wp2_with fail
          go_quiet (fail)
          go_wp2_with fail
          go_roundw
          · exact ⟨k + 1, by omega, by go_num, by rw [HS2.out], below_drewN hb _⟩
          · simp [intOf]; omega
        · have HS2 : Hid (lowAt L (k + 1) = (m : Int)) := by have h := HS.out; rw [if_neg hxy] at h; exact h
          clear HS
          have d : decide (x < y) = false := decide_eq_false hxy
          clear hxy
          go_wp2_with fail
          go_quiet (fail)
          go_wp2_with fail
          go_roundw
          · exact ⟨k + 1, by omega, by go_num, by rw [HS2.out], below_drewN hb _⟩
          · simp [intOf]; omega
    · obtain rfl : k = L.length := by omega
      have hd0 : decide ((L.length : Int) < (L.length : Int)) = false := decide_eq_false (by omega)
      go_wp2_with fail
      go_ret
      exact ⟨rfl, hb⟩

theorem eq_pair (a b c d : Int) (w : World) : (Op.equalIn 10000 25 (.agg #[.int .i64 a, .int .i64 b]) (.agg #[.int .i64 c, .int .i64 d])).run Try.prog w = .ok (a == c && b == d) w := by
  obtain ⟨i, hi⟩ := info_of_underlying Try.underlying3
  rw [show (10000 : Nat) = 9999 + 1 from rfl, run_equalIn_array w 9999 _ _ Try.underlying25 hi]
  have c1 : Try.prog.cellsOf 3 = 1 := by kernel_rfl
  simp [Op.eqItems, List.range, List.range.loop, c1, go_sem, Try.underlying3]
  by_cases h1 : a = c <;> by_cases h2 : b = d <;> simp [h1, h2]
theorem take_eq_step2 {L M : List (Int × Int)} {k : Nat} (h : k < L.length) (h' : k < M.length) (he : L.take k = M.take k) (hz : L.getD k (0, 0) = M.getD k (0, 0)) : L.take (k + 1) = M.take (k + 1) := by
  rw [List.take_succ_eq_append_getElem h, List.take_succ_eq_append_getElem h', he]
  simp [List.getD, h, h'] at hz
  rw [hz]

set_option maxHeartbeats 2000000 in
theorem r9same (v v' : Value) (L M : List (Int × Int)) (w : World) (hv : SlP w v L) (hv' : SlP w v' M) (hn : (L.length : Int) ≤ 900000000) :
    Calls Try.prog 12 #[v, v'] w fun e w' => e = .returned (.bool (decide (L = M))) ∧ Below w.heap.size w w' := by
  obtain ⟨a, c, rfl⟩ := hv.form
  obtain ⟨a', c', rfl⟩ := hv'.form
  by_cases hl : L.length = M.length
  · have HL := Lib.hid hv; have HM := Lib.hid hv'; clear hv hv'
    obtain ⟨r, hr⟩ : ∃ r, r = decide (L = M) := ⟨_, rfl⟩
    rw [← hr]
    have HR := Lib.hid hr; clear hr
    rw [← hl] at HM ⊢
    have HE := Lib.hid hl; clear hl
    go_enter Try.func12, Try.ntmps12
    go_wp2_with fail
    go_loopw [5] (fun i wr => ∃ k : Nat, k ≤ L.length ∧ i = .int .i64 (k : Int) ∧ L.take k = M.take k ∧ Below w.heap.size w wr) (fun i _ => L.length - (intOf i).toNat)
    case atStart => exact ⟨0, Nat.zero_le _, rfl, by simp, Below.refl _ _⟩
    case round =>
      obtain ⟨k, hk, rfl, hok, hb⟩ := hrel
      by_cases hlt : k < L.length
      · obtain ⟨b, off, rfl, hc, hd⟩ := (HL.out.below hb).cell k hlt
        have HM2 : Hid (SlP w (.slice a' M.length c') M) := by have h := HM.out; rw [HE.out] at h; exact h
        obtain ⟨b', off', rfl, hc', hd'⟩ := (HM2.out.below hb).cell k (by have := HE.out; omega)
        have i0 : (0 : Int) ≤ (k : Int) := by omega
        have i1 : (k : Int) < (L.length : Int) := by omega
        have HK := Lib.hid (take_eq_step2 (M := M) hlt (by have := HE.out; omega) hok); clear hok
        have HZ : Hid (L.getD k (0, 0) ≠ M.getD k (0, 0) → L ≠ M) := fun q e => q (by rw [e])
        generalize L.getD k (0, 0) = z at *
        generalize M.getD k (0, 0) = y at *
        obtain ⟨z1, z2⟩ := z
        obtain ⟨y1, y2⟩ := y
        have hq := eq_pair z1 z2 y1 y2
        clear HM2
        by_cases hs : (z1, z2) = (y1, y2)
        · have HK2 := Lib.hid (HK.out hs)
          cases hs
          simp only [beq_self_eq_true, Bool.and_self] at hq
          go_wp2_with fail
          go_quiet (fail)
          go_wp2_with fail
          go_roundw
          · exact ⟨k + 1, by omega, by go_num, HK2.out, below_drewN hb _⟩
          · simp [intOf]; omega
        · have he : (z1 == y1 && z2 == y2) = false := by
            cases h : (z1 == y1 && z2 == y2)
            · rfl
            · simp at h; exact absurd (by rw [h.1, h.2]) hs
          rw [he] at hq
          have hr : r = false := by rw [HR.out]; exact decide_eq_false (HZ.out hs)
          subst hr
          clear hs he
          go_wp2_with fail
          go_quiet (fail)
          go_wp2_with fail
          go_ret
          exact ⟨rfl, below_drewN hb _⟩
      · obtain rfl : k = L.length := by omega
        rw [List.take_length, HE.out, List.take_length] at hok
        have hr : r = true := by rw [HR.out]; exact decide_eq_true hok
        subst hr
        clear hok
        have hd0 : decide ((L.length : Int) < (L.length : Int)) = false := decide_eq_false (by omega)
        go_wp2_with fail
        go_ret
        exact ⟨rfl, hb⟩
  · have hr : decide (L = M) = false := decide_eq_false fun e => hl (by rw [e])
    rw [hr]
    have hne : ((L.length : Int) != (M.length : Int)) = true := by simp; omega
    clear hr hv hv'
    go_enter Try.func12, Try.ntmps12
    go_wp2_with fail
    go_ret
    exact ⟨rfl, Below.refl _ _⟩

set_option maxHeartbeats 2000000 in
theorem r9peek (v : Value) (L : List (Int × Int)) (w : World) (hv : SlP w v L) (hn : (L.length : Int) ≤ 900000000) :
    Calls Try.prog 22 #[v] w fun e w' => e = .returned (.tuple #[.agg #[.int .i64 (peekv L).1, .int .i64 (peekv L).2], .bool (decide (0 < L.length))]) ∧ Below w.heap.size w w' := by
  have hf := fun w1 h => r9first v L w1 h hn
  have HL := Lib.hid (hv.alloc (.cells #[.int .i64 0, .int .i64 0] 25))
  have hf1 := hf _ HL.out
  obtain ⟨a, c, rfl⟩ := hv.form
  have HO := Lib.hid (Ow2.new w (.int .i64 0) (.int .i64 0) 25)
  have HB := Lib.hid (below1 w (.cells #[.int .i64 0, .int .i64 0] 25))
  clear hf hv
  unfold peekv
  by_cases h0 : L.length = 0
  · rw [if_pos h0]
    have hL : L = [] := List.length_eq_zero_iff.mp h0
    subst hL
    rw [lowi_nil] at hf1
    go_enter Try.func22, Try.ntmps22
    go_wp2_with fail
    refine hf1.mono ?_; rintro e w1 ⟨rfl, hb1⟩
    obtain ⟨⟨o0, o1, o2⟩, f1, f2⟩ := HO.out.below hb1
    go_wp2_with fail
    refine bodyPost_ret (v := .tuple #[.agg #[.int .i64 0, .int .i64 0], .bool false]) (by simp [results, Try.results22, go_sem, o0, o1]) rfl ⟨rfl, ?_⟩
    exact below_set2 (HB.out.trans (hb1.mono HB.out.size)) (Nat.le_refl _)
  · rw [if_neg h0]
    have hbd := lowi_bd (L := L) (by omega)
    obtain ⟨m, hm⟩ := Int.eq_ofNat_of_zero_le hbd.1
    rw [hm] at hf1 hbd ⊢
    rw [Int.toNat_natCast]
    have hmL : m < L.length := by omega
    have i0 : (0 : Int) ≤ (m : Int) := by omega
    have i1 : (m : Int) < (L.length : Int) := by omega
    have i2 : decide ((m : Int) < 0) = false := decide_eq_false (by omega)
    have hd : decide (0 < L.length) = true := decide_eq_true (by omega)
    rw [hd]
    obtain ⟨b, off, rfl, _, _⟩ := HL.out.cell m hmL
    obtain ⟨z, hz⟩ : ∃ z, z = L.getD m (0, 0) := ⟨_, rfl⟩
    rw [← hz]
    clear h0 hbd hm hd
    go_enter Try.func22, Try.ntmps22
    go_wp2_with fail
    refine hf1.mono ?_; rintro e w1 ⟨rfl, hb1⟩
    obtain ⟨b', off', e', hc, hd⟩ := (HL.out.below hb1).cell m hmL
    cases e'
    rw [← hz] at hc hd
    clear hz
    obtain ⟨⟨o0, o1, o2⟩, f1, f2⟩ := HO.out.below hb1
    go_wp2_with fail
    refine bodyPost_ret (v := .tuple #[.agg #[.int .i64 z.1, .int .i64 z.2], .bool true]) (by simp [results, Try.results22, go_sem, o0, o1]) rfl ⟨rfl, ?_⟩
    exact below_set2 (HB.out.trans (hb1.mono HB.out.size)) (Nat.le_refl _)

theorem Ow2.belowN {w w1 : World} {B N : Nat} {p q : Value} (h : Ow2 w B p q) (hb : Below N w w1) (hN : B < N) : Ow2 w1 B p q := by
  obtain ⟨⟨h1, h2, h3⟩, h4, h5⟩ := h
  exact ⟨⟨(hb.cell (p := ⟨B, 0, none⟩) hN).trans h1, (hb.cell (p := ⟨B, 1, none⟩) hN).trans h2, Nat.lt_of_lt_of_le h3 hb.size⟩, (hb.frozen (p := ⟨B, 0, none⟩) hN).trans h4, (hb.frozen (p := ⟨B, 1, none⟩) hN).trans h5⟩
theorem pair_info : (Try.prog.info? 25).map (fun i => (i.zero, i.size, i.bytes)) = some (some (.agg #[.int .i64 0, .int .i64 0]), 2, 16) := by kernel_rfl
theorem SlP.take {w : World} {a : Option Addr} {c k : Nat} {L : List (Int × Int)} (h : SlP w (.slice a L.length c) L) (hk : k ≤ L.length) : SlC w (.slice a k c) 2 k (prs (L.take k)) := by
  have := SlC.take h hk
  rwa [prs_take] at this
theorem SlP.drop {w : World} {b off c k : Nat} {L : List (Int × Int)} (h : SlP w (.slice (some ⟨b, off, none⟩) L.length c) L) (hk : k ≤ L.length) : SlC w (.slice (some ⟨b, off + k * 2, none⟩) (L.length - k) (c - k)) 2 (L.length - k) (prs (L.drop k)) := by
  have := SlC.drop h hk
  rwa [prs_drop] at this

set_option maxHeartbeats 4000000 in
set_option maxRecDepth 100000 in
theorem r9pop (v : Value) (L : List (Int × Int)) (w : World) (hv : SlP w v L) (hn : (L.length : Int) ≤ 900000000) :
    Calls Try.prog 21 #[v] w fun e w' => ∃ u, e = .returned (.tuple #[u, .agg #[.int .i64 (peekv L).1, .int .i64 (peekv L).2], .bool (decide (0 < L.length))]) ∧ SlP w' u (popv L) ∧ (0 < L.length → ∀ q, u.ownBlock = some q → w.heap.size ≤ q) ∧ Below w.heap.size w w' := by
  have hf := fun w1 h => r9first v L w1 h hn
  have HL := Lib.hid (hv.alloc (.cells #[.int .i64 0, .int .i64 0] 25))
  have hf1 := hf _ HL.out
  have HV := Lib.hid hv
  obtain ⟨a, c, rfl⟩ := hv.form
  have HO := Lib.hid (Ow2.new w (.int .i64 0) (.int .i64 0) 25)
  have HB := Lib.hid (below1 w (.cells #[.int .i64 0, .int .i64 0] 25))
  clear hf hv
  unfold peekv popv
  by_cases h0 : L.length = 0
  · rw [if_pos h0, if_pos h0]
    have hL : L = [] := List.length_eq_zero_iff.mp h0
    subst hL
    rw [lowi_nil] at hf1
    go_enter Try.func21, Try.ntmps21
    go_wp2_with fail
    refine hf1.mono ?_; rintro e w1 ⟨rfl, hb1⟩
    obtain ⟨⟨o0, o1, o2⟩, f1, f2⟩ := HO.out.below hb1
    have hb := HB.out.trans (hb1.mono HB.out.size)
    go_wp2_with fail
    refine bodyPost_ret (v := .tuple #[.slice a 0 c, .agg #[.int .i64 0, .int .i64 0], .bool false]) (by simp [results, Try.results21, go_sem, o0, o1]) rfl ⟨_, rfl, ?_, fun q => absurd q (Nat.lt_irrefl 0), below_set2 hb (Nat.le_refl _)⟩
    exact HV.out.below (below_set2 hb (Nat.le_refl _))
  · rw [if_neg h0, if_neg h0]
    have hbd := lowi_bd (L := L) (by omega)
    obtain ⟨m, hm⟩ := Int.eq_ofNat_of_zero_le hbd.1
    rw [hm] at hf1 hbd ⊢
    rw [Int.toNat_natCast]
    have hmL : m < L.length := by omega
    have i0 : (0 : Int) ≤ (m : Int) := by omega
    have i1 : (m : Int) < (L.length : Int) := by omega
    have i1' : (m : Int) + 1 ≤ (L.length : Int) := by omega
    have i1'' : (0 : Int) ≤ (m : Int) + 1 := by omega
    have i4 : ((m : Int) + 1).toNat = m + 1 := by omega
    have hcap := HL.out.cap
    have i3 : (m : Int) ≤ (c : Int) := by omega
    have i3' : m ≤ c := by omega
    have i5 : m + 1 ≤ L.length := by omega
    have hw1 : IntKind.i64.wrap ((m : Int) + 1) = (m : Int) + 1 := by rw [IntKind.wrap_i64]; omega
    have i2 : decide ((m : Int) < 0) = false := decide_eq_false (by omega)
    have hd : decide (0 < L.length) = true := decide_eq_true (by omega)
    rw [hd]
    obtain ⟨b, off, rfl, hcell⟩ := HL.out.cell m hmL
    obtain ⟨z, hz⟩ : ∃ z, z = L.getD m (0, 0) := ⟨_, rfl⟩
    rw [← hz]
    obtain ⟨A, hA, hT⟩ : ∃ A : Addr, (if c = m + 1 then some (⟨b, off, none⟩ : Addr) else some ⟨b, off + (m + 1) * 2, none⟩) = some A ∧ Hid (SlC w (.slice (some A) (L.length - (m + 1)) (c - (m + 1))) 2 (L.length - (m + 1)) (prs (L.drop (m + 1)))) := by
      by_cases h : c = m + 1
      · refine ⟨⟨b, off, none⟩, by simp [h], ?_⟩
        have hl : L.length = m + 1 := by omega
        show SlC _ _ _ _ _
        rw [hl, List.drop_eq_nil_of_le (by omega)]
        exact ⟨_, _, rfl, by omega, fun q => by (cases q), by simp [prs], fun j hj => by (cases hj)⟩
      · exact ⟨_, by simp [h], HV.out.drop i5⟩
    have HT0 := Lib.hid (HV.out.take (k := m) (by omega))
    have CL : Hid (∀ wx, Below w.heap.size w wx → wx.cell? ⟨b, off + m * 2, none⟩ = some (.int .i64 z.1) ∧ wx.cell? ⟨b, off + m * 2 + 1, none⟩ = some (.int .i64 z.2)) := by
      intro wx hx
      obtain ⟨b', off', e', hc, hd⟩ := (HV.out.below hx).cell m hmL
      cases e'
      rw [← hz] at hc hd
      exact ⟨hc, hd⟩
    have HN := Lib.hid hn
    clear h0 hbd hm hd hcell hcap hn hz
    go_enter Try.func21, Try.ntmps21
    go_wp2_with fail
    refine hf1.mono ?_; rintro e w1 ⟨rfl, hb1⟩
    have HO1 := Lib.hid (HO.out.below hb1)
    have HB1 := Lib.hid (HB.out.trans (hb1.mono HB.out.size))
    have hs1 : Hid (w.heap.size + 1 ≤ w1.heap.size) := HO1.out.at.2.2
    go_wp2_with (at_builtin; refine wpList_app rfl (.tmp 13) (.tmp 16) 28 rfl (w.heap.size + 1) 25 2 16 (.agg #[.int .i64 0, .int .i64 0]) Try.underlying28 pair_info rfl (by omega) (.slice none 0 0) 0 [] rfl (World.ownsRow_nil _ _ _ _) (.slice (some ⟨b, off, none⟩) m c) m (prs (L.take m)) rfl (HT0.out.below HB1.out) (prs_one _) (by have := HN.out; omega) (by omega) hs1.out ?_; intro v2 w2 hown2' hb2 _)
    have own2 := Lib.hid hown2'
    have HO2 := Lib.hid (HO1.out.belowN hb2 (Nat.lt_succ_self _))
    have HB2 := Lib.hid (HB1.out.trans (hb2.mono (Nat.le_succ _)))
    have hs2 : Hid (w.heap.size + 1 ≤ w2.heap.size) := HO2.out.at.2.2
    obtain ⟨c0, c1⟩ := CL.out _ HB2.out
    obtain ⟨⟨o0, o1, o2⟩, f1, f2⟩ := HO2.out
    clear hown2' hb1 hb2 hf1
    go_wp2_with fail
    go_region_held3 (fun w' => w'.cell? ⟨b, off + m * 2, none⟩ = some (.int .i64 z.1) ∧ w'.cell? ⟨b, off + m * 2 + 1, none⟩ = some (.int .i64 z.2))
      ((refine CL.out _ ?_; first | exact HB2.out.drew | exact KB3.out | exact below_set2 KB3.out (Nat.le_refl _)))
      ((refine step_app rfl (.tmp 18) (.tmp 22) 28 rfl (w.heap.size + 1) 25 2 16 (.agg #[.int .i64 0, .int .i64 0]) Try.underlying28 pair_info rfl (by omega) v2 (0 + m) ([] ++ prs (L.take m)) (by simp [Act.eval, Act.put]) own2.out.drew (.slice (some A) (L.length - (m + 1)) (c - (m + 1))) (L.length - (m + 1)) (prs (L.drop (m + 1))) (by simp [Act.eval, Act.put, hA]) (hT.out.below HB2.out.drew) (prs_one _) (by have := HN.out; omega) (by omega) hs2.out ?_; intro v3 w3 hown3' hb3 _; have KB3 := Lib.hid (HB2.out.drew.trans (hb3.mono (Nat.le_succ _))); have own3 := Lib.hid hown3'; clear o0 o1 o2 f1 f2; obtain ⟨⟨o0, o1, o2⟩, f1, f2⟩ := HO2.out.drew.belowN hb3 (Nat.lt_succ_self _); clear hown3' hb3))
    all_goals go_wp2_with fail
    all_goals refine bodyPost_ret (v := .tuple #[v3, .agg #[.int .i64 z.1, .int .i64 z.2], .bool true]) (by simp [results, Try.results21, go_sem, o0, o1]) rfl ⟨_, rfl, ?_, fun _ q hq => Nat.le_of_succ_le (World.ownsRow.lt own3.out q hq).1, below_set2 KB3.out (Nat.le_refl _)⟩
    all_goals (have h8 := ownsRow_setCell_below (ownsRow_setCell_below own3.out (a := ⟨w.heap.size, 0, none⟩) (by simp) (.int .i64 z.1)) (a := ⟨w.heap.size, 1, none⟩) (by simp) (.int .i64 z.2))
    all_goals (have h9 := ownsRow_slc h8)
    all_goals (rw [List.nil_append, prs_app] at h9)
    all_goals (show SlC _ _ _ _ _; rw [List.length_append, List.length_take, List.length_drop, Nat.min_eq_left (by omega)]; rw [Nat.zero_add] at h9; exact h9)

theorem sort_left {L : List (Int × Int)} {k : Nat} (h : k < L.length) : 0 < (sortAt L k).2.length := by
  have := (sortAt_len L k (by omega)).2; omega

set_option maxHeartbeats 4000000 in
theorem r9sorted (v : Value) (L : List (Int × Int)) (w : World) (hv : SlP w v L) (hn : (L.length : Int) ≤ 400000000) :
    Calls Try.prog 14 #[v] w fun e w' => ∃ u, e = .returned u ∧ SlP w' u (sortv L) ∧ Below w.heap.size w w' := by
  have HV := Lib.hid hv
  obtain ⟨a, c, rfl⟩ := hv.form
  clear hv
  go_enter Try.func14, Try.ntmps14
  go_wp2_with fail
  go_loopw [3, 4, 5] (fun o l i wr => ∃ k : Nat, k ≤ L.length ∧ i = .int .i64 (k : Int) ∧ wr.ownsRow w.heap.size 25 2 o (sortAt L k).1.length (prs (sortAt L k).1) ∧ SlP wr l (sortAt L k).2 ∧ Below w.heap.size w wr) (fun _ _ i _ => L.length - (intOf i).toNat)
  case atStart => exact ⟨0, Nat.zero_le _, rfl, World.ownsRow_nil _ _ _ _, HV.out, Below.refl _ _⟩
  case round =>
    obtain ⟨k, hk, rfl, hown, hl, hb⟩ := hrel
    by_cases hlt : k < L.length
    · have i0 : (0 : Int) ≤ (k : Int) := by omega
      have i1 : (k : Int) < (L.length : Int) := by omega
      have hlen := sortAt_len L k (by omega)
      have hp := fun w1 h => r9pop u4 (sortAt L k).2 w1 h (by omega)
      have HE : Hid ((sortAt L (k + 1)).1 = (sortAt L k).1 ++ [peekv (sortAt L k).2] ∧ (sortAt L (k + 1)).2 = popv (sortAt L k).2) := ⟨rfl, rfl⟩
      have hd : decide (0 < (sortAt L k).2.length) = true := decide_eq_true (sort_left hlt)
      have HPos := Lib.hid (sort_left hlt)
      rw [hd] at hp
      have HN : Hid ((sortAt L k).1.length + 1 ≤ 900000000) := by show _ ≤ _; omega
      have HOw := Lib.hid hown; have HLl := Lib.hid hl
      clear hd hlen hown hl
      generalize (sortAt L k).2 = R at *; generalize (sortAt L k).1 = S at *
      have hpu := hp _ HLl.out
      generalize popv R = R2 at *; generalize peekv R = z at *
      go_wp2_with fail
      refine hpu.mono ?_; rintro e w1 ⟨u, rfl, hu, huq, hb1⟩
      have HU := Lib.hid hu; have HUQ := Lib.hid (huq HPos.out); clear hu hp huq
      have own1 := Lib.hid (ownsRow_below HOw.out hb1)
      replace hb := hb.trans (hb1.mono hb.size)
      have HX : Hid (SlC ((w1.alloc (.cells #[.int .i64 z.1, .int .i64 z.2] 25)).alloc (.cells #[.int .i64 z.1, .int .i64 z.2] 25)) (.slice (some ⟨w1.heap.size + 1, 0, none⟩) 1 1) 2 1 (prs [z])) := by
        have h := ownsRow_slc (World.ownsRow_lit (base := w.heap.size) (e := 25) (size := 2) (w1.alloc (.cells #[.int .i64 z.1, .int .i64 z.2] 25)) #[.int .i64 z.1, .int .i64 z.2] 1 (by have := hb.size; simp; omega) (by unfold maxLen; omega) rfl)
        rw [show (w1.alloc (.cells #[.int .i64 z.1, .int .i64 z.2] 25)).heap.size = w1.heap.size + 1 by simp] at h
        exact h
      have hb' := (hb.alloc hb.size (.cells #[.int .i64 z.1, .int .i64 z.2] 25)).alloc (by have := hb.size; simp; omega) (.cells #[.int .i64 z.1, .int .i64 z.2] 25)
      go_wp2_with (at_builtin; refine wpList_app rfl (.tmp 22) (.tmp 24) 28 rfl w.heap.size 25 2 16 (.agg #[.int .i64 0, .int .i64 0]) Try.underlying28 pair_info rfl (by omega) u3 S.length (prs S) rfl ((own1.out.alloc _).alloc _) (.slice (some ⟨w1.heap.size + 1, 0, none⟩) 1 1) 1 (prs [z]) rfl HX.out (prs_one _) (by have := HN.out; omega) (by omega) hb'.size ?_; intro v2 w2 hown2' hb2 hg2)
      have own2 := Lib.hid hown2'; clear hown2'
      have hb3 := hb'.trans hb2
      have HU2 := Lib.hid (HU.out.below (((below2 w1 (.cells #[.int .i64 z.1, .int .i64 z.2] 25) (.cells #[.int .i64 z.1, .int .i64 z.2] 25)))))
      go_roundw
      · refine ⟨k + 1, by omega, by go_num, ?_, ?_, hb3⟩
        · rw [HE.out.1, List.length_append]
          have h := own2.out
          rw [prs_app] at h
          exact h
        · rw [HE.out.2]
          exact SlC.grown HU2.out hg2 (fun q hq e => by
            have h1 := HUQ.out q hq
            have h2 := (World.ownsRow.lt HOw.out q e).2
            omega)
      · simp [intOf]; omega
    · obtain rfl : k = L.length := by omega
      have hd0 : decide ((L.length : Int) < (L.length : Int)) = false := decide_eq_false (by omega)
      have HS := Lib.hid (ownsRow_slc hown); clear hown
      go_wp2_with fail
      go_ret
      exact ⟨_, rfl, HS.out, hb⟩
end Go.Proofs.Ytjkldjgeagociaa
