/-
  AccountWalks of layer 20 returns true, whatever accounts it is given. No conditions.
-/
import Derived.Test.YteendpdidkekkaaAccT
import Derived.Deep.QuietTactic
import Derived.BigQuiet
import Derived.WalkSmall
import Derived.Deep.DeepCutAuto
import Derived.Deep.RegionHeld3
namespace Go.Proofs.Yteendpdidkekkaa
open Go.RowKit
set_option linter.unusedSimpArgs false
set_option linter.unusedVariables false

theorem getP {P : List (Int × Int)} {k : Nat} (h : k < P.length) : P.getD k (0, 0) = P[k] := by simp [List.getD, h]
theorem dep_len {n : Nat} {f : Int → Int} (hf : FOk (n : Int) f) : ∀ (D : Nat) (x : Int), Dep n f D x → (up n f x).length = D
  | 0, x, h => by
    have h0 : x = 0 := h.1
    rw [h0, up_no (not_ent_zero n)]; rfl
  | D + 1, x, h => by
    have e0 : Ent (n : Int) x := h.2 0 (by omega)
    rw [up_yes hf e0, List.length_cons, dep_len hf D (f x) (dep_up h)]
theorem dep_of {n : Nat} {f : Int → Int} (hf : FOk (n : Int) f) : ∀ x, x = 0 ∨ Ent (n : Int) x → Dep n f (up n f x).length x :=
  up_ind hf (fun x e h => by
    rw [up_no e]
    exact ⟨h.resolve_right e, fun j hj => by cases hj⟩) (fun x e ih _ => by
    rw [up_yes hf e, List.length_cons]
    have hx : f x = 0 ∨ Ent (n : Int) (f x) := by
      by_cases h : f x = 0
      · exact Or.inl h
      · exact Or.inr (f_ent hf x h)
    have := ih hx
    refine ⟨by rw [way_one]; exact this.1, fun j hj => ?_⟩
    cases j with
    | zero => exact e
    | succ j => rw [way_one]; exact this.2 j (by omega))
theorem wst_full {n : Nat} {f : Int → Int} (hf : FOk (n : Int) f) : (wst n f 0 0).length = n := by
  have h1 := wst_len (dep_zero n f)
  have h2 : ((List.range n).map fun i : Nat => (i : Int) + 1).length ≤ ((wst n f 0 0).map Prod.fst).length := nodup_le _ _ (List.pairwise_map.2 (List.nodup_range.imp fun h q => h (by omega))) (fun x hx => by
    obtain ⟨i, hi, rfl⟩ := List.mem_map.1 hx
    have hi := List.mem_range.1 hi
    have he : Ent (n : Int) ((i : Int) + 1) := ⟨by omega, by omega⟩
    have hd := dep_of hf _ (Or.inr he)
    obtain ⟨D, hD⟩ : ∃ D, (up n f ((i : Int) + 1)).length = D + 1 := ⟨(up n f (f ((i : Int) + 1))).length, by rw [up_yes hf he]; rfl⟩
    rw [hD] at hd
    have := wst_all D 0 0 _ (dep_zero n f) (by rw [Nat.zero_add]; exact hd) hd.1
    exact List.mem_map.2 ⟨_, this, rfl⟩)
  rw [List.length_map, List.length_map, List.length_range] at h2
  omega
/-- What is known of each that is told. -/
theorem wst_at {n : Nat} {f : Int → Int} (hf : FOk (n : Int) f) {k : Nat} (hk : k < (wst n f 0 0).length) :
    ¬ ((wst n f 0 0).getD k (0, 0)).1 ∈ ((wst n f 0 0).take k).map Prod.fst ∧ ((ups n f ((wst n f 0 0).getD k (0, 0)).1).length : Int) = ((wst n f 0 0).getD k (0, 0)).2 ∧
      (0 < (ups n f ((wst n f 0 0).getD k (0, 0)).1).length → (ups n f ((wst n f 0 0).getD k (0, 0)).1).getD 0 0 ∈ ((wst n f 0 0).take k).map Prod.fst) := by
  have hs : wst n f 0 0 = (wst n f 0 0).take k ++ (wst n f 0 0).getD k (0, 0) :: (wst n f 0 0).drop (k + 1) := by
    have e : (wst n f 0 0).getD k (0, 0) = (wst n f 0 0)[k] := by simp [List.getD, hk]
    rw [e]; simp
  have hm : (wst n f 0 0).getD k (0, 0) ∈ wst n f 0 0 := by rw [getP hk]; exact List.getElem_mem hk
  have hnd := wst_nodup 0 0 (dep_zero n f)
  have hah := wst_ahead 0 0 (dep_zero n f) _ _ _ hs
  obtain ⟨j, j1, j2, _⟩ := wst_in 0 0 (dep_zero n f) _ hm
  rw [Nat.zero_add] at j2
  have hex : Ent (n : Int) ((wst n f 0 0).getD k (0, 0)).1 := j2.2 0 (by omega)
  rw [hs, List.map_append, List.map_cons] at hnd
  generalize (wst n f 0 0).getD k (0, 0) = p at *
  generalize (wst n f 0 0).take k = A at *
  have hup := ups_up hf hex
  have hl := dep_len hf j _ (dep_up j2)
  refine ⟨fun q => ?_, ?_, fun h0 => ?_⟩
  · rw [List.nodup_append] at hnd
    exact hnd.2.2 _ q _ (by simp) rfl
  · rw [hup, hl, j1]; simp
  · rw [hup] at h0 ⊢
    have he : Ent (n : Int) (f p.1) := Decidable.not_not.1 fun q => by rw [up_no q] at h0; cases h0
    rw [up_yes hf he, List.getD_cons_zero]
    exact hah.resolve_left (fun q => not_ent_zero n (q ▸ he))
theorem Own2.cell {w : World} {base n c : Nat} {a : Option Addr} {P : List (Int × Int)} (h : Own2 w base (.slice a n c) P) {k : Nat} (hk : k < P.length) : ∃ g, a = some ⟨g, 0, none⟩ ∧ w.cell? ⟨g, k * 2, none⟩ = some (.int .i64 (P.getD k (0, 0)).1) ∧ w.cell? ⟨g, k * 2 + 1, none⟩ = some (.int .i64 (P.getD k (0, 0)).2) := by
  rcases h.2 with ⟨_, q⟩ | ⟨g, cap, cur, e, _⟩
  · omega
  · cases e
    have hr := row2_at P k hk
    exact ⟨g, rfl, (World.ownsRow.cellAt h (k * 2) (by omega)).trans hr.1, (World.ownsRow.cellAt h (k * 2 + 1) (by omega)).trans hr.2⟩
theorem OwnN.cell {w : World} {base n c : Nat} {a : Option Addr} {P : List (Int × Int)} (h : OwnN w base (.slice a n c) P) {k : Nat} (hk : k < P.length) : ∃ g, a = some ⟨g, 0, none⟩ ∧ w.cell? ⟨g, k * 2, none⟩ = some (.int .i64 (P.getD k (0, 0)).1) ∧ w.cell? ⟨g, k * 2 + 1, none⟩ = some (.int .i64 (P.getD k (0, 0)).2) := by
  rcases h.2 with ⟨_, q⟩ | ⟨g, cap, cur, e, _⟩
  · omega
  · cases e
    have hr := row2_at P k hk
    exact ⟨g, rfl, (World.ownsRow.cellAt h (k * 2) (by omega)).trans hr.1, (World.ownsRow.cellAt h (k * 2 + 1) (by omega)).trans hr.2⟩
set_option maxHeartbeats 16000000 in
set_option maxRecDepth 100000 in
theorem walks20 (a : Option Addr) (c : Nat) (L : List AcT) (w : World) (hr : Go.RowsIn.QuadB w a c L) :
    Calls Try.prog 7 #[.slice a L.length c] w fun e w' => e = .returned (.bool true) ∧ Below w.heap.size w w' := by
  have HL := Lib.hid (rdA_in hr)
  have HK0 := Lib.hid (Below.refl w.heap.size w)
  clear hr
  by_cases g1 : 70 < L.length
  · have d1 : decide ((70 : Int) < (L.length : Int)) = true := decide_eq_true (by omega)
    have d2 : decide (70 < L.length) = true := decide_eq_true g1
    clear g1
    go_enter Try.func7, Try.ntmps7
    go_wp2_with fail
    refine (awake20 _).mono ?_; rintro e w99 ⟨rfl, hb99⟩
    go_wp2_with fail
    go_ret
    exact ⟨rfl, HK0.out.trans (hb99.mono HK0.out.size)⟩
  · have d1 : decide ((70 : Int) < (L.length : Int)) = false := decide_eq_false (by omega)
    have d2 : decide (70 < L.length) = false := decide_eq_false g1
    have HN : Hid (L.length ≤ 1000) := by show _ ≤ _; omega
    have hwa := walk_a a c L w HL.out.1 HN.out
    have HPL : Hid ((wst L.length (pa L) 0 0).length ≤ L.length) := wst_len (dep_zero _ _)
    have HPE : Hid (∀ q ∈ wst L.length (pa L) 0 0, Ent (L.length : Int) q.1 ∧ 0 ≤ q.2 ∧ q.2 ≤ L.length) := fun q hq => wst_ent (dep_zero _ _) hq
    have HWB : Hid (∀ X, Below w.heap.size w X → Calls Try.prog 29 #[.slice a L.length c] X fun e w' => ∃ v, e = .returned v ∧ OwnN w' X.heap.size v (wst L.length (pa L) 0 0) ∧ Below X.heap.size X w') := fun X q => r20walk a c L X (HL.out.1.below q) HN.out
    have HCK : Hid (∀ X, Below w.heap.size w X → Calls Try.prog 9 #[.slice a L.length c] X fun e w' => e = .returned (.tuple #[.int .i64 (ckV L), .int .i64 (ckE L)]) ∧ Below X.heap.size X w') := fun X q => check_a a c L X (HL.out.1.below q) HL.out.2.1 HN.out
    clear g1
    by_cases he : ckE L = 0
    · have HOK := (ck_ok he).1.fok
      have HFU : Hid ((wst L.length (pa L) 0 0).length = L.length) := wst_full HOK
      have HPF : Hid (∀ k, k < (wst L.length (pa L) 0 0).length → ¬ ((wst L.length (pa L) 0 0).getD k (0, 0)).1 ∈ ((wst L.length (pa L) 0 0).take k).map Prod.fst ∧ ((ups L.length (pa L) ((wst L.length (pa L) 0 0).getD k (0, 0)).1).length : Int) = ((wst L.length (pa L) 0 0).getD k (0, 0)).2 ∧
            (0 < (ups L.length (pa L) ((wst L.length (pa L) 0 0).getD k (0, 0)).1).length → (ups L.length (pa L) ((wst L.length (pa L) 0 0).getD k (0, 0)).1).getD 0 0 ∈ ((wst L.length (pa L) 0 0).take k).map Prod.fst)) := fun k hk => wst_at HOK hk
      rw [he] at HCK
      generalize ckV L = cv at *
      clear HOK he
      generalize wst L.length (pa L) 0 0 = P at *
      go_enter Try.func7, Try.ntmps7
      go_wp2_with fail
      refine hwa.mono ?_; clear hwa; rintro e w1 ⟨va, rfl, hoa, hb1⟩
      obtain ⟨aa, ca, hva⟩ := (ownsRow_slc hoa).form
      subst hva
      have HB1 := Lib.hid hb1
      have hwb := HWB.out w1 hb1
      have HA1 := Lib.hid hoa
      clear hoa hb1
      go_wp2_with fail
      refine hwb.mono ?_; clear hwb; rintro e w2 ⟨vb, rfl, hob, hb2⟩
      obtain ⟨ab, cb, hvb⟩ := (ownsRow_slc hob).form
      subst hvb
      have HB2 : Hid (Below w.heap.size w w2) := HB1.out.trans (hb2.mono HB1.out.size)
      have hck := HCK.out w2 HB2.out
      have HA2 := Lib.hid (HA1.out.below hb2)
      have HN1 := Lib.hid hob
      clear hob hb2
      go_wp2_with fail
      refine hck.mono ?_; clear hck; rintro e w3 ⟨rfl, hb3⟩
      have HB3 : Hid (Below w.heap.size w w3) := HB2.out.trans (hb3.mono HB2.out.size)
      have HA := Lib.hid (HA2.out.below hb3)
      have HN2 := Lib.hid (HN1.out.below hb3)
      clear hb3
      go_wp2_with fail
      go_loopw [5, 8] (fun v5 i wr => ∃ k : Nat, k ≤ P.length ∧ i = .int .i64 (k : Int) ∧ Own wr w3.heap.size v5 ((P.take k).map Prod.fst) ∧ Below w3.heap.size w3 wr) (fun _ i _ => P.length - (RowKit.intOf i).toNat)
      case atStart => exact ⟨0, Nat.zero_le _, rfl, Own.nil _ _, Below.refl _ _⟩
      case round =>
        obtain ⟨k, hk, rfl, ho, hb⟩ := hrel
        have HO := Lib.hid ho
        have HBR : Hid (Below w.heap.size w wr) := HB3.out.trans (hb.mono HB3.out.size)
        by_cases hlt : k < P.length
        · obtain ⟨ga, rfl, a0, a1⟩ := (HA.out.below hb).cell hlt
          obtain ⟨gb, rfl, b0, b1⟩ := (HN2.out.below hb).cell hlt
          have i0 : (0 : Int) ≤ (k : Int) := by omega
          have i1 : (k : Int) < (P.length : Int) := by omega
          have hk70 : k < 1000 := by have := HPL.out; have := HN.out; omega
          have e1 : wrap64 ((k : Int) + 1) = (k : Int) + 1 := by unfold wrap64; omega
          have HQ : Hid (k + 1 ≤ P.length ∧ P.length - (RowKit.intOf (.int .i64 ((k : Int) + 1))).toNat < P.length - (RowKit.intOf (.int .i64 (k : Int))).toNat) := ⟨hlt, by simp [RowKit.intOf]; omega⟩
          have HTK : Hid ((P.take (k + 1)).map Prod.fst = (P.take k).map Prod.fst ++ [(P.getD k (0, 0)).1]) := by
            show _ = _
            rw [List.take_succ_eq_append_getElem hlt, List.map_append, getP hlt]; rfl
          have hsl : ((P.take k).map Prod.fst).length ≤ 1000 := by rw [List.length_map, List.length_take]; omega
          have HAT := Lib.hid (HPF.out k hlt)
          have HSI : Hid (∀ z ∈ (P.take k).map Prod.fst, InR z) := fun z hz => by
            obtain ⟨q, hq, rfl⟩ := List.mem_map.1 hz
            have := (HPE.out q (List.mem_of_mem_take hq)).1
            have := HN.out
            unfold Ent at *; unfold InR; omega
          have HLR := Lib.hid (HL.out.1.below HBR.out)
          have HAX : Hid (∀ X, Below wr.heap.size wr X → X.cell? ⟨ga, k * 2, none⟩ = some (.int .i64 (P.getD k (0, 0)).1) ∧ X.cell? ⟨ga, k * 2 + 1, none⟩ = some (.int .i64 (P.getD k (0, 0)).2)) := fun X q => ⟨(q.cell (p := ⟨ga, k * 2, none⟩) (World.block_lt_of_cell? _ _ a0)).trans a0, (q.cell (p := ⟨ga, k * 2 + 1, none⟩) (World.block_lt_of_cell? _ _ a1)).trans a1⟩
          generalize (P.take k).map Prod.fst = S at *
          generalize (P.getD k (0, 0)).1 = x at *
          generalize (P.getD k (0, 0)).2 = d at *
          have heq : ∀ w, (Op.equalIn 10000 52 (.agg #[.int .i64 x, .int .i64 d]) (.agg #[.int .i64 x, .int .i64 d])).run Try.prog w = .ok true w := fun w => (eq_node20 x d x d w).trans (by simp)
          have HBZ := Lib.hid hb
          clear ho hb hk hlt
          go_upto_region 11 with fail
          go_quiet (fail)
          have HB4 : Hid (Below wr.heap.size wr (wr.drewN nq)) := below_drewN (Below.refl _ _) _
          have hu := up_a a c L x (wr.drewN nq) (HLR.out.below HB4.out) HN.out
          obtain ⟨a0, a1⟩ := HAX.out _ HB4.out
          have HUI : Hid ((ups L.length (pa L) x).length ≤ 1000 ∧ ∀ z ∈ ups L.length (pa L) x, InR z) := ⟨Nat.le_trans (ups_few _ _ _) HN.out, ups_in HN.out⟩
          generalize ups L.length (pa L) x = U at *
          clear b0 b1 heq
          generalize wr.drewN nq = w4 at *
          go_wp2_with fail
          refine hu.mono ?_; clear hu; rintro e w5 ⟨vu, rfl, hou, hb5⟩
          obtain ⟨ua, uc, rfl, -, hRU⟩ := hou.reads HUI.out.2
          have HB5 : Hid (Below wr.heap.size wr w5) := HB4.out.trans (hb5.mono HB4.out.size)
          have HO5 := Lib.hid (HO.out.below HB5.out)
          clear a0 a1
          obtain ⟨a0, a1⟩ := HAX.out _ HB5.out
          clear hou hb5
          obtain ⟨x1, x2, x3⟩ := HAT.out
          obtain ⟨sa, sc, hvs, -, hRS⟩ := HO5.out.reads HSI.out
          subst hvs
          have HRS := Lib.hid hRS
          have hh := has_any sa sc S x w5 hRS (by omega)
          rw [decide_eq_false x1] at hh
          rw [← x2] at a1 HAX
          clear x1 x2 hRS
          rcases Nat.eq_zero_or_pos U.length with h0 | h0
          · have t3 : decide ((0 : Int) < (U.length : Int)) = false := decide_eq_false (by omega)
            have t3n : decide (0 < U.length) = false := decide_eq_false (by omega)
            clear x3 h0 hRU
            go_wp2_with fail
            refine hh.mono ?_; clear hh; rintro e wn ⟨rfl, rfl⟩
            have hsz5 := Nat.le_trans HBZ.out.size HB5.out.size
            go_wp2_with (at_builtin; refine wp_push w5 rfl (.tmp 91) (.tmp 97) rfl w3.heap.size _ S x rfl HO5.out rfl (by omega) hsz5 ?_; intro v6 w6 ho6 hb6; rw [← HTK.out] at ho6; have HO6 := Lib.hid ho6; have hb6' : Below w3.heap.size w3 w6 := (HBZ.out.trans (HB5.out.mono HBZ.out.size)).trans hb6; have HB6 := Lib.hid hb6'; clear ho6 hb6 hb6' hsz5)
            go_roundw
            · exact ⟨k + 1, HQ.out.1, by go_num, HO6.out, HB6.out⟩
            · first | exact HQ.out.2 | (rw [e1]; exact HQ.out.2)
          · have t3 : decide ((0 : Int) < (U.length : Int)) = true := decide_eq_true (by omega)
            have t3n : decide (0 < U.length) = true := decide_eq_true (by omega)
            obtain ⟨ub, uo, rfl, hcu⟩ := hRU.2 0 h0
            have hcu' : w5.cell? ⟨ub, uo, none⟩ = some (.int .i64 (U.getD 0 0)) := hcu
            have u1 : (0 : Int) < (U.length : Int) := by omega
            have hh2 := has_any sa sc S (U.getD 0 0) w5 HRS.out (by omega)
            rw [decide_eq_true (x3 h0)] at hh2
            generalize U.getD 0 0 = z at *
            clear x3 hRU hcu h0
            go_wp2_with fail
            refine hh.mono ?_; clear hh; rintro e wn ⟨rfl, rfl⟩
            go_wp2_with fail
            refine hh2.mono ?_; clear hh2; rintro e wn ⟨rfl, rfl⟩
            have hsz5 := Nat.le_trans HBZ.out.size HB5.out.size
            go_wp2_with (at_builtin; refine wp_push w5 rfl (.tmp 91) (.tmp 97) rfl w3.heap.size _ S x rfl HO5.out rfl (by omega) hsz5 ?_; intro v6 w6 ho6 hb6; rw [← HTK.out] at ho6; have HO6 := Lib.hid ho6; have hb6' : Below w3.heap.size w3 w6 := (HBZ.out.trans (HB5.out.mono HBZ.out.size)).trans hb6; have HB6 := Lib.hid hb6'; clear ho6 hb6 hb6' hsz5)
            go_roundw
            · exact ⟨k + 1, HQ.out.1, by go_num, HO6.out, HB6.out⟩
            · first | exact HQ.out.2 | (rw [e1]; exact HQ.out.2)
        · obtain rfl : k = P.length := by omega
          have hd0 : decide ((P.length : Int) < (P.length : Int)) = false := decide_eq_false (by omega)
          rw [List.take_of_length_le (Nat.le_refl _)] at ho
          obtain ⟨sa, sc, hvs⟩ := (ownsRow_slc ho).form
          rw [List.length_map] at hvs
          subst hvs
          have t9 : ((P.length : Int) == (L.length : Int)) = true := by have := HFU.out; rw [beq_iff_eq]; omega
          clear ho hb hk hlt
          go_wp2_with fail
          refine (awake20 _).mono ?_; rintro e w99 ⟨rfl, hb99⟩
          go_wp2_with fail
          go_ret
          exact ⟨rfl, HBR.out.trans (hb99.mono HBR.out.size)⟩
    · have HPF : Hid (∀ k, k < (wst L.length (pa L) 0 0).length → True) := fun _ _ => trivial
      have t0 : (ckE L == 0) = false := by rw [beq_eq_false_iff_ne]; exact he
      have t0' : (ckE L != 0) = true := by simpa using he
      generalize ckE L = x0 at *
      generalize ckV L = cv at *
      clear he
      generalize wst L.length (pa L) 0 0 = P at *
      go_enter Try.func7, Try.ntmps7
      go_wp2_with fail
      refine hwa.mono ?_; clear hwa; rintro e w1 ⟨va, rfl, hoa, hb1⟩
      obtain ⟨aa, ca, hva⟩ := (ownsRow_slc hoa).form
      subst hva
      have HB1 := Lib.hid hb1
      have hwb := HWB.out w1 hb1
      have HA1 := Lib.hid hoa
      clear hoa hb1
      go_wp2_with fail
      refine hwb.mono ?_; clear hwb; rintro e w2 ⟨vb, rfl, hob, hb2⟩
      obtain ⟨ab, cb, hvb⟩ := (ownsRow_slc hob).form
      subst hvb
      have HB2 : Hid (Below w.heap.size w w2) := HB1.out.trans (hb2.mono HB1.out.size)
      have hck := HCK.out w2 HB2.out
      have HA2 := Lib.hid (HA1.out.below hb2)
      have HN1 := Lib.hid hob
      clear hob hb2
      go_wp2_with fail
      refine hck.mono ?_; clear hck; rintro e w3 ⟨rfl, hb3⟩
      have HB3 : Hid (Below w.heap.size w w3) := HB2.out.trans (hb3.mono HB2.out.size)
      have HA := Lib.hid (HA2.out.below hb3)
      have HN2 := Lib.hid (HN1.out.below hb3)
      clear hb3
      go_wp2_with fail
      go_loopw [5, 8] (fun v5 i wr => ∃ k : Nat, k ≤ P.length ∧ i = .int .i64 (k : Int) ∧ Own wr w3.heap.size v5 ((P.take k).map Prod.fst) ∧ Below w3.heap.size w3 wr) (fun _ i _ => P.length - (RowKit.intOf i).toNat)
      case atStart => exact ⟨0, Nat.zero_le _, rfl, Own.nil _ _, Below.refl _ _⟩
      case round =>
        obtain ⟨k, hk, rfl, ho, hb⟩ := hrel
        have HO := Lib.hid ho
        have HBR : Hid (Below w.heap.size w wr) := HB3.out.trans (hb.mono HB3.out.size)
        by_cases hlt : k < P.length
        · obtain ⟨ga, rfl, a0, a1⟩ := (HA.out.below hb).cell hlt
          obtain ⟨gb, rfl, b0, b1⟩ := (HN2.out.below hb).cell hlt
          have i0 : (0 : Int) ≤ (k : Int) := by omega
          have i1 : (k : Int) < (P.length : Int) := by omega
          have hk70 : k < 1000 := by have := HPL.out; have := HN.out; omega
          have e1 : wrap64 ((k : Int) + 1) = (k : Int) + 1 := by unfold wrap64; omega
          have HQ : Hid (k + 1 ≤ P.length ∧ P.length - (RowKit.intOf (.int .i64 ((k : Int) + 1))).toNat < P.length - (RowKit.intOf (.int .i64 (k : Int))).toNat) := ⟨hlt, by simp [RowKit.intOf]; omega⟩
          have HTK : Hid ((P.take (k + 1)).map Prod.fst = (P.take k).map Prod.fst ++ [(P.getD k (0, 0)).1]) := by
            show _ = _
            rw [List.take_succ_eq_append_getElem hlt, List.map_append, getP hlt]; rfl
          have hsl : ((P.take k).map Prod.fst).length ≤ 1000 := by rw [List.length_map, List.length_take]; omega
          have HAT := Lib.hid (HPF.out k hlt)
          have HSI : Hid (∀ z ∈ (P.take k).map Prod.fst, InR z) := fun z hz => by
            obtain ⟨q, hq, rfl⟩ := List.mem_map.1 hz
            have := (HPE.out q (List.mem_of_mem_take hq)).1
            have := HN.out
            unfold Ent at *; unfold InR; omega
          have HLR := Lib.hid (HL.out.1.below HBR.out)
          have HAX : Hid (∀ X, Below wr.heap.size wr X → X.cell? ⟨ga, k * 2, none⟩ = some (.int .i64 (P.getD k (0, 0)).1) ∧ X.cell? ⟨ga, k * 2 + 1, none⟩ = some (.int .i64 (P.getD k (0, 0)).2)) := fun X q => ⟨(q.cell (p := ⟨ga, k * 2, none⟩) (World.block_lt_of_cell? _ _ a0)).trans a0, (q.cell (p := ⟨ga, k * 2 + 1, none⟩) (World.block_lt_of_cell? _ _ a1)).trans a1⟩
          generalize (P.take k).map Prod.fst = S at *
          generalize (P.getD k (0, 0)).1 = x at *
          generalize (P.getD k (0, 0)).2 = d at *
          have heq : ∀ w, (Op.equalIn 10000 52 (.agg #[.int .i64 x, .int .i64 d]) (.agg #[.int .i64 x, .int .i64 d])).run Try.prog w = .ok true w := fun w => (eq_node20 x d x d w).trans (by simp)
          have HBZ := Lib.hid hb
          clear ho hb hk hlt
          go_upto_region 11 with fail
          go_quiet (fail)
          have HB4 : Hid (Below wr.heap.size wr (wr.drewN nq)) := below_drewN (Below.refl _ _) _
          have hu := up_a a c L x (wr.drewN nq) (HLR.out.below HB4.out) HN.out
          obtain ⟨a0, a1⟩ := HAX.out _ HB4.out
          have HUI : Hid ((ups L.length (pa L) x).length ≤ 1000 ∧ ∀ z ∈ ups L.length (pa L) x, InR z) := ⟨Nat.le_trans (ups_few _ _ _) HN.out, ups_in HN.out⟩
          generalize ups L.length (pa L) x = U at *
          clear b0 b1 heq
          generalize wr.drewN nq = w4 at *
          go_wp2_with fail
          refine hu.mono ?_; clear hu; rintro e w5 ⟨vu, rfl, hou, hb5⟩
          obtain ⟨ua, uc, rfl, -, hRU⟩ := hou.reads HUI.out.2
          have HB5 : Hid (Below wr.heap.size wr w5) := HB4.out.trans (hb5.mono HB4.out.size)
          have HO5 := Lib.hid (HO.out.below HB5.out)
          clear a0 a1
          obtain ⟨a0, a1⟩ := HAX.out _ HB5.out
          clear hou hb5
          obtain ⟨sa, sc, hvs, -, -⟩ := HO5.out.reads HSI.out
          subst hvs
          clear hRU
          have hsz5 := Nat.le_trans HBZ.out.size HB5.out.size
          go_wp2_with (at_builtin; refine wp_push w5 rfl (.tmp 91) (.tmp 97) rfl w3.heap.size _ S x rfl HO5.out rfl (by omega) hsz5 ?_; intro v6 w6 ho6 hb6; rw [← HTK.out] at ho6; have HO6 := Lib.hid ho6; have hb6' : Below w3.heap.size w3 w6 := (HBZ.out.trans (HB5.out.mono HBZ.out.size)).trans hb6; have HB6 := Lib.hid hb6'; clear ho6 hb6 hb6' hsz5)
          go_roundw
          · exact ⟨k + 1, HQ.out.1, by go_num, HO6.out, HB6.out⟩
          · first | exact HQ.out.2 | (rw [e1]; exact HQ.out.2)
        · obtain rfl : k = P.length := by omega
          have hd0 : decide ((P.length : Int) < (P.length : Int)) = false := decide_eq_false (by omega)
          rw [List.take_of_length_le (Nat.le_refl _)] at ho
          obtain ⟨sa, sc, hvs⟩ := (ownsRow_slc ho).form
          rw [List.length_map] at hvs
          subst hvs
          clear ho hb hk hlt
          go_wp2_with fail
          refine (awake20 _).mono ?_; rintro e w99 ⟨rfl, hb99⟩
          go_wp2_with fail
          go_ret
          exact ⟨rfl, HBR.out.trans (hb99.mono HBR.out.size)⟩
end Go.Proofs.Yteendpdidkekkaa
