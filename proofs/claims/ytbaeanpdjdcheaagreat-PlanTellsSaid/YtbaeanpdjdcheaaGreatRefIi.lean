/-
  What the document's own may (gavelkindref12) answers, for whatever graph and row. The condition: at most 10^6 numbers.
-/
import Derived.Test.YtbaeanpdjdcheaaGreatRefIg
import Derived.Test.YtbaeanpdjdcheaaGreatGrT0
namespace Go.Proofs.YtbaeanpdjdcheaaGreat
open Go.RowKit
set_option linter.unusedSimpArgs false
set_option linter.unusedVariables false

theorem below_dn {B : Nat} {a w : World} (h : Below B a w) (q : Nat) : Below B a (w.drewN q) := ⟨h.os, h.tape, h.output, h.size, h.block⟩
theorem all_take12 {L : List Int} {k : Nat} (h : k < L.length) (p : Int → Prop) : (∀ s ∈ L.take (k + 1), p s) ↔ (∀ s ∈ L.take k, p s) ∧ p (L.getD k 0) := by
  rw [List.take_succ_eq_append_getElem h, getD_lt _ _ h]
  constructor
  · intro q
    exact ⟨fun s hs => q s (List.mem_append_left _ hs), q _ (List.mem_append_right _ (by simp))⟩
  · rintro ⟨q1, q2⟩ s hs
    rcases List.mem_append.mp hs with hs | hs
    · exact q1 s hs
    · simp at hs; rw [hs]; exact q2
theorem nodup_take {l : List Int} {k : Nat} (hk : k < l.length) : (l.take (k + 1)).Nodup ↔ (l.take k).Nodup ∧ l.getD k 0 ∉ l.take k := by
  rw [List.take_succ_eq_append_getElem hk, getD_lt _ _ hk, List.nodup_append]
  constructor
  · rintro ⟨h1, _, h3⟩
    exact ⟨h1, fun h => h3 _ h _ (by simp) rfl⟩
  · rintro ⟨h1, h2⟩
    exact ⟨h1, by simp, fun x hx y hy e => h2 (by simp at hy; rw [← hy, ← e]; exact hx)⟩
theorem reads_take {w : World} {a : Option Addr} {l : List Int} (h : Reads w a l) (k : Nat) : Reads w a (l.take k) := by
  refine ⟨fun z hz => h.1 z (List.mem_of_mem_take hz), fun i hi => ?_⟩
  rw [List.length_take] at hi
  obtain ⟨b, off, h1, h2⟩ := h.2 i (by omega)
  refine ⟨b, off, h1, ?_⟩
  rw [h2, getD_lt l i (by omega), getD_lt (l.take k) i (by rw [List.length_take]; omega), List.getElem_take]
set_option maxHeartbeats 4000000 in
set_option maxRecDepth 100000 in
theorem r12may {w : World} {x : Value} {R : List (List Int)} (h : GRef w x R) (hR : R.length ≤ 20000) (v : Int) {y : Value} {l : List Int} (hy : Sl w y l) (hn : l.length ≤ 1000000) :
    Calls Tryz.prog 35 #[x, .int .i64 v, y] w fun e w' => e = .returned (.int .i64 (gfault R.length v l)) ∧ Below w.heap.size w w' := by
  obtain ⟨ga, gc, us, rfl, _, _, _, _, _⟩ := h
  obtain ⟨a, c, rfl, hlc, hac, hrd⟩ := hy
  have hb := below1 w (.cells #[.slice ga R.length gc] 32)
  have hbx : (w.alloc (.cells #[.slice ga R.length gc] 32)).cell? ⟨w.heap.size, 0, none⟩ = some (.slice ga R.length gc) := by simp
  have hsz : (w.alloc (.cells #[.slice ga R.length gc] 32)).heap.size = w.heap.size + 1 := by simp
  have HB := Lib.hid hb
  have HR := Lib.hid (hrd.below hb)
  clear hrd hb
  by_cases hv : gnd R.length v
  · have d1 : decide (v < 0) = false := decide_eq_false (by have := hv.1; omega)
    have d2 : decide ((R.length : Int) ≤ v) = false := decide_eq_false (by have := hv.2; omega)
    go_enter Tryz.func35, Tryz.ntmps35
    go_wp2_with fail
    generalize hW : w.alloc (.cells #[.slice ga R.length gc] 32) = W at *
    clear hW
    go_loopw [7] (fun i wr => ∃ k : Nat, k ≤ l.length ∧ i = .int .i64 (k : Int) ∧ (∀ z ∈ l.take k, gnd R.length z) ∧ Below W.heap.size W wr) (fun i _ => l.length - (RowKit.intOf i).toNat)
    case atStart => exact ⟨0, Nat.zero_le _, rfl, by simp, Below.refl _ _⟩
    case round =>
      obtain ⟨k, hk, rfl, hall, hbw⟩ := hrel
      have hbx2 := (hbw.cell (p := ⟨w.heap.size, 0, none⟩) (by show w.heap.size < W.heap.size; omega)).trans hbx
      have HBW := Lib.hid hbw
      by_cases hlt : k < l.length
      · obtain ⟨b, off, rfl, hc⟩ := (HR.out.below hbw).2 k hlt
        have i0 : (0 : Int) ≤ (k : Int) := by omega
        have i1 : (k : Int) < (l.length : Int) := by omega
        have HST := Lib.hid (all_take12 hlt (gnd R.length))
        have HA := Lib.hid hall
        have HZ : Hid (l.getD k 0 ∈ l) := by show _ ∈ _; rw [getD_lt _ _ hlt]; exact List.getElem_mem hlt
        generalize l.getD k 0 = z at *
        clear hall hbw
        by_cases hz : gnd R.length z
        · have d3 : decide (z < 0) = false := decide_eq_false (by have := hz.1; omega)
          have d4 : decide ((R.length : Int) ≤ z) = false := decide_eq_false (by have := hz.2; omega)
          have HZ2 := Lib.hid hz
          clear hz
          go_wp2_with fail
          go_quiet (fail)
          go_wp2_with fail
          go_roundw
          · exact ⟨k + 1, by omega, by go_num, HST.out.2 ⟨HA.out, HZ2.out⟩, below_dn HBW.out _⟩
          · simp [RowKit.intOf]; omega
        · have hF : Hid (gfault R.length v l = 2) := by
            show _ = _
            unfold gfault
            rw [if_neg (show ¬ gok R.length v l from fun q => hz (q.2 z HZ.out))]
          by_cases hz0 : z < 0
          · have d3 : decide (z < 0) = true := decide_eq_true hz0
            go_wp2_with fail
            go_quiet (fail)
            go_wp2_with fail
            go_ret
            exact ⟨by rw [hF.out]; rfl, below_dn (HB.out.trans (HBW.out.mono (by omega))) _⟩
          · have d3 : decide (z < 0) = false := decide_eq_false hz0
            have d4 : decide ((R.length : Int) ≤ z) = true := decide_eq_true (by unfold gnd at hz; omega)
            go_wp2_with fail
            go_quiet (fail)
            go_wp2_with fail
            go_ret
            exact ⟨by rw [hF.out]; rfl, below_dn (HB.out.trans (HBW.out.mono (by omega))) _⟩
      · obtain rfl : k = l.length := by omega
        have hd0 : decide ((l.length : Int) < (l.length : Int)) = false := decide_eq_false (by omega)
        rw [List.take_length] at hall
        have HOK : Hid (gok R.length v l) := ⟨hv, hall⟩
        have hh := has_any a c l v wr (HR.out.below hbw) (by omega)
        clear hall hbw
        by_cases hvl : v ∈ l
        · rw [decide_eq_true hvl] at hh
          have hF : Hid (gfault R.length v l = 26) := by
            show _ = _
            unfold gfault
            rw [if_pos HOK.out, if_pos hvl]
          go_wp2_with fail
          refine hh.mono ?_; rintro e w2 ⟨rfl, rfl⟩
          go_wp2_with fail
          go_ret
          exact ⟨by rw [hF.out]; rfl, HB.out.trans (HBW.out.mono (by omega))⟩
        · rw [decide_eq_false hvl] at hh
          go_wp2_with fail
          refine hh.mono ?_; rintro e w2 ⟨rfl, rfl⟩
          go_wp2_with fail
          go_loopw [8] (fun i wr => ∃ k : Nat, k ≤ l.length ∧ i = .int .i64 (k : Int) ∧ (l.take k).Nodup ∧ Below W.heap.size W wr) (fun i _ => l.length - (RowKit.intOf i).toNat)
          case atStart => exact ⟨0, Nat.zero_le _, rfl, by simp, HBW.out⟩
          case round =>
            obtain ⟨k, hk, rfl, hnd, hbw⟩ := hrel
            have HBW := Lib.hid hbw
            have HND := Lib.hid hnd
            by_cases hlt : k < l.length
            · have hrdw := HR.out.below hbw
              obtain ⟨b, off, rfl, hc⟩ := hrdw.2 k hlt
              have i0 : (0 : Int) ≤ (k : Int) := by omega
              have i1 : (k : Int) < (l.length : Int) := by omega
              have i2 : (k : Int) ≤ (c : Int) := by omega
              have hh := has_any (some ⟨b, off, none⟩) c (l.take k) (l.getD k 0) wr.drew ((reads_take hrdw k).below (Below.refl _ _).drew) (by rw [List.length_take]; omega)
              have hlk : (l.take k).length = k := by rw [List.length_take]; omega
              rw [hlk] at hh
              have HST := Lib.hid (nodup_take hlt)
              generalize l.getD k 0 = z at *
              clear hnd hbw hrdw
              by_cases hz : z ∈ l.take k
              · rw [decide_eq_true hz] at hh
                have hF : Hid (gfault R.length v l = 35) := by
                  show _ = _
                  unfold gfault
                  rw [if_pos HOK.out, if_neg hvl, if_neg (fun hnl : l.Nodup => (HST.out.1 (List.Sublist.nodup (List.take_sublist _ _) hnl)).2 hz)]
                go_wp2_with fail
                go_region_held3 (fun wz => wz.cell? ⟨b, off + k, none⟩ = some (.int .i64 z)) (exact hc)
                  (first
                    | (go_at_call 15; refine hh.mono ?_; rintro e w3 ⟨rfl, rfl⟩))
                go_wp2_with fail
                go_ret
                exact ⟨by rw [hF.out]; rfl, HB.out.trans ((HBW.out.mono (by omega)).drew)⟩
              · rw [decide_eq_false hz] at hh
                have HZ := Lib.hid hz
                clear hz
                go_wp2_with fail
                go_region_held3 (fun wz => wz.cell? ⟨b, off + k, none⟩ = some (.int .i64 z)) (exact hc)
                  (first
                    | (go_at_call 15; refine hh.mono ?_; rintro e w3 ⟨rfl, rfl⟩))
                go_wp2_with fail
                go_roundw
                · exact ⟨k + 1, by omega, by go_num, HST.out.2 ⟨HND.out, HZ.out⟩, HBW.out.drew⟩
                · simp [RowKit.intOf]; omega
            · obtain rfl : k = l.length := by omega
              have hd1 : decide ((l.length : Int) < (l.length : Int)) = false := decide_eq_false (by omega)
              rw [List.take_length] at hnd
              have hF : Hid (gfault R.length v l = 0) := by
                show _ = _
                unfold gfault
                rw [if_pos HOK.out, if_neg hvl, if_pos hnd]
              clear hnd hbw
              go_wp2_with fail
              go_ret
              exact ⟨by rw [hF.out]; rfl, HB.out.trans (HBW.out.mono (by omega))⟩
  · have hF : Hid (gfault R.length v l = 2) := by
      show _ = _
      unfold gfault
      rw [if_neg (show ¬ gok R.length v l from fun q => hv q.1)]
    by_cases h0 : v < 0
    · have d1 : decide (v < 0) = true := decide_eq_true h0
      go_enter Tryz.func35, Tryz.ntmps35
      go_wp2_with fail
      go_ret
      exact ⟨by rw [hF.out]; rfl, HB.out⟩
    · have d1 : decide (v < 0) = false := decide_eq_false h0
      have d2 : decide ((R.length : Int) ≤ v) = true := decide_eq_true (by unfold gnd at hv; omega)
      go_enter Tryz.func35, Tryz.ntmps35
      go_wp2_with fail
      go_ret
      exact ⟨by rw [hF.out]; rfl, HB.out⟩
end Go.Proofs.YtbaeanpdjdcheaaGreat
