/-
  The landed book's Begin. The conditions: the book's blocks.
-/
import Derived.Test.YtmhfgkkiplencaaUndE
namespace Go.Proofs.Ytmhfgkkiplencaa
open Go.RowKit Go.Maps
set_option linter.unusedSimpArgs false
set_option linter.unusedVariables false

theorem beg_info : (Try.prog.info? 62).map (fun i => (i.zero, i.size, i.bytes)) = some (some (.agg #[.map none, .int .i64 0]), 2, 16) := by kernel_rfl
/-- What is there once the new beginning's map is laid. -/
structure BgI (w : World) (B mv : Nat) (v : Value) (lv : List (Nat × UH)) (X : World) : Prop where
  b : Below w.heap.size w X
  s : X.heap.size = w.heap.size + 1
  m : MpH X w.heap.size (fun _ => none)
  c1 : X.cell? ⟨B, 1, none⟩ = some (.int .i64 0)
  c2 : X.cell? ⟨B, 2, none⟩ = some v
  own : OwnO (fun j => j = B ∨ j = mv ∨ j ∈ lv.map Prod.fst ∨ j = w.heap.size) X 0 62 2 v lv.length (rowB lv)
theorem BgI.mk' {w X : World} {B mv : Nat} {v : Value} {lv : List (Nat × UH)} {g : Int → Option Int} (h : UB w B mv v lv g) (hx : X.heap = (w.alloc (.map #[] 0)).heap) (ho : X.os = w.os ∧ X.tape = w.tape ∧ X.output = w.output) : BgI w B mv v lv X := by
  have hb : Below w.heap.size w X := ⟨ho.1, ho.2.1, ho.2.2, by rw [hx]; simp, fun k hk => by rw [hx]; exact heap_alloc_old w _ hk⟩
  refine ⟨hb, by rw [hx]; simp, ?_, (h.below hb).c1, (h.below hb).c2, ?_⟩
  · exact (MpF.made w).keep (by rw [hx])
  · have ho := (h.below hb).own
    refine ⟨ho.1, fun b q => ⟨(ho.2 b q).1, fun r => ?_⟩⟩
    have hlt := (World.ownsRow.lt h.row b q).2
    rcases r with r | r | r | r
    · exact (ho.2 b q).2 (Or.inl r)
    · exact (ho.2 b q).2 (Or.inr (Or.inl r))
    · exact (ho.2 b q).2 (Or.inr (Or.inr r))
    · omega
/-- .. and the row is one longer. -/
theorem BgI.push {w X w3 : World} {B mv : Nat} {v v3 : Value} {lv : List (Nat × UH)} {g : Int → Option Int} (h : UB w B mv v lv g) (i : BgI w B mv v lv X)
    (o : OwnO (fun j => j = B ∨ j = mv ∨ j ∈ lv.map Prod.fst ∨ j = w.heap.size) w3 0 62 2 v3 (lv.length + 1) (rowB lv ++ [.map (some w.heap.size), .int .i64 0]))
    (t : Turn (fun j => v.ownBlock = some j) X w3) (l : v3.ownBlock = v.ownBlock ∨ ∃ r, v3.ownBlock = some r ∧ X.heap.size ≤ r) :
    w3.cell? ⟨B, 1, none⟩ = some (.int .i64 0) ∧ w3.cell? ⟨B, 2, none⟩ = some v ∧ w3.frozen? ⟨B, 2, none⟩ = false ∧ (w3.setCell ⟨B, 2, none⟩ v3).cell? ⟨B, 1, none⟩ = some (.int .i64 0) ∧
      UB (w3.setCell ⟨B, 2, none⟩ v3) B mv v3 ((w.heap.size, fun _ => none) :: lv) g ∧ Turn (UF B mv v lv) w (w3.setCell ⟨B, 2, none⟩ v3) ∧ ∀ j, UF B mv v3 ((w.heap.size, fun _ => none) :: lv) j → UF B mv v lv j ∨ w.heap.size ≤ j := by
  have t3 : Turn (fun j => v.ownBlock = some j) w w3 := (Turn.of_below i.b).trans t fun j q => Or.inl q
  have hX := i.s
  have hlo : ∀ p ∈ lv, p.1 < w.heap.size := fun p hp => (h.maps p hp).lt
  have hr := h.relay (lv' := (w.heap.size, fun _ => none) :: lv) t3 (by rw [rowB_push]; exact o.1)
    (l.imp id fun ⟨r, h1, h2⟩ => ⟨r, h1, by omega, fun q => by
      rcases List.mem_cons.1 q with q | q
      · dsimp only at q; omega
      · obtain ⟨p, hp, e⟩ := List.mem_map.1 q
        have := hlo p hp; omega⟩)
    (fun p hp => by
      rcases List.mem_cons.1 hp with rfl | hp
      · refine ⟨i.m.keep (t.block _ i.m.lt fun e => ?_), Or.inr (Nat.le_refl _)⟩
        have := (World.ownsRow.lt h.row _ e).2
        omega
      · exact ⟨(h.maps p hp).keep (t3.block _ (hlo p hp) (h.h4 p hp).2.2), Or.inl hp⟩)
    (List.nodup_cons.2 ⟨fun q => by
      obtain ⟨p, hp, e⟩ := List.mem_map.1 q
      have := hlo p hp; dsimp only at e; omega, h.h5⟩)
  have hc1 : w3.cell? ⟨B, 1, none⟩ = some (.int .i64 0) := (t3.cell (a := ⟨B, 1, none⟩) h.lt h.h2).trans h.c1
  exact ⟨hc1, (t3.cell (a := ⟨B, 2, none⟩) h.lt h.h2).trans h.c2, (t3.frozen (a := ⟨B, 2, none⟩) h.lt h.h2).trans h.z2, (World.cell?_setCell_other _ _ _ _ (fun q => by cases q)).trans hc1, hr.1, hr.2.1, hr.2.2⟩
set_option maxHeartbeats 1000000 in
theorem begin_u {w : World} {B : Nat} {U : List Int} {s : USt} {F : Nat → Prop} (h : URep w B U s F) : Calls Try.prog 14 #[.pointer (some ⟨B, 0, none⟩)] w fun e w' => e = .returned (.int .i64 (ubeginE s)) ∧ UPost w B U (ubegin s) F w' := by
  have H0 := Lib.hid h
  obtain ⟨mv, v, lv, h1, h2, h3, h4, rfl⟩ := h
  have hm := made_u h1.c0
  have hlen := h2.len
  have h64 := h3.2.2
  have c1 := h1.c1
  have c2 := h1.c2
  unfold ubeginE ubegin
  by_cases hs : s.2.length = 64
  · rw [if_pos hs, if_pos hs]
    rw [← hlen] at hs
    obtain ⟨a, c, rfl⟩ := h1.form
    rw [hs] at c2
    clear h1 h2 h3 h4 h64 hlen
    go_enter Try.func14, Try.ntmps14
    go_wp2_with fail
    refine hm.mono ?_; rintro e w1 ⟨rfl, rfl⟩
    go_wp2_with fail
    go_ret
    exact ⟨rfl, _, H0.out, Turn.refl _ _, fun j q => Or.inl q⟩
  · rw [if_neg hs, if_neg hs]
    have HE : Hid (∀ w' , UB w' B mv v lv (ulk s.1) → True) := fun _ _ => trivial
    have hmm := @run_makeMap Try.prog
    have hlt : lv.length < 64 := by omega
    have hne : (((lv.length : Nat) : Int) == 64) = false := by simp; omega
    have HI : Hid (∀ X, X.heap = (w.alloc (.map #[] 0)).heap → X.os = w.os ∧ X.tape = w.tape ∧ X.output = w.output → BgI w B mv v lv X) := fun X hx ho => BgI.mk' h1 hx ho
    have HQ : Hid (∀ X w3 v3, BgI w B mv v lv X → OwnO (fun j => j = B ∨ j = mv ∨ j ∈ lv.map Prod.fst ∨ j = w.heap.size) w3 0 62 2 v3 (lv.length + 1) (rowB lv ++ [.map (some w.heap.size), .int .i64 0]) → Turn (fun j => v.ownBlock = some j) X w3 → (v3.ownBlock = v.ownBlock ∨ ∃ r, v3.ownBlock = some r ∧ X.heap.size ≤ r) →
        w3.cell? ⟨B, 1, none⟩ = some (.int .i64 0) ∧ w3.cell? ⟨B, 2, none⟩ = some v ∧ w3.frozen? ⟨B, 2, none⟩ = false ∧ (w3.setCell ⟨B, 2, none⟩ v3).cell? ⟨B, 1, none⟩ = some (.int .i64 0) ∧ UPost w B U (s.1, s.1 :: s.2) (UF B mv v lv) (w3.setCell ⟨B, 2, none⟩ v3)) := fun X w3 v3 i o t l => by
      obtain ⟨a1, a2, a3, a4, a5, a6, a7⟩ := BgI.push h1 i o t l
      exact ⟨a1, a2, a3, a4, _, ⟨mv, v3, _, a5, h2.begin _, ⟨h3.1, fun t ht => (List.mem_cons.1 ht).elim (fun e => e ▸ h3.1) (h3.2.1 t), by simp only [List.length_cons]; omega⟩, h4, rfl⟩, a6, a7⟩
    have HB : Hid (B < w.heap.size ∧ mv < w.heap.size ∧ ∀ j ∈ lv.map Prod.fst, j < w.heap.size) := ⟨h1.lt, h1.vals.lt, fun j q => by obtain ⟨p, hp, rfl⟩ := List.mem_map.1 q; exact (h1.maps p hp).lt⟩
    obtain ⟨a, c, rfl⟩ := h1.form
    clear h1 h2 h3 h4 h64 hlen hs HE
    go_enter Try.func14, Try.ntmps14
    go_wp2_with fail
    refine hm.mono ?_; clear hm; rintro e w1 ⟨rfl, rfl⟩
    go_wp2_with fail
    refine wp_region_held_drew (S := fun wz => wz.cell? ⟨B, 1, none⟩ = some (.int .i64 0)) (by kernel_rfl) (c1) (fun hHeld => ?_)
    refine wpAnyH_take (i := 0) (v := ?_) rfl (by kernel_rfl) (by kernel_rfl) (by kernel_rfl) (fun _ _ _ h => h) (Or.inl ⟨by rfl, ?y0⟩) (by assumption) ?_
    case y0 => intro w hSw; (try dsimp only at hSw); go_simp; (try with_reducible rfl)
    (try simp only [Act.put, List.setIfInBounds_toArray, List.set_cons_zero, List.set_cons_succ, List.getElem_toArray, List.getElem_cons_zero, List.getElem_cons_succ])
    refine wpAnyH_take (i := 1) (v := ?_) rfl (by kernel_rfl) (by kernel_rfl) (by kernel_rfl) (fun _ _ _ h => h) (Or.inl ⟨by rfl, ?y1⟩) (by assumption) ?_
    case y1 => intro w hSw; (try dsimp only at hSw); go_simp; (try with_reducible rfl)
    (try simp only [Act.put, List.setIfInBounds_toArray, List.set_cons_zero, List.set_cons_succ, List.getElem_toArray, List.getElem_cons_zero, List.getElem_cons_succ])
    refine wpAnyH_take (i := 2) (v := ?_) rfl (by kernel_rfl) (by kernel_rfl) (by kernel_rfl) (fun _ _ _ h => h) (Or.inl ⟨by rfl, ?y2⟩) (by assumption) ?_
    case y2 => intro w hSw; (try dsimp only at hSw); go_simp; (try with_reducible rfl)
    (try simp only [Act.put, List.setIfInBounds_toArray, List.set_cons_zero, List.set_cons_succ, List.getElem_toArray, List.getElem_cons_zero, List.getElem_cons_succ])
    refine wpAnyH_take (i := 3) (v := ?_) rfl (by kernel_rfl) (by kernel_rfl) (by kernel_rfl) (fun _ _ _ h => h) (Or.inl ⟨by rfl, ?y3⟩) (by assumption) ?_
    case y3 => intro w hSw; (try dsimp only at hSw); go_simp; (try with_reducible rfl)
    (try simp only [Act.put, List.setIfInBounds_toArray, List.set_cons_zero, List.set_cons_succ, List.getElem_toArray, List.getElem_cons_zero, List.getElem_cons_succ])
    refine wpAnyH_take (i := 6) (v := ?_) rfl (by kernel_rfl) (by kernel_rfl) (by kernel_rfl) (fun _ _ _ h => h) (Or.inl ⟨by rfl, ?y6⟩) (by assumption) ?_
    case y6 => intro w hSw; (try dsimp only at hSw); go_simp; (try with_reducible rfl)
    (try simp only [Act.put, List.setIfInBounds_toArray, List.set_cons_zero, List.set_cons_succ, List.getElem_toArray, List.getElem_cons_zero, List.getElem_cons_succ])
    refine wpAnyH_take (i := 7) (v := ?_) rfl (by kernel_rfl) (by kernel_rfl) (by kernel_rfl) (fun _ _ _ h => h) (Or.inl ⟨by rfl, ?y7⟩) (by assumption) ?_
    case y7 => intro w hSw; (try dsimp only at hSw); go_simp; (try with_reducible rfl)
    (try simp only [Act.put, List.setIfInBounds_toArray, List.set_cons_zero, List.set_cons_succ, List.getElem_toArray, List.getElem_cons_zero, List.getElem_cons_succ])
    refine wpAnyH_take (i := 8) (v := ?_) rfl (by kernel_rfl) (by kernel_rfl) (by kernel_rfl) (fun _ _ _ h => h) (Or.inl ⟨by rfl, ?y8⟩) (by assumption) ?_
    case y8 => intro w hSw; (try dsimp only at hSw); go_simp; (try with_reducible rfl)
    (try simp only [Act.put, List.setIfInBounds_toArray, List.set_cons_zero, List.set_cons_succ, List.getElem_toArray, List.getElem_cons_zero, List.getElem_cons_succ])
    refine wpAnyH_take (i := 9) (v := ?_) rfl (by kernel_rfl) (by kernel_rfl) (by kernel_rfl) (fun _ _ _ h => h) (Or.inl ⟨by rfl, ?y9⟩) (by assumption) ?_
    case y9 => intro w hSw; (try dsimp only at hSw); go_simp; (try with_reducible rfl)
    (try simp only [Act.put, List.setIfInBounds_toArray, List.set_cons_zero, List.set_cons_succ, List.getElem_toArray, List.getElem_cons_zero, List.getElem_cons_succ])
    refine wpAnyH_ready (rs := [4, 5]) (by kernel_rfl) (by simp) ?_
    refine AllReadyH.cons rfl (fun KK hKK => ?_) (AllReadyH.cons rfl (fun KK hKK => ?_) AllReadyH.nil)
    · skip
      go_simp
      refine hKK.out _ _ c1 (fun hHeld => ?_)
      clear hKK KK
      (try simp only [Act.put, List.setIfInBounds_toArray, List.set_cons_zero, List.set_cons_succ, List.getElem_toArray, List.getElem_cons_zero, List.getElem_cons_succ])
      refine wpAnyH_ready (rs := [5]) (by kernel_rfl) (by simp) ?_
      refine AllReadyH.cons rfl (fun KK hKK => ?_) AllReadyH.nil
      go_simp
      have HX := Lib.hid (HI.out (w1.alloc (.map #[] 0)).drew rfl ⟨rfl, rfl, rfl⟩)
      refine hKK.out _ _ HX.out.c1 (fun hHeld => ?_)
      clear hKK KK
      (try simp only [Act.put, List.setIfInBounds_toArray, List.set_cons_zero, List.set_cons_succ, List.getElem_toArray, List.getElem_cons_zero, List.getElem_cons_succ])
      generalize hXe : (w1.alloc (.map #[] 0)).drew = X at *
      clear hXe
      have d2 := HX.out.c2
      have d1 := HX.out.c1
      refine wpAnyH_take (i := 10) (v := ?_) rfl (by kernel_rfl) (by kernel_rfl) (by kernel_rfl) (fun _ _ _ h => h) (Or.inl ⟨by rfl, ?y10⟩) (by assumption) ?_
      case y10 => intro w hSw; (try dsimp only at hSw); go_simp; (try with_reducible rfl)
      (try simp only [Act.put, List.setIfInBounds_toArray, List.set_cons_zero, List.set_cons_succ, List.getElem_toArray, List.getElem_cons_zero, List.getElem_cons_succ])
      refine wpAnyH_ready (rs := [11]) (by kernel_rfl) (by simp) ?_
      refine AllReadyH.cons rfl (fun KK hKK => ?_) AllReadyH.nil
      go_simp
      refine hKK.out _ _ ((Below.cell (below1 X _) (p := ⟨B, 1, none⟩) (World.block_lt_of_cell? _ _ d1)).trans d1) (fun hHeld => ?_)
      clear hKK KK
      (try simp only [Act.put, List.setIfInBounds_toArray, List.set_cons_zero, List.set_cons_succ, List.getElem_toArray, List.getElem_cons_zero, List.getElem_cons_succ])
      refine wpAnyH_ready (rs := [12]) (by kernel_rfl) (by simp) ?_
      refine AllReadyH.cons rfl (fun KK hKK => ?_) AllReadyH.nil
      refine step_push1 rfl (.tmp 18) (.tmp 25) 45 rfl (fun j => j = B ∨ j = mv ∨ j ∈ lv.map Prod.fst ∨ j = w1.heap.size) 0 62 2 16 (.agg #[.map none, .int .i64 0]) Try.underlying45 beg_info rfl (by decide) [.map (some w1.heap.size), .int .i64 0] rfl (.slice a lv.length c) lv.length (rowB lv) (by simp [Act.eval, Act.put]) (w := X) HX.out.own (by simp [Act.eval, Act.put]) (by intro u hu; simp at hu; rcases hu with rfl | rfl <;> rfl) (by omega) (by decide) (Nat.zero_le _) (by
        have := HX.out.s
        have hq := HB.out
        rintro j (q | q | q | q)
        · omega
        · omega
        · have := hq.2.2 j q; omega
        · omega) ?_
      intro v3 w3 o3 t3 l3
      obtain ⟨f1, f2, f3, f4, hPo⟩ := HQ.out X w3 v3 HX.out o3 t3 l3
      have HP := Lib.hid hPo
      obtain ⟨a3, k3, rfl⟩ := (ownsRow_slc o3.1).form
      clear o3 t3 l3 hPo
      refine hKK.out _ _ f1 (fun hHeld => ?_)
      clear hKK KK
      (try simp only [Act.put, List.setIfInBounds_toArray, List.set_cons_zero, List.set_cons_succ, List.getElem_toArray, List.getElem_cons_zero, List.getElem_cons_succ])
      refine wpAnyH_take (i := 13) (v := ?_) rfl (by kernel_rfl) (by kernel_rfl) (by kernel_rfl) (fun _ _ _ h => h) (Or.inl ⟨by rfl, ?y13⟩) (by assumption) ?_
      case y13 => intro w hSw; (try dsimp only at hSw); go_simp; (try with_reducible rfl)
      (try simp only [Act.put, List.setIfInBounds_toArray, List.set_cons_zero, List.set_cons_succ, List.getElem_toArray, List.getElem_cons_zero, List.getElem_cons_succ])
      refine wpAnyH_take (i := 14) (v := ?_) rfl (by kernel_rfl) (by kernel_rfl) (by kernel_rfl) (fun _ _ _ h => h) (Or.inl ⟨by rfl, ?y14⟩) (by assumption) ?_
      case y14 => intro w hSw; (try dsimp only at hSw); go_simp; (try with_reducible rfl)
      (try simp only [Act.put, List.setIfInBounds_toArray, List.set_cons_zero, List.set_cons_succ, List.getElem_toArray, List.getElem_cons_zero, List.getElem_cons_succ])
      refine wpAnyH_ready (rs := [15]) (by kernel_rfl) (by simp) ?_
      refine AllReadyH.cons rfl (fun KK hKK => ?_) AllReadyH.nil
      go_simp
      refine hKK.out _ _ f4 (fun hHeld => ?_)
      clear hKK KK
      refine wpAnyH_done (by kernel_rfl) ?_ _
      go_wp2_with fail
      go_ret
      exact ⟨rfl, HP.out⟩
    · skip
      go_simp
      have HX := Lib.hid (HI.out (w1.alloc (.map #[] 0)).drew rfl ⟨rfl, rfl, rfl⟩)
      refine hKK.out _ _ HX.out.c1 (fun hHeld => ?_)
      clear hKK KK
      (try simp only [Act.put, List.setIfInBounds_toArray, List.set_cons_zero, List.set_cons_succ, List.getElem_toArray, List.getElem_cons_zero, List.getElem_cons_succ])
      generalize hXe : (w1.alloc (.map #[] 0)).drew = X at *
      clear hXe
      have d2 := HX.out.c2
      have d1 := HX.out.c1
      refine wpAnyH_take (i := 10) (v := ?_) rfl (by kernel_rfl) (by kernel_rfl) (by kernel_rfl) (fun _ _ _ h => h) (Or.inl ⟨by rfl, ?y10⟩) (by assumption) ?_
      case y10 => intro w hSw; (try dsimp only at hSw); go_simp; (try with_reducible rfl)
      (try simp only [Act.put, List.setIfInBounds_toArray, List.set_cons_zero, List.set_cons_succ, List.getElem_toArray, List.getElem_cons_zero, List.getElem_cons_succ])
      refine wpAnyH_ready (rs := [4, 11]) (by kernel_rfl) (by simp) ?_
      refine AllReadyH.cons rfl (fun KK hKK => ?_) (AllReadyH.cons rfl (fun KK hKK => ?_) AllReadyH.nil)
      · skip
        go_simp
        refine hKK.out _ _ HX.out.c1 (fun hHeld => ?_)
        clear hKK KK
        (try simp only [Act.put, List.setIfInBounds_toArray, List.set_cons_zero, List.set_cons_succ, List.getElem_toArray, List.getElem_cons_zero, List.getElem_cons_succ])
        refine wpAnyH_ready (rs := [11]) (by kernel_rfl) (by simp) ?_
        refine AllReadyH.cons rfl (fun KK hKK => ?_) AllReadyH.nil
        go_simp
        refine hKK.out _ _ ((Below.cell (below1 X _) (p := ⟨B, 1, none⟩) (World.block_lt_of_cell? _ _ d1)).trans d1) (fun hHeld => ?_)
        clear hKK KK
        (try simp only [Act.put, List.setIfInBounds_toArray, List.set_cons_zero, List.set_cons_succ, List.getElem_toArray, List.getElem_cons_zero, List.getElem_cons_succ])
        refine wpAnyH_ready (rs := [12]) (by kernel_rfl) (by simp) ?_
        refine AllReadyH.cons rfl (fun KK hKK => ?_) AllReadyH.nil
        refine step_push1 rfl (.tmp 18) (.tmp 25) 45 rfl (fun j => j = B ∨ j = mv ∨ j ∈ lv.map Prod.fst ∨ j = w1.heap.size) 0 62 2 16 (.agg #[.map none, .int .i64 0]) Try.underlying45 beg_info rfl (by decide) [.map (some w1.heap.size), .int .i64 0] rfl (.slice a lv.length c) lv.length (rowB lv) (by simp [Act.eval, Act.put]) (w := X) HX.out.own (by simp [Act.eval, Act.put]) (by intro u hu; simp at hu; rcases hu with rfl | rfl <;> rfl) (by omega) (by decide) (Nat.zero_le _) (by
          have := HX.out.s
          have hq := HB.out
          rintro j (q | q | q | q)
          · omega
          · omega
          · have := hq.2.2 j q; omega
          · omega) ?_
        intro v3 w3 o3 t3 l3
        obtain ⟨f1, f2, f3, f4, hPo⟩ := HQ.out X w3 v3 HX.out o3 t3 l3
        have HP := Lib.hid hPo
        obtain ⟨a3, k3, rfl⟩ := (ownsRow_slc o3.1).form
        clear o3 t3 l3 hPo
        refine hKK.out _ _ f1 (fun hHeld => ?_)
        clear hKK KK
        (try simp only [Act.put, List.setIfInBounds_toArray, List.set_cons_zero, List.set_cons_succ, List.getElem_toArray, List.getElem_cons_zero, List.getElem_cons_succ])
        refine wpAnyH_take (i := 13) (v := ?_) rfl (by kernel_rfl) (by kernel_rfl) (by kernel_rfl) (fun _ _ _ h => h) (Or.inl ⟨by rfl, ?y13⟩) (by assumption) ?_
        case y13 => intro w hSw; (try dsimp only at hSw); go_simp; (try with_reducible rfl)
        (try simp only [Act.put, List.setIfInBounds_toArray, List.set_cons_zero, List.set_cons_succ, List.getElem_toArray, List.getElem_cons_zero, List.getElem_cons_succ])
        refine wpAnyH_take (i := 14) (v := ?_) rfl (by kernel_rfl) (by kernel_rfl) (by kernel_rfl) (fun _ _ _ h => h) (Or.inl ⟨by rfl, ?y14⟩) (by assumption) ?_
        case y14 => intro w hSw; (try dsimp only at hSw); go_simp; (try with_reducible rfl)
        (try simp only [Act.put, List.setIfInBounds_toArray, List.set_cons_zero, List.set_cons_succ, List.getElem_toArray, List.getElem_cons_zero, List.getElem_cons_succ])
        refine wpAnyH_ready (rs := [15]) (by kernel_rfl) (by simp) ?_
        refine AllReadyH.cons rfl (fun KK hKK => ?_) AllReadyH.nil
        go_simp
        refine hKK.out _ _ f4 (fun hHeld => ?_)
        clear hKK KK
        refine wpAnyH_done (by kernel_rfl) ?_ _
        go_wp2_with fail
        go_ret
        exact ⟨rfl, HP.out⟩
      · skip
        have d3 := (Below.cell (below1 X (Beg (.map (some w1.heap.size)) (.int .i64 0))) (p := ⟨B, 2, none⟩) (World.block_lt_of_cell? _ _ d2)).trans d2
        go_simp
        refine hKK.out _ _ ((Below.cell (below1 X _) (p := ⟨B, 1, none⟩) (World.block_lt_of_cell? _ _ d1)).trans d1) (fun hHeld => ?_)
        clear hKK KK
        (try simp only [Act.put, List.setIfInBounds_toArray, List.set_cons_zero, List.set_cons_succ, List.getElem_toArray, List.getElem_cons_zero, List.getElem_cons_succ])
        refine wpAnyH_ready (rs := [4]) (by kernel_rfl) (by simp) ?_
        refine AllReadyH.cons rfl (fun KK hKK => ?_) AllReadyH.nil
        go_simp
        refine hKK.out _ _ ((Below.cell (below1 X _) (p := ⟨B, 1, none⟩) (World.block_lt_of_cell? _ _ d1)).trans d1) (fun hHeld => ?_)
        clear hKK KK
        (try simp only [Act.put, List.setIfInBounds_toArray, List.set_cons_zero, List.set_cons_succ, List.getElem_toArray, List.getElem_cons_zero, List.getElem_cons_succ])
        refine wpAnyH_ready (rs := [12]) (by kernel_rfl) (by simp) ?_
        refine AllReadyH.cons rfl (fun KK hKK => ?_) AllReadyH.nil
        refine step_push1 rfl (.tmp 18) (.tmp 25) 45 rfl (fun j => j = B ∨ j = mv ∨ j ∈ lv.map Prod.fst ∨ j = w1.heap.size) 0 62 2 16 (.agg #[.map none, .int .i64 0]) Try.underlying45 beg_info rfl (by decide) [.map (some w1.heap.size), .int .i64 0] rfl (.slice a lv.length c) lv.length (rowB lv) (by simp [Act.eval, Act.put]) (w := X) HX.out.own (by simp [Act.eval, Act.put]) (by intro u hu; simp at hu; rcases hu with rfl | rfl <;> rfl) (by omega) (by decide) (Nat.zero_le _) (by
          have := HX.out.s
          have hq := HB.out
          rintro j (q | q | q | q)
          · omega
          · omega
          · have := hq.2.2 j q; omega
          · omega) ?_
        intro v3 w3 o3 t3 l3
        obtain ⟨f1, f2, f3, f4, hPo⟩ := HQ.out X w3 v3 HX.out o3 t3 l3
        have HP := Lib.hid hPo
        obtain ⟨a3, k3, rfl⟩ := (ownsRow_slc o3.1).form
        clear o3 t3 l3 hPo
        refine hKK.out _ _ f1 (fun hHeld => ?_)
        clear hKK KK
        (try simp only [Act.put, List.setIfInBounds_toArray, List.set_cons_zero, List.set_cons_succ, List.getElem_toArray, List.getElem_cons_zero, List.getElem_cons_succ])
        refine wpAnyH_take (i := 13) (v := ?_) rfl (by kernel_rfl) (by kernel_rfl) (by kernel_rfl) (fun _ _ _ h => h) (Or.inl ⟨by rfl, ?y13⟩) (by assumption) ?_
        case y13 => intro w hSw; (try dsimp only at hSw); go_simp; (try with_reducible rfl)
        (try simp only [Act.put, List.setIfInBounds_toArray, List.set_cons_zero, List.set_cons_succ, List.getElem_toArray, List.getElem_cons_zero, List.getElem_cons_succ])
        refine wpAnyH_take (i := 14) (v := ?_) rfl (by kernel_rfl) (by kernel_rfl) (by kernel_rfl) (fun _ _ _ h => h) (Or.inl ⟨by rfl, ?y14⟩) (by assumption) ?_
        case y14 => intro w hSw; (try dsimp only at hSw); go_simp; (try with_reducible rfl)
        (try simp only [Act.put, List.setIfInBounds_toArray, List.set_cons_zero, List.set_cons_succ, List.getElem_toArray, List.getElem_cons_zero, List.getElem_cons_succ])
        refine wpAnyH_ready (rs := [15]) (by kernel_rfl) (by simp) ?_
        refine AllReadyH.cons rfl (fun KK hKK => ?_) AllReadyH.nil
        go_simp
        refine hKK.out _ _ f4 (fun hHeld => ?_)
        clear hKK KK
        refine wpAnyH_done (by kernel_rfl) ?_ _
        go_wp2_with fail
        go_ret
        exact ⟨rfl, HP.out⟩
end Go.Proofs.Ytmhfgkkiplencaa
