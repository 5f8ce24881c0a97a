/-
  What the landed pile's put and take answer. The conditions: the pile's blocks, a heap, how many were pushed.
-/
import Derived.Test.YtjkldjgeagociaaHepS
import Derived.Test.YtjkldjgeagociaaHepP
import Derived.Deep.RegionWith
namespace Go.Proofs.Ytjkldjgeagociaa
open Go.RowKit
set_option linter.unusedSimpArgs false
set_option linter.unusedVariables false

theorem ent_info : (Try.prog.info? 60).map (fun i => (i.zero, i.size, i.bytes)) = some (some (.agg #[.int .i64 0, .int .i64 0, .int .i64 0]), 3, 24) := by kernel_rfl
theorem own_some {w : World} {base : Nat} {e : TypeId} {size n : Nat} {v : Value} {xs : List Value} (h : w.ownsRow base e size v n xs) (h0 : 0 < n) : ∃ g cap, v = .slice (some ⟨g, 0, none⟩) n cap := by
  rcases h.2 with ⟨_, q⟩ | ⟨g, cap, cur, q, _⟩
  · omega
  · exact ⟨g, cap, q⟩
theorem count_up (p : Int) (h0 : 0 ≤ p) (h : p ≤ 1000000) : wrap64 (p + 1) = p + 1 := by unfold wrap64; omega
set_option maxHeartbeats 4000000 in
set_option maxRecDepth 100000 in
theorem put_9 {w : World} {B b : Nat} {H : List Ent} {p : Int} {v : Value} (x y : Int) (h : HepH w B H p b v) (hh : Heap H) (hl : H.length < 1000000) (hp0 : 0 ≤ p) (hp : p ≤ 1000000) :
    Calls Try.prog 24 #[.pointer (some ⟨B, 0, none⟩), .agg #[.int .i64 x, .int .i64 y]] w fun e w' => e = .returned (.tuple #[]) ∧
      ∃ H' v', H'.Perm (H ++ [(x, y, p)]) ∧ Heap H' ∧ HepH w' B H' (p + 1) b v' ∧ Turn (HepF B b v) w w' ∧ ∀ j, HepF B b v' j → HepF B b v j ∨ w.heap.size ≤ j := by
  obtain ⟨a, c, rfl⟩ := h.form
  have hfo := h.foot
  have hb0 := below1 w (.cells #[.int .i64 x, .int .i64 y] 25)
  replace h := h.below hb0
  have c1 := h.c1
  have c2 := h.c2
  have z1 := h.z1
  have hcu := count_up p hp0 hp
  have hrs := rise_start hh (x, y, p)
  have HRS := Lib.hid hrs
  have H0 := Lib.hid h; have HFO := Lib.hid hfo
  have f1 : (w.alloc (.cells #[.int .i64 x, .int .i64 y] 25)).cell? ⟨w.heap.size, 0, none⟩ = some (.int .i64 x) := by simp [go_sem]
  have f2 : (w.alloc (.cells #[.int .i64 x, .int .i64 y] 25)).cell? ⟨w.heap.size, 1, none⟩ = some (.int .i64 y) := by simp [go_sem]
  have hfB : B < w.heap.size := hfo B (Or.inl rfl)
  have hfb : b < w.heap.size := hfo b (Or.inr (Or.inl rfl))
  have hfv : ¬ (Value.slice a H.length c).ownBlock = some w.heap.size := fun r => Nat.lt_irrefl _ (hfo _ (Or.inr (Or.inr r)))
  clear h hfo hh hrs
  go_enter Try.func24, Try.ntmps24
  go_wp2_with fail
  generalize hW : w.alloc (.cells #[.int .i64 x, .int .i64 y] 25) = W at *
  have hsz : w.heap.size < W.heap.size := by rw [← hW]; simp
  have S4 : Hid (∀ wz, Turn (fun j => (Value.slice a H.length c).ownBlock = some j) W wz → wz.cell? ⟨w.heap.size, 0, none⟩ = some (.int .i64 x) ∧ wz.cell? ⟨w.heap.size, 1, none⟩ = some (.int .i64 y) ∧ wz.cell? ⟨B, 2, none⟩ = some (.int .i64 p)) := by
    intro wz q
    exact ⟨(q.cell (a := ⟨w.heap.size, 0, none⟩) hsz hfv).trans f1, (q.cell (a := ⟨w.heap.size, 1, none⟩) hsz hfv).trans f2, (q.cell (a := ⟨B, 2, none⟩) H0.out.lt H0.out.h2).trans c2⟩
  have S5 : Hid (∀ wz u, Turn (fun j => (Value.slice a H.length c).ownBlock = some j) W wz → (wz.setCell ⟨B, 1, none⟩ u).cell? ⟨w.heap.size, 0, none⟩ = some (.int .i64 x) ∧ (wz.setCell ⟨B, 1, none⟩ u).cell? ⟨w.heap.size, 1, none⟩ = some (.int .i64 y) ∧ (wz.setCell ⟨B, 1, none⟩ u).cell? ⟨B, 2, none⟩ = some (.int .i64 p)) := by
    intro wz u q
    obtain ⟨s1, s2, s3⟩ := S4.out wz q
    exact ⟨(World.cell?_setCell_other _ _ _ _ (fun r => by cases r)).trans s1, (World.cell?_setCell_other _ _ _ _ (fun r => by cases r; omega)).trans s2, (World.cell?_setCell_other _ _ _ _ (fun r => by cases r)).trans s3⟩
  have x1 : (W.alloc (.cells #[.int .i64 x, .int .i64 y, .int .i64 p] 60)).cell? ⟨B, 1, none⟩ = some (.slice a H.length c) := ((below1 W _).cell (p := ⟨B, 1, none⟩) H0.out.lt).trans c1
  refine wp_region_held_drew (S := (fun wz => wz.cell? ⟨w.heap.size, 0, none⟩ = some (.int .i64 x) ∧ wz.cell? ⟨w.heap.size, 1, none⟩ = some (.int .i64 y) ∧ wz.cell? ⟨B, 2, none⟩ = some (.int .i64 p))) (by kernel_rfl) ((⟨f1, f2, c2⟩)) (fun hHeld => ?_)
  refine wpAnyH_take (i := 0) (v := ?_) rfl (by kernel_rfl) (by kernel_rfl) (by kernel_rfl) (fun _ _ _ h => h) (Or.inl ⟨by rfl, ?y0⟩) (by assumption) ?_
  case y0 => intro w hSw; (try dsimp only at hSw); go_simp; (try with_reducible rfl)
  (try simp only [Act.put, List.setIfInBounds_toArray, List.set_cons_zero, List.set_cons_succ, List.getElem_toArray, List.getElem_cons_zero, List.getElem_cons_succ])
  refine wpAnyH_take (i := 1) (v := ?_) rfl (by kernel_rfl) (by kernel_rfl) (by kernel_rfl) (fun _ _ _ h => h) (Or.inl ⟨by rfl, ?y1⟩) (by assumption) ?_
  case y1 => intro w hSw; (try dsimp only at hSw); go_simp; (try with_reducible rfl)
  (try simp only [Act.put, List.setIfInBounds_toArray, List.set_cons_zero, List.set_cons_succ, List.getElem_toArray, List.getElem_cons_zero, List.getElem_cons_succ])
  refine wpAnyH_take (i := 2) (v := ?_) rfl (by kernel_rfl) (by kernel_rfl) (by kernel_rfl) (fun _ _ _ h => h) (Or.inl ⟨by rfl, ?y2⟩) (by assumption) ?_
  case y2 => intro w hSw; (try dsimp only at hSw); go_simp; (try with_reducible rfl)
  (try simp only [Act.put, List.setIfInBounds_toArray, List.set_cons_zero, List.set_cons_succ, List.getElem_toArray, List.getElem_cons_zero, List.getElem_cons_succ])
  refine wpAnyH_take (i := 3) (v := ?_) rfl (by kernel_rfl) (by kernel_rfl) (by kernel_rfl) (fun _ _ _ h => h) (Or.inl ⟨by rfl, ?y3⟩) (by assumption) ?_
  case y3 => intro w hSw; (try dsimp only at hSw); go_simp; (try with_reducible rfl)
  (try simp only [Act.put, List.setIfInBounds_toArray, List.set_cons_zero, List.set_cons_succ, List.getElem_toArray, List.getElem_cons_zero, List.getElem_cons_succ])
  refine wpAnyH_take (i := 5) (v := ?_) rfl (by kernel_rfl) (by kernel_rfl) (by kernel_rfl) (fun _ _ _ h => h) (Or.inl ⟨by rfl, ?y5⟩) (by assumption) ?_
  case y5 => intro w hSw; (try dsimp only at hSw); go_simp; (try with_reducible rfl)
  (try simp only [Act.put, List.setIfInBounds_toArray, List.set_cons_zero, List.set_cons_succ, List.getElem_toArray, List.getElem_cons_zero, List.getElem_cons_succ])
  refine wpAnyH_take (i := 6) (v := ?_) rfl (by kernel_rfl) (by kernel_rfl) (by kernel_rfl) (fun _ _ _ h => h) (Or.inl ⟨by rfl, ?y6⟩) (by assumption) ?_
  case y6 => intro w hSw; (try dsimp only at hSw); go_simp; (try with_reducible rfl)
  (try simp only [Act.put, List.setIfInBounds_toArray, List.set_cons_zero, List.set_cons_succ, List.getElem_toArray, List.getElem_cons_zero, List.getElem_cons_succ])
  refine wpAnyH_take (i := 7) (v := ?_) rfl (by kernel_rfl) (by kernel_rfl) (by kernel_rfl) (fun _ _ _ h => h) (Or.inl ⟨by rfl, ?y7⟩) (by assumption) ?_
  case y7 => intro w hSw; (try dsimp only at hSw); go_simp; (try with_reducible rfl)
  (try simp only [Act.put, List.setIfInBounds_toArray, List.set_cons_zero, List.set_cons_succ, List.getElem_toArray, List.getElem_cons_zero, List.getElem_cons_succ])
  refine wpAnyH_take (i := 8) (v := ?_) rfl (by kernel_rfl) (by kernel_rfl) (by kernel_rfl) (fun _ _ _ h => h) (Or.inl ⟨by rfl, ?y8⟩) (by assumption) ?_
  case y8 => intro w hSw; (try dsimp only at hSw); go_simp; (try with_reducible rfl)
  (try simp only [Act.put, List.setIfInBounds_toArray, List.set_cons_zero, List.set_cons_succ, List.getElem_toArray, List.getElem_cons_zero, List.getElem_cons_succ])
  refine wpAnyH_take (i := 9) (v := ?_) rfl (by kernel_rfl) (by kernel_rfl) (by kernel_rfl) (fun _ _ _ h => h) (Or.inl ⟨by rfl, ?y9⟩) (by assumption) ?_
  case y9 => intro w hSw; (try dsimp only at hSw); go_simp; (try with_reducible rfl)
  (try simp only [Act.put, List.setIfInBounds_toArray, List.set_cons_zero, List.set_cons_succ, List.getElem_toArray, List.getElem_cons_zero, List.getElem_cons_succ])
  refine wpAnyH_take (i := 10) (v := ?_) rfl (by kernel_rfl) (by kernel_rfl) (by kernel_rfl) (fun _ _ _ h => h) (Or.inl ⟨by rfl, ?y10⟩) (by assumption) ?_
  case y10 => intro w hSw; (try dsimp only at hSw); go_simp; (try with_reducible rfl)
  (try simp only [Act.put, List.setIfInBounds_toArray, List.set_cons_zero, List.set_cons_succ, List.getElem_toArray, List.getElem_cons_zero, List.getElem_cons_succ])
  refine wpAnyH_ready (rs := [4, 11]) (by kernel_rfl) (by simp) ?_
  refine AllReadyH.cons rfl (fun KK hKK => ?_) (AllReadyH.cons rfl (fun KK hKK => ?_) AllReadyH.nil)
  · go_simp
    refine hKK.out _ _ ?_ (fun hHeld => ?_)
    · first | exact ⟨f1, f2, c2⟩ | exact S4.out _ (Turn.of_below ((below1 W _).drew))
    clear hKK KK
    (try simp only [Act.put, List.setIfInBounds_toArray, List.set_cons_zero, List.set_cons_succ, List.getElem_toArray, List.getElem_cons_zero, List.getElem_cons_succ])
    refine wpAnyH_ready (rs := [11]) (by kernel_rfl) (by simp) ?_
    refine AllReadyH.cons rfl (fun KK hKK => ?_) AllReadyH.nil
    go_simp
    refine hKK.out _ _ (S4.out _ (Turn.of_below ((below1 W _).drew))) (fun hHeld => ?_)
    clear hKK KK
    (try simp only [Act.put, List.setIfInBounds_toArray, List.set_cons_zero, List.set_cons_succ, List.getElem_toArray, List.getElem_cons_zero, List.getElem_cons_succ])
    refine wpAnyH_ready (rs := [12]) (by kernel_rfl) (by simp) ?_
    refine AllReadyH.cons rfl (fun KK hKK => ?_) AllReadyH.nil
    refine step_push1 rfl (.tmp 8) (.tmp 15) 48 rfl (fun j => j = B ∨ j = b) 0 60 3 24 (.agg #[.int .i64 0, .int .i64 0, .int .i64 0]) Try.underlying48 ent_info rfl (by decide) (cells3 (x, y, p)) rfl (.slice a H.length c) H.length (H.flatMap cells3) (by simp [Act.eval, Act.put]) (w := W.drew) ⟨H0.out.own.1.drew, H0.out.own.2⟩ (by simp [Act.eval, Act.put]) (by intro u hu; simp [cells3] at hu; rcases hu with rfl | rfl | rfl <;> rfl) (by omega) (by decide) (Nat.zero_le _) (fun j q => q.elim (fun q => q ▸ H0.out.lt) (fun q => q ▸ H0.out.ltb)) ?_
    intro v3 w3 o3 t3 l3
    have t3' : Turn (fun j => (Value.slice a H.length c).ownBlock = some j) W w3 := ⟨t3.os, t3.tape, t3.output, t3.size, t3.block⟩
    obtain ⟨g3, q3, rfl⟩ := own_some o3.1 (by omega)
    have HP := Lib.hid (H0.out.relay (H' := H ++ [(x, y, p)]) (by rw [List.length_append, List.flatMap_append]; simpa using o3) t3' l3)
    have hB3 : w3.heap[B]? = W.heap[B]? := t3'.block B H0.out.lt H0.out.h2
    have T3 := Lib.hid t3'
    have y1 : w3.cell? ⟨B, 1, none⟩ = some (.slice a H.length c) := (World.cell?_of_block hB3).trans H0.out.c1
    have y2 : w3.frozen? ⟨B, 1, none⟩ = false := (World.frozen?_of_block hB3).trans H0.out.z1
    clear hB3 o3 t3 l3 t3'
    refine hKK.out _ _ (S4.out _ T3.out) (fun hHeld => ?_)
    clear hKK KK
    (try simp only [Act.put, List.setIfInBounds_toArray, List.set_cons_zero, List.set_cons_succ, List.getElem_toArray, List.getElem_cons_zero, List.getElem_cons_succ])
    refine wpAnyH_take (i := 13) (v := ?_) rfl (by kernel_rfl) (by kernel_rfl) (by kernel_rfl) (fun _ _ _ h => h) (Or.inl ⟨by rfl, ?y13⟩) (by assumption) ?_
    case y13 => intro w hSw; (try dsimp only at hSw); go_simp; (try with_reducible rfl)
    (try simp only [Act.put, List.setIfInBounds_toArray, List.set_cons_zero, List.set_cons_succ, List.getElem_toArray, List.getElem_cons_zero, List.getElem_cons_succ])
    refine wpAnyH_take (i := 14) (v := ?_) rfl (by kernel_rfl) (by kernel_rfl) (by kernel_rfl) (fun _ _ _ h => h) (Or.inl ⟨by rfl, ?y14⟩) (by assumption) ?_
    case y14 => intro w hSw; (try dsimp only at hSw); go_simp; (try with_reducible rfl)
    (try simp only [Act.put, List.setIfInBounds_toArray, List.set_cons_zero, List.set_cons_succ, List.getElem_toArray, List.getElem_cons_zero, List.getElem_cons_succ])
    refine wpAnyH_ready (rs := [15]) (by kernel_rfl) (by simp) ?_
    refine AllReadyH.cons rfl (fun KK hKK => ?_) AllReadyH.nil
    go_simp
    refine hKK.out _ _ (S5.out _ _ T3.out) (fun hHeld => ?_)
    clear hKK KK
    (try simp only [Act.put, List.setIfInBounds_toArray, List.set_cons_zero, List.set_cons_succ, List.getElem_toArray, List.getElem_cons_zero, List.getElem_cons_succ])
    refine wpAnyH_done (by kernel_rfl) ?_ _
    generalize hW4 : w3.setCell ⟨B, 1, none⟩ (.slice (some ⟨g3, 0, none⟩) (H.length + 1) q3) = W4 at *
    obtain ⟨hP1, hP2, hP3⟩ := HP.out
    have d1 := hP1.c1
    have d2 := hP1.c2
    have d3 := hP1.z2
    have hc := hP1.count (p + 1)
    have hlen : (H ++ [(x, y, p)]).length = H.length + 1 := by simp
    have hrr : Rising (H ++ [(x, y, p)]) ((H ++ [(x, y, p)]).length - 1) := by rw [hlen, Nat.add_sub_cancel]; exact HRS.out
    generalize hH1 : H ++ [(x, y, p)] = H1 at *
    have d4 := hc.1.c1
    rw [← hlen] at hc
    have hri := rise_9 hc.1 (by omega) hrr (by omega)
    rw [hlen] at hri
    have T5 := Lib.hid ((Turn.of_below (F := HepF B b (.slice a H.length c)) hb0).trans (hP2.trans hc.2 (fun j q => (hP3 j (by rw [hlen] at q; exact q)).imp id (fun q => q))) (fun j q => Or.inl q))
    have HC := Lib.hid hc; have HP3 := Lib.hid hP3; have HP1 := Lib.hid hP1
    clear hc hP1 hP2 hP3 hrr x1 y1 y2 f1 f2
    go_wp2_with fail
    refine hri.mono ?_; rintro e w5 ⟨rfl, H', hpm, hhp, hT, ht⟩
    go_wp2_with fail
    go_end0
    refine ⟨rfl, H', .slice (some ⟨g3, 0, none⟩) (H.length + 1) q3, by rw [hH1]; exact hpm, hhp, hT, ?_, ?_⟩
    · exact T5.out.trans (ht.mono (fun j q => (Or.inr (Or.inr (show _ = some j by rw [q]; rfl)) : HepF B b (.slice (some ⟨g3, 0, none⟩) (H.length + 1) q3) j))) (fun j q => (HP3.out j q).imp id (fun q => Nat.le_trans hb0.size q))
    · exact fun j q => (HP3.out j q).imp id (fun q => Nat.le_trans hb0.size q)
  · go_simp
    refine hKK.out _ _ (S4.out _ (Turn.of_below ((below1 W _).drew))) (fun hHeld => ?_)
    clear hKK KK
    (try simp only [Act.put, List.setIfInBounds_toArray, List.set_cons_zero, List.set_cons_succ, List.getElem_toArray, List.getElem_cons_zero, List.getElem_cons_succ])
    refine wpAnyH_ready (rs := [4]) (by kernel_rfl) (by simp) ?_
    refine AllReadyH.cons rfl (fun KK hKK => ?_) AllReadyH.nil
    go_simp
    refine hKK.out _ _ ?_ (fun hHeld => ?_)
    · first | exact ⟨f1, f2, c2⟩ | exact S4.out _ (Turn.of_below ((below1 W _).drew))
    clear hKK KK
    (try simp only [Act.put, List.setIfInBounds_toArray, List.set_cons_zero, List.set_cons_succ, List.getElem_toArray, List.getElem_cons_zero, List.getElem_cons_succ])
    refine wpAnyH_ready (rs := [12]) (by kernel_rfl) (by simp) ?_
    refine AllReadyH.cons rfl (fun KK hKK => ?_) AllReadyH.nil
    refine step_push1 rfl (.tmp 8) (.tmp 15) 48 rfl (fun j => j = B ∨ j = b) 0 60 3 24 (.agg #[.int .i64 0, .int .i64 0, .int .i64 0]) Try.underlying48 ent_info rfl (by decide) (cells3 (x, y, p)) rfl (.slice a H.length c) H.length (H.flatMap cells3) (by simp [Act.eval, Act.put]) (w := W.drew) ⟨H0.out.own.1.drew, H0.out.own.2⟩ (by simp [Act.eval, Act.put]) (by intro u hu; simp [cells3] at hu; rcases hu with rfl | rfl | rfl <;> rfl) (by omega) (by decide) (Nat.zero_le _) (fun j q => q.elim (fun q => q ▸ H0.out.lt) (fun q => q ▸ H0.out.ltb)) ?_
    intro v3 w3 o3 t3 l3
    have t3' : Turn (fun j => (Value.slice a H.length c).ownBlock = some j) W w3 := ⟨t3.os, t3.tape, t3.output, t3.size, t3.block⟩
    obtain ⟨g3, q3, rfl⟩ := own_some o3.1 (by omega)
    have HP := Lib.hid (H0.out.relay (H' := H ++ [(x, y, p)]) (by rw [List.length_append, List.flatMap_append]; simpa using o3) t3' l3)
    have hB3 : w3.heap[B]? = W.heap[B]? := t3'.block B H0.out.lt H0.out.h2
    have T3 := Lib.hid t3'
    have y1 : w3.cell? ⟨B, 1, none⟩ = some (.slice a H.length c) := (World.cell?_of_block hB3).trans H0.out.c1
    have y2 : w3.frozen? ⟨B, 1, none⟩ = false := (World.frozen?_of_block hB3).trans H0.out.z1
    clear hB3 o3 t3 l3 t3'
    refine hKK.out _ _ (S4.out _ T3.out) (fun hHeld => ?_)
    clear hKK KK
    (try simp only [Act.put, List.setIfInBounds_toArray, List.set_cons_zero, List.set_cons_succ, List.getElem_toArray, List.getElem_cons_zero, List.getElem_cons_succ])
    refine wpAnyH_take (i := 13) (v := ?_) rfl (by kernel_rfl) (by kernel_rfl) (by kernel_rfl) (fun _ _ _ h => h) (Or.inl ⟨by rfl, ?y13⟩) (by assumption) ?_
    case y13 => intro w hSw; (try dsimp only at hSw); go_simp; (try with_reducible rfl)
    (try simp only [Act.put, List.setIfInBounds_toArray, List.set_cons_zero, List.set_cons_succ, List.getElem_toArray, List.getElem_cons_zero, List.getElem_cons_succ])
    refine wpAnyH_take (i := 14) (v := ?_) rfl (by kernel_rfl) (by kernel_rfl) (by kernel_rfl) (fun _ _ _ h => h) (Or.inl ⟨by rfl, ?y14⟩) (by assumption) ?_
    case y14 => intro w hSw; (try dsimp only at hSw); go_simp; (try with_reducible rfl)
    (try simp only [Act.put, List.setIfInBounds_toArray, List.set_cons_zero, List.set_cons_succ, List.getElem_toArray, List.getElem_cons_zero, List.getElem_cons_succ])
    refine wpAnyH_ready (rs := [15]) (by kernel_rfl) (by simp) ?_
    refine AllReadyH.cons rfl (fun KK hKK => ?_) AllReadyH.nil
    go_simp
    refine hKK.out _ _ (S5.out _ _ T3.out) (fun hHeld => ?_)
    clear hKK KK
    (try simp only [Act.put, List.setIfInBounds_toArray, List.set_cons_zero, List.set_cons_succ, List.getElem_toArray, List.getElem_cons_zero, List.getElem_cons_succ])
    refine wpAnyH_done (by kernel_rfl) ?_ _
    generalize hW4 : w3.setCell ⟨B, 1, none⟩ (.slice (some ⟨g3, 0, none⟩) (H.length + 1) q3) = W4 at *
    obtain ⟨hP1, hP2, hP3⟩ := HP.out
    have d1 := hP1.c1
    have d2 := hP1.c2
    have d3 := hP1.z2
    have hc := hP1.count (p + 1)
    have hlen : (H ++ [(x, y, p)]).length = H.length + 1 := by simp
    have hrr : Rising (H ++ [(x, y, p)]) ((H ++ [(x, y, p)]).length - 1) := by rw [hlen, Nat.add_sub_cancel]; exact HRS.out
    generalize hH1 : H ++ [(x, y, p)] = H1 at *
    have d4 := hc.1.c1
    rw [← hlen] at hc
    have hri := rise_9 hc.1 (by omega) hrr (by omega)
    rw [hlen] at hri
    have T5 := Lib.hid ((Turn.of_below (F := HepF B b (.slice a H.length c)) hb0).trans (hP2.trans hc.2 (fun j q => (hP3 j (by rw [hlen] at q; exact q)).imp id (fun q => q))) (fun j q => Or.inl q))
    have HC := Lib.hid hc; have HP3 := Lib.hid hP3; have HP1 := Lib.hid hP1
    clear hc hP1 hP2 hP3 hrr x1 y1 y2 f1 f2
    go_wp2_with fail
    refine hri.mono ?_; rintro e w5 ⟨rfl, H', hpm, hhp, hT, ht⟩
    go_wp2_with fail
    go_end0
    refine ⟨rfl, H', .slice (some ⟨g3, 0, none⟩) (H.length + 1) q3, by rw [hH1]; exact hpm, hhp, hT, ?_, ?_⟩
    · exact T5.out.trans (ht.mono (fun j q => (Or.inr (Or.inr (show _ = some j by rw [q]; rfl)) : HepF B b (.slice (some ⟨g3, 0, none⟩) (H.length + 1) q3) j))) (fun j q => (HP3.out j q).imp id (fun q => Nat.le_trans hb0.size q))
    · exact fun j q => (HP3.out j q).imp id (fun q => Nat.le_trans hb0.size q)
theorem row_put0 {w : World} {g cap : Nat} {H : List Ent} (h : RowE w g cap H) (h0 : 0 < H.length) (e : Ent) :
    RowE (((w.setCell ⟨g, 0, none⟩ (.int .i64 e.1)).setCell ⟨g, 1, none⟩ (.int .i64 e.2.1)).setCell ⟨g, 2, none⟩ (.int .i64 e.2.2)) g cap (H.set 0 e) ∧
      Turn (fun j => j = g) w (((w.setCell ⟨g, 0, none⟩ (.int .i64 e.1)).setCell ⟨g, 1, none⟩ (.int .i64 e.2.1)).setCell ⟨g, 2, none⟩ (.int .i64 e.2.2)) := row_put h h0 e
theorem less_m {w : World} {g cap m : Nat} {H : List Ent} (h : RowE w g cap H) (hm : H.length = m + 1) (a b c : Value) :
    RowE (((w.setCell ⟨g, m * 3, none⟩ a).setCell ⟨g, m * 3 + 1, none⟩ b).setCell ⟨g, m * 3 + 2, none⟩ c) g cap (H.take m) ∧
      Turn (fun j => j = g) w (((w.setCell ⟨g, m * 3, none⟩ a).setCell ⟨g, m * 3 + 1, none⟩ b).setCell ⟨g, m * 3 + 2, none⟩ c) := by
  have := row_less h (by omega) a b c
  rwa [show H.length - 1 = m by omega] at this
theorem clear_m (w : World) (g cap cap2 m : Nat) (H : List Ent) (h : RowE w g cap H) (hm : H.length = m + 1) (ty : TypeId) :
    (Builtin.clear_ #[48] ty #[.slice (some ⟨g, m * 3, none⟩) 1 cap2]).run Try.prog w = .ok (.tuple #[]) (((w.setCell ⟨g, m * 3, none⟩ (.int .i64 0)).setCell ⟨g, m * 3 + 1, none⟩ (.int .i64 0)).setCell ⟨g, m * 3 + 2, none⟩ (.int .i64 0)) := by
  have := clear_last w g cap cap2 H h (by omega) ty
  rwa [show H.length - 1 = m by omega] at this
set_option maxHeartbeats 4000000 in
set_option maxRecDepth 100000 in
theorem take_9 {w : World} {B b : Nat} {H : List Ent} {p : Int} {v : Value} (h : HepH w B H p b v) (hh : Heap H) (h0 : 0 < H.length) (hl : H.length ≤ 1000000) :
    Calls Try.prog 25 #[.pointer (some ⟨B, 0, none⟩)] w fun e w' => e = .returned (.agg #[.int .i64 (at3 H 0).1, .int .i64 (at3 H 0).2.1]) ∧
      ∃ H' v', H'.Perm (tkn H) ∧ Heap H' ∧ HepH w' B H' p b v' ∧ Turn (HepF B b v) w w' ∧ ∀ j, HepF B b v' j → HepF B b v j := by
  obtain ⟨g, cap, rfl⟩ := h.slice h0
  obtain ⟨m, hm⟩ : ∃ m, H.length = m + 1 := ⟨H.length - 1, by omega⟩
  have hcap : H.length ≤ cap := by
    rcases h.row.2 with ⟨q, _⟩ | ⟨g', cap', cur, q, _, _, q3, _⟩
    · cases q
    · cases q; exact q3
  have hfo := h.foot
  have hb1 := below1 w (.cells #[.int .i64 0, .int .i64 0] 25)
  have h1 := h.below hb1
  have c1 := h1.c1
  obtain ⟨x0, x1, _⟩ := row_at h1.row h0
  rw [Nat.zero_mul] at x0 x1
  have e1 : (H.length : Int) - 1 = (m : Int) := by omega
  have i0 : (0 : Int) < (H.length : Int) := by omega
  have i1 : (0 : Int) ≤ (m : Int) := by omega
  have i2 : (m : Int) < (H.length : Int) := by omega
  have i3 : (m : Int) ≤ (H.length : Int) := by omega
  have i4 : (H.length : Int) ≤ (cap : Int) := by omega
  have i5 : (m : Int) ≤ (cap : Int) := by omega
  have hb2 := below1 (w.alloc (.cells #[.int .i64 0, .int .i64 0] 25)) (.cells #[.int .i64 0, .int .i64 0] 25)
  have h2 := h1.below hb2
  have c1b := h2.c1
  obtain ⟨x0b, x1b, _⟩ := row_at h2.row h0
  rw [Nat.zero_mul] at x0b x1b
  have hb3 := below1 (w.alloc (.cells #[.int .i64 0, .int .i64 0] 25)) (.cells #[.int .i64 (at3 H 0).1, .int .i64 (at3 H 0).2.1] 25)
  have c1c := (h1.below hb3).c1
  have H1 := Lib.hid (h1.below hb3).drew
  have N0 := Lib.hid (((Ow2.new w (.int .i64 0) (.int .i64 0) 25).below hb3))
  have hsz : (w.alloc (.cells #[.int .i64 0, .int .i64 0] 25)).heap.size = w.heap.size + 1 := by simp
  have N1 := Lib.hid (At2.new (w.alloc (.cells #[.int .i64 0, .int .i64 0] 25)) (.int .i64 (at3 H 0).1) (.int .i64 (at3 H 0).2.1) 25)
  rw [hsz] at N1
  have HB := Lib.hid (hb1.trans (hb3.mono hb1.size))
  have hgB : B ≠ g := fun r => h.h2 (by rw [r]; rfl)
  have hgB' : g ≠ B := fun r => hgB r.symm
  have HH := Lib.hid hh; have HFO := Lib.hid hfo; have HM := Lib.hid hm
  generalize at3 H 0 = s at *
  clear h h1 h2 hb1 hb2 hb3 hh hfo hm hsz
  go_enter Try.func25, Try.ntmps25
  go_wp2_with fail
  go_region
  clear c1 x0 x1 c1b x0b x1b c1c
  generalize (w.alloc (.cells #[.int .i64 0, .int .i64 0] 25)).alloc (.cells #[.int .i64 s.1, .int .i64 s.2.1] 25) = V1 at *
  obtain ⟨W1, hW1⟩ : ∃ W1, W1 = V1.drew := ⟨_, rfl⟩
  have HB1 := Lib.hid (show Below w.heap.size w W1 by rw [hW1]; exact HB.out.drew)
  have M0 := Lib.hid (show Ow2 W1 w.heap.size (.int .i64 0) (.int .i64 0) by rw [hW1]; exact N0.out)
  have M1 := Lib.hid (show At2 W1 (w.heap.size + 1) (.int .i64 s.1) (.int .i64 s.2.1) by rw [hW1]; exact N1.out)
  rw [← hW1] at H1 ⊢
  clear HB N0 N1 hW1
  have hlm : m < H.length := by omega
  have hc1 := H1.out.c1
  obtain ⟨x0, x1, x2⟩ := row_at H1.out.row h0
  rw [Nat.zero_mul] at x0 x1 x2
  rw [Nat.zero_add] at x1 x2
  obtain ⟨y0, y1, y2⟩ := row_at H1.out.row hlm
  have z0 : ∀ i, W1.frozen? ⟨g, i, none⟩ = false := fun i => H1.out.row.frozenAt i
  obtain ⟨r2, t2⟩ := row_put0 H1.out.row h0 (at3 H m)
  have hl2 : (H.set 0 (at3 H m)).length = H.length := by simp
  have hk : (H.set 0 (at3 H m)).take m = tkn H := by unfold tkn; rw [show H.length - 1 = m by have := HM.out; omega]
  generalize at3 H m = q at *
  generalize at3 H 0 = q0 at *
  have HR2 := Lib.hid r2; have HT2 := Lib.hid t2
  clear r2 t2
  go_wp2_with fail
  go_region
  obtain ⟨hE, tE⟩ := swapped H1.out rfl hl2 (Below.refl _ _) ⟨HR2.out, HT2.out⟩ (Turn.refl _ W1)
  clear hc1 x0 x1 x2 y0 y1 y2 z0
  obtain ⟨W2, hW2⟩ : ∃ W2, W2 = ((((W1.setCell ⟨g, 0, none⟩ (.int .i64 q.1)).setCell ⟨g, 1, none⟩ (.int .i64 q.2.1)).setCell ⟨g, 2, none⟩ (.int .i64 q.2.2)).drew) := ⟨_, rfl⟩
  rw [← hW2] at hE tE ⊢
  generalize H.set 0 q = H2 at *
  have hm2 : H2.length = m + 1 := by rw [hl2]; exact HM.out
  have hrow : RowE W2 g cap H2 := by have := hE.row; unfold RowE; rw [hl2] at this ⊢; exact this
  have hcl := clear_m W2 g cap (cap - m) m H2 hrow hm2
  obtain ⟨r3, t3⟩ := less_m hrow hm2 (.int .i64 0) (.int .i64 0) (.int .i64 0)
  have hl3 : (tkn H).length = m := by rw [tkn_len]; have := HM.out; omega
  rw [hk] at r3
  have r3' : (((W2.setCell ⟨g, m * 3, none⟩ (.int .i64 0)).setCell ⟨g, m * 3 + 1, none⟩ (.int .i64 0)).setCell ⟨g, m * 3 + 2, none⟩ (.int .i64 0)).ownsRow 0 60 3 (.slice (some ⟨g, 0, none⟩) m cap) (tkn H).length ((tkn H).flatMap cells3) := by have := r3; unfold RowE at this; rw [hl3] at this ⊢; exact this
  have hre := hE.relay (H' := tkn H) (v' := .slice (some ⟨g, 0, none⟩) m cap) ⟨r3', fun k q => ⟨(World.ownsRow.lt r3' k q).2, fun r => r.elim (fun r => hE.h2 (r ▸ q)) (fun r => hE.h3 (r ▸ q))⟩⟩ (t3.mono (fun j q => by subst q; rfl)) (Or.inl rfl)
  obtain ⟨hR, tR, fR⟩ := hre
  have hR' := hR
  rw [← hl3] at hR'
  have hsk := sink_9 (by rw [hl3] at hR' ⊢; exact hR) (sink_start HH.out) (by rw [hl3]; have := HM.out; omega)
  rw [hl3] at hsk
  have c2 := hE.c1
  have z2 := hE.z1
  have c4 := hR.c1
  have e5 : H.length - m = 1 := by have := HM.out; omega
  have k1 : ∀ i, W2.frozen? ⟨g, i, none⟩ = false := fun i => hrow.frozenAt i
  have TR := Lib.hid ((tE.mono (fun j q => (Or.inr (Or.inr (show _ = some j by rw [q]; rfl)) : HepF B b (.slice (some ⟨g, 0, none⟩) H.length cap) j))).trans tR (fun j q => Or.inl q))
  clear hE tE hR hR' tR fR r3 r3' t3 hrow hW2 hl2
  go_wp2_with (simp only [hcl])
  refine hsk.mono ?_; rintro e w5 ⟨rfl, H', hpm, hhp, hT, ht⟩
  clear hsk hcl c2 z2 c4 k1
  have TT : Turn (HepF B b (.slice (some ⟨g, 0, none⟩) H.length cap)) W1 w5 := TR.out.trans (ht.mono (fun j q => (Or.inr (Or.inr (show _ = some j by rw [q]; rfl)) : HepF B b (.slice (some ⟨g, 0, none⟩) H.length cap) j))) (fun j q => Or.inl q)
  have n0 : ¬ HepF B b (.slice (some ⟨g, 0, none⟩) H.length cap) w.heap.size := fun r => Nat.lt_irrefl _ (HFO.out _ r)
  have n1 : ¬ HepF B b (.slice (some ⟨g, 0, none⟩) H.length cap) (w.heap.size + 1) := fun r => by have := HFO.out _ r; omega
  have n2 : ¬ HepF B b (.slice (some ⟨g, 0, none⟩) m cap) w.heap.size := fun r => n0 (r.imp id (fun r => r.imp id (fun r => r)))
  obtain ⟨a0, a1, a2⟩ := M1.out.turn TT n1
  have O0 := M0.out.turn TT n0
  have o0 := (O0.put (a := .int .i64 s.1) (b := .int .i64 s.2.1)).1.1
  have o1 := (O0.put (a := .int .i64 s.1) (b := .int .i64 s.2.1)).1.2.1
  obtain ⟨⟨d0, d1, _⟩, d3, d4⟩ := O0
  have hE := hT.keep (w' := (w5.setCell ⟨w.heap.size, 0, none⟩ (.int .i64 s.1)).setCell ⟨w.heap.size, 1, none⟩ (.int .i64 s.2.1)) (fun j q => (turn_one2 w5 w.heap.size (.int .i64 s.1) (.int .i64 s.2.1)).block j (hT.foot j q) (fun r => n2 (by rw [← (show j = w.heap.size from r)]; exact q)))
  have hF : Turn (HepF B b (.slice (some ⟨g, 0, none⟩) H.length cap)) w ((w5.setCell ⟨w.heap.size, 0, none⟩ (.int .i64 s.1)).setCell ⟨w.heap.size, 1, none⟩ (.int .i64 s.2.1)) := turn_set2 ((Turn.of_below HB1.out).trans TT (fun j q => Or.inl q)) (Or.inr (Nat.le_refl _)) _ _
  clear TT n0 n1 n2 hT ht
  go_wp2_with fail
  exact bodyPost_ret (v := .agg #[.int .i64 s.1, .int .i64 s.2.1]) (by simp [results, Try.results25, go_sem, o0, o1]) rfl ⟨rfl, H', _, hpm, hhp, hE, hF, fun j q => q.imp id (fun q => q.imp id (fun q => q))⟩
end Go.Proofs.Ytjkldjgeagociaa
