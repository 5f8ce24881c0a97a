/-
  The landed pop of a walk, and all: the nodes one by one, till none is ready. The conditions: the walk's blocks; none is in hand. The landed isStuck. The conditions: the walk's blocks. The landed holders: what each node that is left has to look at, and the closure. The conditions: a graph that was made; what is left; fewer than 20001 nodes. The landed walk as it begins: each node that is left waits, or is ready. The conditions: a graph that was made; at most 10^6 numbers. The landed package's Order of a graph that was made. The condition: at most 10^6 numbers.
-/
import Derived.Test.YtbaeanpdjdcheaaGreatOr2
namespace Go.Proofs.YtbaeanpdjdcheaaGreat
open Go.RowKit
set_option linter.unusedSimpArgs false
set_option linter.unusedVariables false

/- The landed pop of a walk, and all: the nodes one by one, till none is ready. The conditions: the walk's blocks; none is in hand. -/
section
variable {c : Cf} {R : List (List Int)} {A : List Int} {w0 w w' wr : World} {d : Dt} {pos : Nat → Int} {out : List Int}
theorem St.pop {F' : Nat → Prop} {x : Int} (h : St w0 w c R A pos out d) (hx : x ∈ d.P) (q : RepI w' c.PB (d.P.erase x) F') (t : Turn d.F w w') (hF : ∀ j, F' j → d.F j) :
    ∃ d', d'.P = d.P.erase x ∧ St w0 w' c R A (upd1 pos x.toNat (-3)) out d' ∧ Step c R A w w' d d' := by
  have hp := ((h.hi.pp x).1 hx).2
  obtain ⟨o1, o2⟩ := h.ob.pile q t (fun j r => Or.inl (hF j r))
  refine ⟨⟨d.P.erase x, d.W, d.D, d.WV, d.RV, F'⟩, rfl, ⟨h.hi.pop hx, ?_⟩, ⟨t.mono fun j q => ⟨6, kf6 q⟩, o2⟩⟩
  rw [lvP_upd (by omega) (by omega)]; exact o1
/-- What pop leaves where none was in hand. -/
def PopQ (w0 w w' : World) (c : Cf) (R : List (List Int)) (A : List Int) (out : List Int) (d : Dt) (x : Int) (ok : Bool) : Prop :=
  ∃ pos' d', St w0 w' c R A pos' out d' ∧ Step c R A w w' d d' ∧ ((ok = true ∧ ∃ n : Nat, x = (n : Int) ∧ n < R.length ∧ nxt R A out = some x ∧ ∀ u, u < R.length → (pos' u = -3 ↔ u = n)) ∨ (ok = false ∧ (∀ u, u < R.length → pos' u ≠ -3) ∧ nxt R A out = none ∧ d'.P = []))
theorem pop_h (hI : GrI R) (hA : Rises A) (h : St w0 w c R A pos out d) (hn : ∀ u, u < R.length → pos u ≠ -3) :
    Calls Tryz.prog 59 #[.pointer (some ⟨c.PB, 0, none⟩)] w fun e w' => ∃ (x : Int) (ok : Bool), e = .returned (.tuple #[.int .i64 x, .bool ok]) ∧ PopQ w0 w w' c R A out d x ok := by
  have hr := h.hi.ready hI hn
  by_cases h0 : d.P = []
  · have hp := h.ob.pl
    rw [h0] at hp
    refine (pop_no hp).mono ?_
    rintro e w' ⟨rfl, rfl⟩
    refine ⟨0, false, rfl, pos, d, h, Step.refl _ _, Or.inr ⟨rfl, hn, nxt_no fun y hy => ?_, h0⟩⟩
    cases hc : cand R A out y with
    | false => rfl
    | true => have := (hr y).2 ⟨hy, hc⟩; rw [h0] at this; cases this
  · refine (pop_i h.ob.pl h0 (Nat.le_trans h.hi.plen hI.hi)).mono ?_
    rintro e w' ⟨x, rfl, hx, hmin, F', q, t, hF⟩
    obtain ⟨d', _, h1, h2⟩ := h.pop hx q t hF
    obtain ⟨hg, hp⟩ := (h.hi.pp x).1 hx
    obtain ⟨n, rfl⟩ : ∃ n : Nat, x = (n : Int) := ⟨x.toNat, by unfold gnd at hg; omega⟩
    obtain ⟨r1, r2⟩ := (hr _).1 hx
    refine ⟨(n : Int), true, rfl, _, d', h1, h2, Or.inl ⟨rfl, n, rfl, by unfold gnd at hg; omega, nxt_is hA r1 r2 (fun y hy hc => hmin y ((hr y).2 ⟨hy, hc⟩)), fun u hu => ?_⟩⟩
    rw [Int.toNat_natCast]
    unfold upd1
    by_cases e : u = n
    · subst e; simp
    · rw [if_neg e]
      exact ⟨fun q => absurd q (hn u hu), fun q => absurd q e⟩
/-- The walk, and a row of the call's own beside it. -/
structure AllI (w0 w wr : World) (c : Cf) (R : List (List Int)) (A : List Int) (d : Dt) (l : List Int) (lv : Value) (x : Int) (ok : Bool) : Prop where
  out : ∃ pos' d', St w0 wr c R A pos' l d' ∧ Step c R A w wr d d' ∧ OwnO (SA c R A d') wr w.heap.size 3 1 lv l.length (l.map (Value.int .i64)) ∧ OrdP R A l ∧
    ((ok = true ∧ ∃ n : Nat, x = (n : Int) ∧ n < R.length ∧ nxt R A l = some x ∧ ∀ u, u < R.length → (pos' u = -3 ↔ u = n)) ∨ (ok = false ∧ (∀ u, u < R.length → pos' u ≠ -3) ∧ nxt R A l = none ∧ d'.P = []))
theorem AllI.begin {x : Int} {ok : Bool} (h : PopQ w0 w w' c R A [] d x ok) : AllI w0 w w' c R A d [] (.slice none 0 0) x ok := by
  obtain ⟨p, d', h1, h2, h3⟩ := h
  exact ⟨p, d', h1, h2, OwnO.nil _ _ _ _ _, OrdP.nil, h3⟩
/-- What all leaves. -/
def AllQ (w0 w w' : World) (c : Cf) (R : List (List Int)) (A : List Int) (d : Dt) (l : List Int) (u : Value) : Prop :=
  ∃ pos' d', St w0 w' c R A pos' l d' ∧ Step c R A w w' d d' ∧ OwnO (SA c R A d') w' w.heap.size 3 1 u l.length (l.map (Value.int .i64)) ∧ IsOrd R A l ∧ (∀ u, u < R.length → pos' u ≠ -3) ∧ d'.P = []
theorem AllI.leave {l : List Int} {lv : Value} {x : Int} (h : AllI w0 w wr c R A d l lv x false) : AllQ w0 w wr c R A d l lv := by
  obtain ⟨p, d', h1, h2, h3, h4, h5⟩ := h.out
  rcases h5 with ⟨q, _⟩ | ⟨_, q1, q2, q3⟩
  · cases q
  · exact ⟨p, d', h1, h2, h3, ⟨h4, q2⟩, q1, q3⟩
theorem ord_len (hI : GrI R) {l : List Int} (h : St w0 w c R A pos out d) (ho : OrdP R A l) : l.length ≤ R.length := nodup_len ho.nodup fun x hx => h.hi.an x (ho.sub x hx)
set_option maxHeartbeats 4000000 in
set_option maxRecDepth 100000 in
theorem all_h (hI : GrI R) (hA : Rises A) (h : St w0 w c R A pos [] d) (hn : ∀ u, u < R.length → pos u ≠ -3) :
    Calls Tryz.prog 38 #[.pointer (some ⟨c.B, 0, none⟩)] w fun e w' => ∃ u l, e = .returned u ∧ AllQ w0 w w' c R A d l u := by
  have hpo := pop_h hI hA h hn
  have c0 := h.ob.h4
  have hIh := hI.hi
  have hsz := h.ob.wb.size
  clear h hn
  go_enter Tryz.func38, Tryz.ntmps38
  go_wp2_with fail
  refine hpo.mono ?_; clear hpo; rintro e w1 ⟨x, ok, rfl, hq⟩
  have H0 := Lib.hid (AllI.begin hq)
  clear hq
  go_wp2_with fail
  clear c0
  go_loopg [3, 4, 5] R.length (fun k lv xv ov wr => ∃ (l : List Int) (x : Int) (ok : Bool), xv = .int .i64 x ∧ ov = .bool ok ∧ R.length - l.length ≤ k ∧ AllI w0 w wr c R A d l lv x ok)
  case atStart => exact ⟨[], x, ok, rfl, rfl, Nat.sub_le _ _, H0.out⟩
  case round =>
    clear H0
    obtain ⟨l, y, ok, rfl, rfl, hk, hAI⟩ := hrel
    cases ok with
    | false =>
      have HL := Lib.hid hAI.leave
      clear hAI
      go_wp2_with fail
      go_ret
      exact ⟨_, l, rfl, HL.out⟩
    | true =>
      obtain ⟨pos1, d1, hS, hT, ho, hO, h5⟩ := hAI.out
      rcases h5 with ⟨_, n, rfl, hnl, hnx, hlim⟩ | ⟨q, _⟩
      case inr => cases q
      obtain ⟨la, lc, rfl⟩ := (ownsRow_slc ho.1).form
      have hll := ord_len hI hS (hO.push hnx)
      rw [List.length_append, List.length_singleton] at hll
      have hbase : w.heap.size ≤ wr.heap.size := hT.t.size
      have hfoot : ∀ j, SA c R A d1 j → j < wr.heap.size := fun j q => (hS.foot j q).2
      have hnxt : ∀ (v4 : Value) (w4 : World), OwnO (SA c R A d1) w4 w.heap.size 3 1 v4 (l.length + 1) (l.map (Value.int .i64) ++ [.int .i64 (n : Int)]) → Turn (fun j => (Value.slice la l.length lc).ownBlock = some j) wr w4 →
          St w0 w4 c R A pos1 l d1 ∧ Step c R A w w4 d d1 := fun v4 w4 o4 t4 =>
        ⟨hS.other t4 (fun j q => (ho.2 j q).2) (fun j q => Nat.le_trans hsz (World.ownsRow.lt ho.1 j q).1), hT.new t4 (fun j q => (World.ownsRow.lt ho.1 j q).1)⟩
      have HO := Lib.hid ho
      have HN := Lib.hid hnxt
      have HOP := Lib.hid (And.intro hO hnx)
      have HLI := Lib.hid hlim
      clear hAI hS hT ho hO hnx hnxt hlim
      go_wp2_with
        (at_builtin
         refine wpList_push1 (w := wr) rfl (.tmp 23) (.tmp 25) 23 rfl (SA c R A d1) w.heap.size 3 1 8 (.int .i64 0) Tryz.underlying23 int_info rfl (by decide) [.int .i64 (n : Int)] rfl _ _ _ rfl HO.out (by simp [Act.eval]) (by intro u hu; simp at hu; subst hu; rfl) (by omega) (by decide) hbase hfoot ?_
         intro v4 w4 o4 t4 l4
         obtain ⟨hS4, hT4⟩ := HN.out v4 w4 o4 t4
         have hte := tell_h hI hS4 hnl ((HLI.out n hnl).2 rfl)
         have HT4 := Lib.hid hT4
         have HO4 := Lib.hid o4
         clear o4 t4 l4 hS4 hT4)
      refine hte.mono ?_; clear hte; rintro e w5 ⟨rfl, pos2, d2, hS5, hT5, hl5⟩
      have hn5 : ∀ u, u < R.length → pos2 u ≠ -3 := fun u hu q => by
        have := (hl5 u hu).1 q
        exact this.2 ((HLI.out u hu).1 this.1)
      have hpo := pop_h hI hA hS5 hn5
      have c0 := hS5.ob.h4
      have HT5 := Lib.hid hT5
      have HO5 := Lib.hid (hT5.own HO4.out)
      clear hS5 hT5 hl5 hn5
      go_wp2_with fail
      refine hpo.mono ?_; clear hpo; rintro e w6 ⟨y, ok, rfl, pos3, d3, hS6, hT6, hq⟩
      have HR : Hid (AllI w0 w w6 c R A d (l ++ [(n : Int)]) v4 y ok) := ⟨pos3, d3, hS6, (HT4.out.trans HT5.out).trans hT6, by
        have := hT6.own HO5.out
        rw [List.length_append, List.map_append]; exact this, HOP.out.1.push HOP.out.2, hq⟩
      clear hS6 hT6 hq c0
      go_wp2_with fail
      go_roundg (gk - 1)
      case measure => omega
      case rel => exact ⟨l ++ [(n : Int)], y, ok, rfl, rfl, by rw [List.length_append, List.length_singleton]; omega, HR.out⟩
end
/- The landed isStuck. The conditions: the walk's blocks. -/
theorem idx_b (g N : Nat) (lv : Nat → Bool) (w : World) (hN : N ≤ 1000000) (hc : ∀ i, i < N → w.cell? ⟨g, i, none⟩ = some (.bool (lv i))) :
    Calls Tryz.prog 77 #[.slice (some ⟨g, 0, none⟩) N N, .bool true] w fun e w' => ∃ i : Int, e = .returned (.int .i64 i) ∧ w' = w ∧ ((∃ k : Nat, k < N ∧ i = (k : Int) ∧ lv k = true) ∨ (i = -1 ∧ ∀ k, k < N → lv k = false)) := by
  have HC := Lib.hid hc
  clear hc
  go_enter Tryz.func77, Tryz.ntmps77
  go_wp2_with fail
  go_loopw [8] (fun i wr => ∃ k : Nat, k ≤ N ∧ i = .int .i64 (k : Int) ∧ (∀ j, j < k → lv j = false) ∧ wr = w) (fun i _ => N - (RowKit.intOf i).toNat)
  case atStart => exact ⟨0, Nat.zero_le _, rfl, fun j hj => absurd hj (Nat.not_lt_zero j), rfl⟩
  case round =>
    obtain ⟨k, hk, rfl, hf, rfl⟩ := hrel
    have HF := Lib.hid hf
    clear hf
    by_cases hlt : k < N
    · have c0 := HC.out k hlt
      have i0 : (0 : Int) ≤ (k : Int) := by omega
      have i1 : (k : Int) < (N : Int) := by omega
      cases hb : lv k with
      | true =>
        rw [hb] at c0
        have HB := Lib.hid hb
        clear hb
        go_wp2_with fail
        go_ret
        exact ⟨(k : Int), rfl, rfl, Or.inl ⟨k, hlt, rfl, HB.out⟩⟩
      | false =>
        rw [hb] at c0
        have HB := Lib.hid hb
        clear hb
        go_wp2_with fail
        go_roundw
        · exact ⟨k + 1, by omega, by go_num, fun j hj => by
            rcases Nat.lt_or_ge j k with q | q
            · exact HF.out j q
            · rw [show j = k by omega]; exact HB.out, by first | rfl | trivial⟩
        · simp [RowKit.intOf]; omega
    · obtain rfl : k = N := by omega
      have hd0 : decide ((k : Int) < (k : Int)) = false := decide_eq_false (by omega)
      go_wp2_with fail
      go_ret
      exact ⟨-1, rfl, rfl, Or.inr ⟨rfl, HF.out⟩⟩
section
variable {c : Cf} {R : List (List Int)} {A : List Int} {w0 w w' wr : World} {d d1 d2 : Dt} {pos : Nat → Int} {out : List Int}
theorem stuck_h (hI : GrI R) (h : St w0 w c R A pos out d) :
    Calls Tryz.prog 39 #[.pointer (some ⟨c.B, 0, none⟩)] w fun e w' => ∃ s : Bool, e = .returned (.bool s) ∧ w' = w ∧ (s = true ↔ ∃ k, k < R.length ∧ pos k ≠ -1) := by
  have c0 := h.ob.h0
  have hIh := hI.hi
  have hix := idx_b c.gl R.length (lvP pos) w (by omega) (fun i hi => (h.ob.lr i hi).1)
  have hlv : ∀ k, lvP pos k = true ↔ pos k ≠ -1 := fun k => by unfold lvP; exact decide_eq_true_iff
  have hlf : ∀ k, lvP pos k = false ↔ pos k = -1 := fun k => by unfold lvP; rw [decide_eq_false_iff_not]; omega
  have HL := Lib.hid (And.intro hlv hlf)
  clear h hlv hlf
  have hcn : Calls Tryz.prog 62 #[.slice (some ⟨c.gl, 0, none⟩) R.length R.length, .bool true] w fun e w' => ∃ s : Bool, e = .returned (.bool s) ∧ w' = w ∧ (s = true ↔ ∃ k, k < R.length ∧ pos k ≠ -1) := by
    go_enter Tryz.func62, Tryz.ntmps62
    go_wp2_with fail
    refine hix.mono ?_; rintro e w1 ⟨i, rfl, rfl, hh⟩
    have HH := Lib.hid hh
    clear hh
    go_wp2_with fail
    go_ret
    refine ⟨_, rfl, rfl, ?_⟩
    rw [decide_eq_true_iff]
    rcases HH.out with ⟨k, h1, rfl, h2⟩ | ⟨rfl, h2⟩
    · exact ⟨fun _ => ⟨k, h1, (HL.out.1 k).1 h2⟩, fun _ => by omega⟩
    · exact ⟨fun q => absurd q (by omega), fun ⟨k, h1, h3⟩ => absurd ((HL.out.2 k).1 (h2 k h1)) h3⟩
  clear hix
  go_enter Tryz.func39, Tryz.ntmps39
  go_wp2_with fail
  refine hcn.mono ?_; rintro e w1 ⟨s, rfl, rfl, hh⟩
  have HH := Lib.hid hh
  clear hh
  go_wp2_with fail
  go_ret
  exact ⟨s, rfl, rfl, HH.out⟩
/-- Where one goes that is held back. -/
def hfn (R : List (List Int)) (pos : Nat → Int) (v : Nat) : Nat := ((hf R pos v).getD 0).toNat
def Lft (R : List (List Int)) (pos : Nat → Int) (v : Nat) : Prop := v < R.length ∧ pos v ≠ -1
end
/- The landed holders: what each node that is left has to look at, and the closure. The conditions: a graph that was made; what is left; fewer than 20001 nodes. -/
/-- What the first k nodes have to look at. -/
def rvk (R : List (List Int)) (A : List Int) (k i : Nat) : List Int := if i < k ∧ ((i : Nat) : Int) ∈ A then gR R i else []
/-- The blocks that holders makes. -/
structure HlI (w wr : World) (gl N : Nat) (rv : Nat → List Int) (RV : Nat → Value) : Prop where
  c1 : wr.cell? ⟨w.heap.size, 0, none⟩ = some (.slice (some ⟨gl, 0, none⟩) N N)
  c2 : wr.cell? ⟨w.heap.size + 1 + 1, 0, none⟩ = some (.slice (some ⟨w.heap.size + 1, 0, none⟩) N N)
  rr : ∀ i, i < N → wr.cell? ⟨w.heap.size + 1, i, none⟩ = some (RV i) ∧ wr.frozen? ⟨w.heap.size + 1, i, none⟩ = false
  ro : ∀ i, i < N → Sl wr (RV i) (rv i)
  rb : ∀ i, i < N → ∀ b, (RV i).ownBlock = some b → w.heap.size + 3 ≤ b ∧ b < wr.heap.size
  hs : w.heap.size + 3 ≤ wr.heap.size
  b : Below w.heap.size w wr
section
variable {w wr w' : World} {gl N : Nat} {rv : Nat → List Int} {RV : Nat → Value} {R : List (List Int)} {A : List Int}
theorem HlI.below (h : HlI w wr gl N rv RV) (hb : Below wr.heap.size wr w') : HlI w w' gl N rv RV := by
  have hs := h.hs
  exact ⟨(hb.cell (p := ⟨w.heap.size, 0, none⟩) (by show w.heap.size < _; omega)).trans h.c1, (hb.cell (p := ⟨w.heap.size + 1 + 1, 0, none⟩) (by show w.heap.size + 1 + 1 < _; omega)).trans h.c2,
    fun i hi => ⟨(hb.cell (p := ⟨w.heap.size + 1, i, none⟩) (by show w.heap.size + 1 < _; omega)).trans (h.rr i hi).1, (hb.frozen (p := ⟨w.heap.size + 1, i, none⟩) (by show w.heap.size + 1 < _; omega)).trans (h.rr i hi).2⟩,
    fun i hi => (h.ro i hi).below hb, fun i hi b q => ⟨(h.rb i hi b q).1, Nat.lt_of_lt_of_le (h.rb i hi b q).2 hb.size⟩, Nat.le_trans hs hb.size, h.b.trans (hb.mono h.b.size)⟩
theorem HlI.congr {rv' : Nat → List Int} (h : HlI w wr gl N rv RV) (e : ∀ i, i < N → rv' i = rv i) : HlI w wr gl N rv' RV := ⟨h.c1, h.c2, h.rr, fun i hi => by rw [e i hi]; exact h.ro i hi, h.rb, h.hs, h.b⟩
theorem rvk_step {k i : Nat} : rvk R A (k + 1) i = if i = k then (if ((k : Nat) : Int) ∈ A then gR R k else []) else rvk R A k i := by
  unfold rvk
  by_cases e : i = k
  · subst e
    rw [if_pos rfl]
    by_cases q : ((i : Nat) : Int) ∈ A
    · rw [if_pos ⟨by omega, q⟩, if_pos q]
    · rw [if_neg (fun r => q r.2), if_neg q]
  · rw [if_neg e]
    by_cases q : i < k ∧ ((i : Nat) : Int) ∈ A
    · rw [if_pos q, if_pos ⟨by omega, q.2⟩]
    · rw [if_neg q, if_neg (fun r => q ⟨by omega, r.2⟩)]
theorem HlI.skip {k : Nat} (h : HlI w wr gl N (rvk R A k) RV) (hA : ((k : Nat) : Int) ∉ A) : HlI w wr gl N (rvk R A (k + 1)) RV := h.congr fun i hi => by
  rw [rvk_step]
  by_cases e : i = k
  · subst e
    rw [if_pos rfl, if_neg hA]
    unfold rvk; rw [if_neg (fun q => hA q.2)]
  · rw [if_neg e]
/-- A node's reads are laid. -/
theorem HlI.store {w4 : World} {k : Nat} {u : Value} (h : HlI w wr gl N (rvk R A k) RV) (hk : k < N) (hA : ((k : Nat) : Int) ∈ A) (hv : k < R.length) (hb : Below wr.heap.size wr w4) (hin : ∀ z ∈ gR R k, InR z) (ho : Own w4 wr.drew.heap.size u (gR R k)) :
    w4.cell? ⟨w.heap.size + 1 + 1, 0, none⟩ = some (.slice (some ⟨w.heap.size + 1, 0, none⟩) N N) ∧ (w4.cell? ⟨w.heap.size + 1, k, none⟩ = some (RV k) ∧ w4.frozen? ⟨w.heap.size + 1, k, none⟩ = false) ∧
    HlI w (w4.setCell ⟨w.heap.size + 1, k, none⟩ u) gl N (rvk R A (k + 1)) (updV RV k u) ∧ Below w.heap.size w w4 := by
  have h4 := h.below hb
  have hs := h.hs
  have hs4 := h4.hs
  have hlt := World.ownsRow.lt ho
  have hne : ∀ i b, b ≠ w.heap.size + 1 → (⟨w.heap.size + 1, k, none⟩ : Addr) ≠ ⟨b, i, none⟩ := fun i b hb q => hb (congrArg Addr.block q).symm
  have t := set_kind w4 (w.heap.size + 1) k u
  refine ⟨h4.c2, h4.rr k hk, ⟨(World.cell?_setCell_other _ _ _ _ (hne 0 _ (by omega))).trans h4.c1, (World.cell?_setCell_other _ _ _ _ (hne 0 _ (by omega))).trans h4.c2, fun i hi => ⟨?_, (World.frozen?_setCell _ _ _ _).trans (h4.rr i hi).2⟩, fun i hi => ?_, fun i hi b q => ?_, Nat.le_trans hs4 t.size, h4.b.trans (t.below (fun j q => by omega) h4.b.size)⟩, h4.b⟩
  · unfold updV
    by_cases e : i = k
    · subst e
      rw [if_pos rfl]
      obtain ⟨a, c, rfl⟩ := (ownsRow_slc ho).form
      exact World.cell?_setCell_same _ _ _ (h4.rr i hi).1
    · rw [if_neg e]
      exact (World.cell?_setCell_other _ _ _ _ (fun q => e (by cases q; rfl))).trans (h4.rr i hi).1
  · rw [rvk_step]
    unfold updV
    by_cases e : i = k
    · subst e
      rw [if_pos rfl, if_pos rfl, if_pos hA]
      refine sl_same (Own.sl ho hin) fun _ b hb => t.block b (hlt b hb).2 fun q => ?_
      have h9 : wr.heap.size ≤ b := (hlt b hb).1
      omega
    · rw [if_neg e, if_neg e]
      exact sl_same (h4.ro i hi) fun _ b hb => t.block b (h4.rb i hi b hb).2 fun q => by have := (h4.rb i hi b hb).1; omega
  · unfold updV at q
    by_cases e : i = k
    · rw [if_pos e] at q
      have h9 : wr.heap.size ≤ b := (hlt b q).1
      have := (hlt b q).2
      have := t.size
      omega
    · rw [if_neg e] at q
      have := h4.rb i hi b q
      have := t.size
      omega
end
theorem bools_info : (Tryz.prog.info? 4).map (fun i => (i.zero, i.size, i.bytes)) = some (some (.bool false), 1, 1) := by kernel_rfl
theorem mk_rows (n : Nat) (h2 : n ≤ 20000) : ∀ w, (Instr.makeSlice 30 (.int .i64 n) (.int .i64 n)).run Tryz.prog w = .ok (.slice (some ⟨w.heap.size, 0, none⟩) n n) (w.alloc (.cells (madeCells #[.slice none 0 0] n) 23)) := fun w => by
  obtain ⟨ii, hi, hz0, hz1, hz2⟩ := info_parts rows_info
  have := run_makeSlice (P := Tryz.prog) (w := w) 30 23 ii (.slice none 0 0) Tryz.underlying30 hi hz0 .i64 .i64 n n (by omega) (by omega) (by rw [hz1]; omega) (by rw [hz2]; omega) (by omega)
  rw [hz1] at this; simpa [Value.cells] using this
theorem mk_bools (n : Nat) (h2 : n ≤ 20000) : ∀ w, (Instr.makeSlice 24 (.int .i64 n) (.int .i64 n)).run Tryz.prog w = .ok (.slice (some ⟨w.heap.size, 0, none⟩) n n) (w.alloc (.cells (madeCells #[.bool false] n) 4)) := fun w => by
  obtain ⟨ii, hi, hz0, hz1, hz2⟩ := info_parts bools_info
  have := run_makeSlice (P := Tryz.prog) (w := w) 24 4 ii (.bool false) Tryz.underlying24 hi hz0 .i64 .i64 n n (by omega) (by omega) (by rw [hz1]; omega) (by rw [hz2]; omega) (by omega)
  rw [hz1] at this; simpa [Value.cells] using this
theorem made_cells (v : Value) (n j : Nat) (hj : j < n) : (madeCells #[v] n)[j]? = some v := by
  rw [← Array.getElem?_toList, toList_madeCells_one, List.getElem?_replicate, if_pos hj]
theorem cell_ofO {w : World} {b : Nat} {cs : Array Value} {t : TypeId} (i : Nat) (h : w.heap[b]? = some (.cells cs t)) : w.cell? ⟨b, i, none⟩ = cs[i]? := by simp [World.cell?, h]
theorem free_of {w : World} {b : Nat} {cs : Array Value} {t : TypeId} (i : Nat) (h : w.heap[b]? = some (.cells cs t)) : w.frozen? ⟨b, i, none⟩ = false := by simp [World.frozen?, h]
theorem three_of (w : World) (a b c : Obj) : (((w.alloc a).alloc b).alloc c).heap[w.heap.size]? = some a ∧ (((w.alloc a).alloc b).alloc c).heap[w.heap.size + 1]? = some b ∧ (((w.alloc a).alloc b).alloc c).heap[w.heap.size + 1 + 1]? = some c ∧ Below w.heap.size w (((w.alloc a).alloc b).alloc c) := by
  have s1 : (w.alloc a).heap.size = w.heap.size + 1 := by simp
  have s2 : ((w.alloc a).alloc b).heap.size = w.heap.size + 1 + 1 := by simp
  refine ⟨(heap_alloc_old _ _ (by omega)).trans ((heap_alloc_old _ _ (by omega)).trans (heap_alloc_new _ _)), (heap_alloc_old _ _ (by omega)).trans ?_, ?_, ((below1 w _).alloc (by simp) _).alloc (by simp; omega) _⟩
  · rw [← s1]; exact heap_alloc_new _ _
  · rw [← s2]; exact heap_alloc_new _ _
theorem HlI.begin (w : World) (gl N : Nat) (R : List (List Int)) (A : List Int) (t1 t2 t3 : TypeId) : HlI w (((w.alloc (.cells #[.slice (some ⟨gl, 0, none⟩) N N] t1)).alloc (.cells (madeCells #[.slice none 0 0] N) t2)).alloc (.cells #[.slice (some ⟨w.heap.size + 1, 0, none⟩) N N] t3)) gl N (rvk R A 0) (fun _ => .slice none 0 0) := by
  obtain ⟨h1, h2, h3, h4⟩ := three_of w (.cells #[.slice (some ⟨gl, 0, none⟩) N N] t1) (.cells (madeCells #[.slice none 0 0] N) t2) (.cells #[.slice (some ⟨w.heap.size + 1, 0, none⟩) N N] t3)
  refine ⟨(cell_ofO 0 h1).trans rfl, (cell_ofO 0 h3).trans rfl, fun i hi => ⟨(cell_ofO i h2).trans (made_cells _ _ _ hi), free_of i h2⟩, fun i hi => ?_, fun i hi b q => (by cases q), by simp, h4⟩
  unfold rvk
  rw [if_neg (by omega)]
  exact ⟨none, 0, rfl, Nat.le_refl _, fun _ => rfl, fun z hz => (by cases hz), fun i hi => (by cases hi)⟩
set_option maxHeartbeats 4000000 in
set_option maxRecDepth 100000 in
theorem holders_h {w00 w : World} {Bg : Nat} {R : List (List Int)} {Fg : Nat → Prop} {A : List Int} (h : OneG w00 w Bg R Fg) (gl : Nat) (lv : Nat → Bool) (hc : ∀ i, i < R.length → w.cell? ⟨gl, i, none⟩ = some (.bool (lv i))) (hlv : ∀ i, i < R.length → (lv i = true ↔ ((i : Nat) : Int) ∈ A)) :
    Calls Tryz.prog 57 #[.pointer (some ⟨Bg, 0, none⟩), .slice (some ⟨gl, 0, none⟩) R.length R.length] w fun e w' =>
      e = .returned (.func (.func 72) #[] #[.pointer (some ⟨w.heap.size + 1 + 1, 0, none⟩), .pointer (some ⟨w.heap.size, 0, none⟩)]) ∧ ∃ RV, HlI w w' gl R.length (rvk R A R.length) RV := by
  have hmf : ∀ (fn : Fn) (first cap : Array Value) (w : World), (Instr.makeFunc fn first cap).run Tryz.prog w = .ok (.func fn first cap) w := fun _ _ _ _ => rfl
  have hI := h.r.1
  have hIh := hI.hi
  have hmk := mk_rows R.length hIh
  have HG := Lib.hid h
  have HC := Lib.hid hc
  have HV := Lib.hid hlv
  have HIN : Hid (∀ k, ∀ z ∈ gR R k, InR z) := fun k z hz => by have := hI.nodes k z hz; unfold gnd at this; unfold InR; omega
  clear h hc hlv hI
  go_enter Tryz.func57, Tryz.ntmps57
  go_wp2_with fail
  have HB := Lib.hid (HlI.begin w gl R.length R A 24 23 30)
  generalize (((w.alloc (.cells #[.slice (some ⟨gl, 0, none⟩) R.length R.length] 24)).alloc (.cells (madeCells #[.slice none 0 0] R.length) 23)).alloc (.cells #[.slice (some ⟨w.heap.size + 1, 0, none⟩) R.length R.length] 30)) = W at *
  try clear hmk
  go_loopw [12] (fun i wr => ∃ (k : Nat) (RV : Nat → Value), k ≤ R.length ∧ i = .int .i64 (k : Int) ∧ HlI w wr gl R.length (rvk R A k) RV) (fun i _ => R.length - (RowKit.intOf i).toNat)
  case atStart => exact ⟨0, _, Nat.zero_le _, rfl, HB.out⟩
  case round =>
    clear HB
    obtain ⟨k, RV, hk, rfl, hH⟩ := hrel
    by_cases hlt : k < R.length
    · have c1 := hH.c1
      have c2 := hH.c2
      have c0 := (hH.b.cell (p := ⟨gl, k, none⟩) (World.block_lt_of_cell? _ _ (HC.out k hlt))).trans (HC.out k hlt)
      have i0 : (0 : Int) ≤ (k : Int) := by omega
      have i1 : (k : Int) < (R.length : Int) := by omega
      have d0 : decide ((k : Int) < (R.length : Int)) = true := decide_eq_true i1
      have hvl := hlt
      have hv := hlt
      cases hb : lv k with
      | false =>
        rw [hb] at c0
        have HS := Lib.hid (hH.skip (fun q => by have := (HV.out k hlt).2 q; rw [hb] at this; cases this))
        clear hH hb
        go_wp2_with fail
        go_roundw
        · exact ⟨k + 1, RV, by omega, by go_num, HS.out⟩
        · simp [RowKit.intOf]; omega
      | true =>
        rw [hb] at c0
        have hA := (HV.out k hlt).1 hb
        have hrd := reads_o ((HG.out.below hH.b).below ((Below.refl wr.heap.size wr).drew)) (k : Int)
        have HH := Lib.hid hH
        clear hH hb
        go_wp2_with fail
        refine wp_region_held_drew (S := fun wz => wz.cell? ⟨w.heap.size + 1 + 1, 0, none⟩ = some (.slice (some ⟨w.heap.size + 1, 0, none⟩) R.length R.length)) (by kernel_rfl) (c2) (fun hHeld => ?_)
        refine wpAnyH_take (i := 0) (v := ?_) rfl (by kernel_rfl) (by kernel_rfl) (by kernel_rfl) (fun _ _ _ h => h) (Or.inl ⟨by rfl, ?y0⟩) (by assumption) ?_
        case y0 => intro w hSw; (try dsimp only at hSw); go_simp; (try with_reducible rfl)
        (try simp only [Act.put, List.setIfInBounds_toArray, List.set_cons_zero, List.set_cons_succ, List.getElem_toArray, List.getElem_cons_zero, List.getElem_cons_succ])
        refine wpAnyH_take (i := 1) (v := ?_) rfl (by kernel_rfl) (by kernel_rfl) (by kernel_rfl) (fun _ _ _ h => h) (Or.inl ⟨by rfl, ?y1⟩) (by assumption) ?_
        case y1 => intro w hSw; (try dsimp only at hSw); go_simp; (try with_reducible rfl)
        (try simp only [Act.put, List.setIfInBounds_toArray, List.set_cons_zero, List.set_cons_succ, List.getElem_toArray, List.getElem_cons_zero, List.getElem_cons_succ])
        refine wpAnyH_take (i := 2) (v := ?_) rfl (by kernel_rfl) (by kernel_rfl) (by kernel_rfl) (fun _ _ _ h => h) (Or.inl ⟨by rfl, ?y2⟩) (by assumption) ?_
        case y2 => intro w hSw; (try dsimp only at hSw); go_simp; (try with_reducible rfl)
        (try simp only [Act.put, List.setIfInBounds_toArray, List.set_cons_zero, List.set_cons_succ, List.getElem_toArray, List.getElem_cons_zero, List.getElem_cons_succ])
        refine wpAnyH_take (i := 3) (v := ?_) rfl (by kernel_rfl) (by kernel_rfl) (by kernel_rfl) (fun _ _ _ h => h) (Or.inl ⟨by rfl, ?y3⟩) (by assumption) ?_
        case y3 => intro w hSw; (try dsimp only at hSw); go_simp; (try with_reducible rfl)
        (try simp only [Act.put, List.setIfInBounds_toArray, List.set_cons_zero, List.set_cons_succ, List.getElem_toArray, List.getElem_cons_zero, List.getElem_cons_succ])
        refine wpAnyH_ready (rs := [4]) (by kernel_rfl) (by simp) ?_
        refine AllReadyH.cons rfl (fun K hK => ?_) AllReadyH.nil
        go_simp
        refine hrd.mono ?_; clear hrd; rintro e w4 ⟨u, rfl, ho, _, hb4⟩
        have hb5 : Below wr.heap.size wr w4 := ((Below.refl _ wr).drew).trans hb4
        rw [greads_nat hv] at ho
        have hp := HH.out.store (A := A) hvl hA hv hb5 (fun z hz => HIN.out _ z hz) ho
        obtain ⟨hp1, hp2, hp3, hp4⟩ := hp
        obtain ⟨ua, uc, rfl⟩ := (ownsRow_slc ho).form
        have HP4 := Lib.hid (And.intro hp3 hp4)
        clear hp3 hp4 ho hb4 hb5
        refine hK.out _ _ (hp1) (fun hHeld => ?_)
        clear hK K
        (try simp only [Act.put, List.setIfInBounds_toArray, List.set_cons_zero, List.set_cons_succ, List.getElem_toArray, List.getElem_cons_zero, List.getElem_cons_succ])
        refine wpAnyH_take (i := 5) (v := ?_) rfl (by kernel_rfl) (by kernel_rfl) (by kernel_rfl) (fun _ _ _ h => h) (Or.inl ⟨by rfl, ?y5⟩) (by assumption) ?_
        case y5 => intro w hSw; (try dsimp only at hSw); go_simp; (try with_reducible rfl)
        (try simp only [Act.put, List.setIfInBounds_toArray, List.set_cons_zero, List.set_cons_succ, List.getElem_toArray, List.getElem_cons_zero, List.getElem_cons_succ])
        refine wpAnyH_ready (rs := [6]) (by kernel_rfl) (by simp) ?_
        refine AllReadyH.cons rfl (fun K hK => ?_) AllReadyH.nil
        go_simp
        refine hK.out _ _ (HP4.out.1.c2) (fun hHeld => ?_)
        clear hK K
        (try simp only [Act.put, List.setIfInBounds_toArray, List.set_cons_zero, List.set_cons_succ, List.getElem_toArray, List.getElem_cons_zero, List.getElem_cons_succ])
        refine wpAnyH_done (by kernel_rfl) ?_ _
        go_wp2_with fail
        go_roundw
        · exact ⟨k + 1, _, by omega, by go_num, HP4.out.1⟩
        · simp [RowKit.intOf]; omega
    · obtain rfl : k = R.length := by omega
      have hd0 : decide ((R.length : Int) < (R.length : Int)) = false := decide_eq_false (by omega)
      have HH := Lib.hid hH
      clear hH
      go_wp2_with fail
      go_ret
      exact ⟨rfl, RV, HH.out⟩
/- The landed walk as it begins: each node that is left waits, or is ready. The conditions: a graph that was made; at most 10^6 numbers. -/
def pos0 (A : List Int) (v : Nat) : Int := if ((v : Nat) : Int) ∈ A then -3 else -1
theorem HI.begin {R : List (List Int)} {A : List Int} (hA : ∀ x ∈ A, gnd R.length x) : HI R A (pos0 A) [] [] (fun _ => []) (fun _ => 0) := by
  have h1 : ∀ v, pos0 A v = -3 ∨ pos0 A v = -1 := fun v => by unfold pos0; split <;> simp
  refine ⟨fun v hv => ?_, hA, List.nodup_nil, fun x => ?_, fun _ _ => List.nodup_nil, fun w hw _ x => ?_, fun v hv h0 => ?_, fun v hv h2 => ?_, fun v hv => ⟨Nat.zero_le _, fun x hx => by simp at hx⟩, fun _ _ x hx => by (cases hx), fun v hv => ?_⟩
  · unfold pos0
    by_cases e : ((v : Nat) : Int) ∈ A
    · rw [if_pos e]; simp [e]
    · rw [if_neg e]; simp [e]
  · have := h1 x.toNat
    exact ⟨fun q => (by cases q), fun q => (by have := q.2; omega)⟩
  · have := h1 x.toNat
    exact ⟨fun q => (by cases q), fun q => (by have := q.2; omega)⟩
  · have := h1 v; omega
  · have := h1 v; omega
  · have := h1 v; omega
/-- All blocks as they are laid. -/
theorem OB.made {w0 w1 w2 w' : World} {c : Cf} {R : List (List Int)} {A : List Int} {RV : Nat → Value} {F : Nat → Prop} {f1 : Nat} (hH : HlI w1 w2 c.gl R.length (rvk R A R.length) RV) (hb : Below w2.heap.size w2 w') (hbl : c.bl = w1.heap.size) (hgr : c.gr = w1.heap.size + 1) (hbr : c.br = w1.heap.size + 1 + 1)
    (h0 : w'.cell? ⟨c.B, 0, none⟩ = some (.slice (some ⟨c.gl, 0, none⟩) R.length R.length)) (h1 : w'.cell? ⟨c.B, 1, none⟩ = some (.slice (some ⟨c.gw, 0, none⟩) R.length R.length)) (h2 : w'.cell? ⟨c.B, 2, none⟩ = some (HolderV c)) (h3 : w'.cell? ⟨c.B, 3, none⟩ = some (PushV c)) (h4 : w'.cell? ⟨c.B, 4, none⟩ = some (PopV c))
    (lr : ∀ i, i < R.length → w'.cell? ⟨c.gl, i, none⟩ = some (.bool (lvP (pos0 A) i)) ∧ w'.frozen? ⟨c.gl, i, none⟩ = false)
    (wr : ∀ i, i < R.length → w'.cell? ⟨c.gw, i, none⟩ = some (.slice none 0 0) ∧ w'.frozen? ⟨c.gw, i, none⟩ = false)
    (pl : RepI w' c.PB [] F) (g0 : w0.heap.size ≤ c.gl) (g1 : ∀ j, F j → c.gl < j ∧ j < f1) (g2 : f1 ≤ w1.heap.size) (g6 : c.gl < f1) (g3 : (f1 ≤ c.gw ∧ c.gw < w1.heap.size) ∨ w2.heap.size ≤ c.gw) (g4 : c.gw < c.B) (g5 : w2.heap.size ≤ c.B) (wb : Below w0.heap.size w0 w') :
    OB w0 w' c R.length (lvP (pos0 A)) (fun _ => []) (rl R A (fun _ => 0)) [] (fun _ => .slice none 0 0) RV F := by
  have hH' := hH.below hb
  have hs := hH.hs
  have hB : c.B < w'.heap.size := World.block_lt_of_cell? _ _ h0
  have hrl : ∀ i, i < R.length → rl R A (fun _ => 0) i = rvk R A R.length i := fun i hi => by
    unfold rl rvk
    by_cases q : ((i : Nat) : Int) ∈ A
    · rw [if_pos q, if_pos ⟨hi, q⟩, List.drop_zero]
    · rw [if_neg q, if_neg (fun r => q r.2)]
  have key : ∀ a j, KF c R.length (rl R A (fun _ => 0)) (fun _ => .slice none 0 0) RV F a j → (a = 0 ∧ j = c.B) ∨ (a = 1 ∧ j = c.gl) ∨ (a = 2 ∧ j = c.gw) ∨ (a = 3 ∧ j = w1.heap.size + 1) ∨ (a = 4 ∧ j = w1.heap.size) ∨ (a = 5 ∧ j = w1.heap.size + 1 + 1) ∨ (a = 6 ∧ c.gl < j ∧ j < f1) ∨ (a = 7 ∧ w1.heap.size + 3 ≤ j ∧ j < w2.heap.size) := by
    rintro a j (⟨q, r⟩ | ⟨q, r⟩ | ⟨q, r⟩ | ⟨q, r⟩ | ⟨q, r⟩ | ⟨q, r⟩ | ⟨q, r⟩ | ⟨q, i, hi, _, r⟩ | ⟨i, _, _, r⟩)
    · exact Or.inl ⟨q, r⟩
    · exact Or.inr (Or.inl ⟨q, r⟩)
    · exact Or.inr (Or.inr (Or.inl ⟨q, r⟩))
    · exact Or.inr (Or.inr (Or.inr (Or.inl ⟨q, r.trans hgr⟩)))
    · exact Or.inr (Or.inr (Or.inr (Or.inr (Or.inl ⟨q, r.trans hbl⟩))))
    · exact Or.inr (Or.inr (Or.inr (Or.inr (Or.inr (Or.inl ⟨q, r.trans hbr⟩)))))
    · exact Or.inr (Or.inr (Or.inr (Or.inr (Or.inr (Or.inr (Or.inl ⟨q, g1 j r⟩))))))
    · exact Or.inr (Or.inr (Or.inr (Or.inr (Or.inr (Or.inr (Or.inr ⟨q, hH.rb i hi j r⟩))))))
    · cases r
  refine ⟨h0, h1, h2, h3, h4, by rw [hbl]; exact hH'.c1, by rw [hbr, hgr]; exact hH'.c2, lr, wr, fun i hi => by rw [hgr]; exact hH'.rr i hi, fun i hi => World.ownsRow_nil _ _ _ _, fun i hi => by rw [hrl i hi]; exact hH'.ro i hi, pl, fun a b j ha hb' => ?_, fun a j ha => ?_, wb⟩
  · have p := key a j ha
    have q := key b j hb'
    omega
  · have p := key a j ha
    have := hb.size
    omega
section
variable {R : List (List Int)} {L : List Int}
/-- Which are left behind the first k numbers. -/
structure LfI (w wr : World) (gl N : Nat) (L : List Int) (k : Nat) : Prop where
  c : ∀ i, i < N → wr.cell? ⟨gl, i, none⟩ = some (.bool (decide (((i : Nat) : Int) ∈ L.take k))) ∧ wr.frozen? ⟨gl, i, none⟩ = false
  b : Below w.heap.size w wr
theorem LfI.store {w wr : World} {gl N k : Nat} (h : LfI w wr gl N L k) (hg : w.heap.size ≤ gl) (hk : k < L.length) {x : Nat} (hx : L.getD k 0 = (x : Int)) (hxN : x < N) : LfI w (wr.setCell ⟨gl, x, none⟩ (.bool true)) gl N L (k + 1) := by
  have t := set_kind wr gl x (.bool true)
  refine ⟨fun i hi => ⟨?_, (World.frozen?_setCell _ _ _ _).trans (h.c i hi).2⟩, h.b.trans (t.below (fun j q => by rw [q]; exact hg) h.b.size)⟩
  rw [List.take_succ_eq_append_getElem hk]
  rw [getD_lt _ _ hk] at hx
  rw [hx]
  by_cases e : i = x
  · subst e
    rw [decide_eq_true (List.mem_append.2 (Or.inr (by simp)))]
    exact World.cell?_setCell_same _ _ _ (h.c i hi).1
  · have : decide (((i : Nat) : Int) ∈ L.take k ++ [((x : Nat) : Int)]) = decide (((i : Nat) : Int) ∈ L.take k) := decide_eq_decide.2 (by rw [List.mem_append, List.mem_singleton]; exact ⟨fun q => q.elim id (fun q => absurd (by omega) e), Or.inl⟩)
    rw [this]
    exact (World.cell?_setCell_other _ _ _ _ (fun q => e (by cases q; rfl))).trans (h.c i hi).1
theorem LfI.skip {w wr : World} {gl N k : Nat} (h : LfI w wr gl N L k) (hk : k < L.length) (hx : ¬ gnd N (L.getD k 0)) : LfI w wr gl N L (k + 1) := by
  refine ⟨fun i hi => ⟨?_, (h.c i hi).2⟩, h.b⟩
  rw [List.take_succ_eq_append_getElem hk]
  rw [getD_lt _ _ hk] at hx
  have : decide (((i : Nat) : Int) ∈ L.take k ++ [L[k]]) = decide (((i : Nat) : Int) ∈ L.take k) := decide_eq_decide.2 (by rw [List.mem_append, List.mem_singleton]; exact ⟨fun q => q.elim id (fun q => absurd (by rw [← q]; exact gnd_nat hi) hx), Or.inl⟩)
  rw [this]
  exact (h.c i hi).1
theorem lv_sel {i : Nat} (hi : i < R.length) : decide (((i : Nat) : Int) ∈ L) = lvP (pos0 (sel R.length L)) i := by
  unfold lvP pos0
  by_cases q : ((i : Nat) : Int) ∈ L
  · rw [if_pos (mem_sel.2 ⟨gnd_nat hi, q⟩), decide_eq_true q]; rfl
  · rw [if_neg (fun r => q (mem_sel.1 r).2), decide_eq_false q]; rfl
end
/-- While the nodes are laid. -/
structure BgI (w0 wr : World) (c : Cf) (R : List (List Int)) (A : List Int) (k : Nat) : Prop where
  out : ∃ pos d, St w0 wr c R A pos [] d ∧ (∀ u, u < k → pos u ≠ -3) ∧ ∀ u, u < R.length → k ≤ u → pos u = -3 ∨ pos u = -1
theorem st_begin {w wr w3 W1 w4 w' : World} {c : Cf} {R : List (List Int)} {L : List Int} {RV : Nat → Value} {F : Nat → Prop} (hI : GrI R) (hL : LfI w wr w.heap.size R.length L L.length) (hP : RepI w3 c.PB [] F ∧ Below wr.heap.size wr w3 ∧ ∀ j, F j → wr.heap.size ≤ j) (hb3 : Below w3.heap.size w3 W1)
    (hH : HlI W1 w4 w.heap.size R.length (rvk R (sel R.length L) R.length) RV) (hb4 : Below w4.heap.size w4 w') (e : c.gl = w.heap.size) (hbl : c.bl = W1.heap.size) (hgr : c.gr = W1.heap.size + 1) (hbr : c.br = W1.heap.size + 1 + 1)
    (h0 : w'.cell? ⟨c.B, 0, none⟩ = some (.slice (some ⟨c.gl, 0, none⟩) R.length R.length)) (h1 : w'.cell? ⟨c.B, 1, none⟩ = some (.slice (some ⟨c.gw, 0, none⟩) R.length R.length)) (h2 : w'.cell? ⟨c.B, 2, none⟩ = some (HolderV c)) (h3 : w'.cell? ⟨c.B, 3, none⟩ = some (PushV c)) (h4 : w'.cell? ⟨c.B, 4, none⟩ = some (PopV c))
    (hw : ∀ i, i < R.length → w'.cell? ⟨c.gw, i, none⟩ = some (.slice none 0 0) ∧ w'.frozen? ⟨c.gw, i, none⟩ = false) (g3 : (w3.heap.size ≤ c.gw ∧ c.gw < W1.heap.size) ∨ w4.heap.size ≤ c.gw) (g4 : c.gw < c.B) (g5 : w4.heap.size ≤ c.B) :
    BgI w w' c R (sel R.length L) 0 := by
  obtain ⟨hp, hb, hF⟩ := hP
  have b1 : Below w3.heap.size w3 w' := (hb3.trans (hH.b.mono hb3.size)).trans (hb4.mono (Nat.le_trans hb3.size hH.b.size))
  have b2 : Below wr.heap.size wr w' := hb.trans (b1.mono hb.size)
  have hlt : w.heap.size < wr.heap.size := World.block_lt_of_cell? _ _ (hL.c 0 hI.lo).1
  have hA : ∀ x ∈ sel R.length L, gnd R.length x := fun x hx => (mem_sel.1 hx).1
  have ob := OB.made (w0 := w) (w' := w') (c := c) (f1 := w3.heap.size) (F := F) (A := sel R.length L) (by rw [e]; exact hH) hb4 hbl hgr hbr h0 h1 h2 h3 h4 (fun i hi => by
      obtain ⟨q1, q2⟩ := hL.c i hi
      rw [List.take_length, lv_sel hi] at q1
      rw [e]
      exact ⟨(b2.cell (p := ⟨w.heap.size, i, none⟩) hlt).trans q1, (b2.frozen (p := ⟨w.heap.size, i, none⟩) hlt).trans q2⟩) hw (hp.keep fun j hj => b1.block j (hp.foot j hj)) (by rw [e]; exact Nat.le_refl _)
    (fun j hj => ⟨by have := hF j hj; omega, hp.foot j hj⟩) hb3.size (by rw [e]; have := hb.size; omega) g3 g4 g5 (hL.b.trans (b2.mono hL.b.size))
  refine ⟨pos0 (sel R.length L), ⟨[], fun _ => [], fun _ => 0, fun _ => .slice none 0 0, RV, F⟩, ⟨HI.begin hA, ob⟩, fun u hu => absurd hu (Nat.not_lt_zero u), fun u hu _ => ?_⟩
  unfold pos0; split <;> simp
theorem BgI.skip {w0 wr : World} {c : Cf} {R : List (List Int)} {A : List Int} {k : Nat} {pos : Nat → Int} {d : Dt} (hS : St w0 wr c R A pos [] d) (h1 : ∀ u, u < k → pos u ≠ -3) (h2 : ∀ u, u < R.length → k ≤ u → pos u = -3 ∨ pos u = -1) (hp : pos k = -1) : BgI w0 wr c R A (k + 1) :=
  ⟨pos, d, hS, fun u hu => by
    by_cases e : u = k
    · subst e; omega
    · exact h1 u (by omega), fun u hu hk => h2 u hu (by omega)⟩
theorem BgI.next {w0 wr w' : World} {c : Cf} {R : List (List Int)} {A : List Int} {k : Nat} {pos : Nat → Int} {d : Dt} (h1 : ∀ u, u < k → pos u ≠ -3) (h2 : ∀ u, u < R.length → k ≤ u → pos u = -3 ∨ pos u = -1) (hq : HoldQ w0 wr w' c R A pos [] d k) : BgI w0 w' c R A (k + 1) := by
  obtain ⟨p, d', q1, _, q3, q4, _⟩ := hq
  refine ⟨p, d', q1, fun u hu => ?_, fun u hu hk => by rw [q4 u (by omega)]; exact h2 u hu (by omega)⟩
  by_cases e : u = k
  · subst e; exact q3.1
  · rw [q4 u e]; exact h1 u (by omega)
set_option maxHeartbeats 4000000 in
set_option maxRecDepth 100000 in
theorem begin_h {w00 w : World} {Bg : Nat} {R : List (List Int)} {Fg : Nat → Prop} (h : OneG w00 w Bg R Fg) (a : Option Addr) (ca : Nat) (L : List Int) (hr : Reads w a L) (hn : L.length ≤ 1000000) :
    Calls Tryz.prog 37 #[.pointer (some ⟨Bg, 0, none⟩), .slice a L.length ca] w fun e w' => ∃ c, e = .returned (.pointer (some ⟨c.B, 0, none⟩)) ∧ ∃ pos d, St w w' c R (sel R.length L) pos [] d ∧ ∀ u, u < R.length → pos u ≠ -3 := by
  have hmf : ∀ (fn : Fn) (first cap : Array Value) (w : World), (Instr.makeFunc fn first cap).run Tryz.prog w = .ok (.func fn first cap) w := fun _ _ _ _ => rfl
  have hI := h.r.1
  have hIh := hI.hi
  have hmb := mk_bools R.length hIh
  have hmk := mk_rows R.length hIh
  have hnd := nodes_o h
  have HG := Lib.hid h
  have HR := Lib.hid hr
  have HI := Lib.hid hI
  clear h hr hI
  go_enter Tryz.func37, Tryz.ntmps37
  go_wp2_with fail
  refine hnd.mono ?_; clear hnd; rintro e w1 ⟨rfl, hw⟩
  replace hw := hw.symm
  subst hw
  go_wp2_with fail
  have hb0 := below1 w (.cells (madeCells #[.bool false] R.length) 4)
  have H0 : Hid (LfI w (w.alloc (.cells (madeCells #[.bool false] R.length) 4)) w.heap.size R.length L 0) := by
    have q := heap_alloc_new w (.cells (madeCells #[.bool false] R.length) 4)
    exact ⟨fun i hi => ⟨by rw [cell_ofO i q, made_cells _ _ _ hi]; simp, free_of i q⟩, hb0⟩
  have hs0 : w.heap.size < (w.alloc (.cells (madeCells #[.bool false] R.length) 4)).heap.size := by simp
  generalize w.alloc (.cells (madeCells #[.bool false] R.length) 4) = w1 at *
  clear hmb hb0
  go_loopw [16] (fun i wr => ∃ k : Nat, k ≤ L.length ∧ i = .int .i64 (k : Int) ∧ LfI w wr w.heap.size R.length L k) (fun i _ => L.length - (RowKit.intOf i).toNat)
  case atStart => exact ⟨0, Nat.zero_le _, rfl, H0.out⟩
  case round =>
    clear H0 hs0
    obtain ⟨k, hk, rfl, hL⟩ := hrel
    by_cases hlt : k < L.length
    · obtain ⟨b, off, rfl, hcx⟩ := (HR.out.below hL.b).2 k hlt
      have i0 : (0 : Int) ≤ (k : Int) := by omega
      have i1 : (k : Int) < (L.length : Int) := by omega
      by_cases hg : gnd R.length (L.getD k 0)
      · obtain ⟨x, hx⟩ : ∃ x : Nat, L.getD k 0 = (x : Int) := ⟨(L.getD k 0).toNat, by unfold gnd at hg; omega⟩
        have hxl : x < R.length := by unfold gnd at hg; omega
        have HS := Lib.hid (hL.store (Nat.le_refl _) hlt hx hxl)
        obtain ⟨c0, z0⟩ := hL.c x hxl
        rw [hx] at hcx
        have j0 : (0 : Int) ≤ (x : Int) := by omega
        have j1 : (x : Int) < (R.length : Int) := by omega
        have d0 : decide ((0 : Int) ≤ (x : Int)) = true := decide_eq_true j0
        have d1 : decide ((x : Int) < (R.length : Int)) = true := decide_eq_true j1
        have HLT := Lib.hid hlt
        clear hL hx hg hk hlt
        go_wp2_with fail
        go_roundw
        · exact ⟨k + 1, HLT.out, by go_num, HS.out⟩
        · have := HLT.out; simp [RowKit.intOf]; omega
      · have HS := Lib.hid (hL.skip hlt hg)
        have HLT := Lib.hid hlt
        generalize L.getD k 0 = z at *
        by_cases h0 : 0 ≤ z
        · have d0 : decide ((0 : Int) ≤ z) = true := decide_eq_true h0
          have d1 : decide (z < (R.length : Int)) = false := decide_eq_false fun q => hg ⟨h0, q⟩
          clear hL hg hk hlt h0
          go_wp2_with fail
          go_roundw
          · exact ⟨k + 1, HLT.out, by go_num, HS.out⟩
          · have := HLT.out; simp [RowKit.intOf]; omega
        · have d0 : decide ((0 : Int) ≤ z) = false := decide_eq_false h0
          clear hL hg hk hlt h0
          go_wp2_with fail
          go_roundw
          · exact ⟨k + 1, HLT.out, by go_num, HS.out⟩
          · have := HLT.out; simp [RowKit.intOf]; omega
    · obtain rfl : k = L.length := by omega
      have hd0 : decide ((L.length : Int) < (L.length : Int)) = false := decide_eq_false (by omega)
      have hnp := new_p wr
      have HL := Lib.hid hL
      clear hL hk hlt
      go_wp2_with fail
      refine hnp.mono ?_; clear hnp; rintro e w3 ⟨PB, F, rfl, hpl, hb3, hF3⟩
      have HP3 := Lib.hid (And.intro hpl (And.intro hb3 hF3))
      clear hpl hb3 hF3
      have hhl : ∀ W, Below w3.heap.size w3 W → Calls Tryz.prog 57 #[.pointer (some ⟨Bg, 0, none⟩), .slice (some ⟨w.heap.size, 0, none⟩) R.length R.length] W fun e w' =>
          e = .returned (.func (.func 72) #[] #[.pointer (some ⟨W.heap.size + 1 + 1, 0, none⟩), .pointer (some ⟨W.heap.size, 0, none⟩)]) ∧ ∃ RV, HlI W w' w.heap.size R.length (rvk R (sel R.length L) R.length) RV := fun W hW => by
        have hb : Below wr.heap.size wr W := HP3.out.2.1.trans (hW.mono HP3.out.2.1.size)
        refine holders_h (HG.out.below (HL.out.b.trans (hb.mono HL.out.b.size))) _ (lvP (pos0 (sel R.length L))) (fun i hi => ?_) (fun i hi => ?_)
        · have := (HL.out.c i hi).1
          rw [List.take_length, lv_sel hi] at this
          exact (hb.cell (p := ⟨w.heap.size, i, none⟩) (World.block_lt_of_cell? _ _ this)).trans this
        · unfold lvP pos0
          by_cases q : ((i : Nat) : Int) ∈ sel R.length L
          · rw [if_pos q]; simp [q]
          · rw [if_neg q]; simp [q]
      have HHL := Lib.hid hhl
      clear hhl
      go_wp2_with fail
      refine wp_region_held_drew (S := fun _ => True) (by kernel_rfl) (trivial) (fun hHeld => ?_)
      refine wpAnyH_take (i := 0) (v := ?_) rfl (by kernel_rfl) (by kernel_rfl) (by kernel_rfl) (fun _ _ _ h => h) (Or.inl ⟨by rfl, ?y0⟩) (by assumption) ?_
      case y0 => intro w hSw; (try dsimp only at hSw); go_simp; (try with_reducible rfl)
      (try simp only [Act.put, List.setIfInBounds_toArray, List.set_cons_zero, List.set_cons_succ, List.getElem_toArray, List.getElem_cons_zero, List.getElem_cons_succ])
      refine wpAnyH_take (i := 1) (v := ?_) rfl (by kernel_rfl) (by kernel_rfl) (by kernel_rfl) (fun _ _ _ h => h) (Or.inl ⟨by rfl, ?y1⟩) (by assumption) ?_
      case y1 => intro w hSw; (try dsimp only at hSw); go_simp; (try with_reducible rfl)
      (try simp only [Act.put, List.setIfInBounds_toArray, List.set_cons_zero, List.set_cons_succ, List.getElem_toArray, List.getElem_cons_zero, List.getElem_cons_succ])
      refine wpAnyH_take (i := 2) (v := ?_) rfl (by kernel_rfl) (by kernel_rfl) (by kernel_rfl) (fun _ _ _ h => h) (Or.inl ⟨by rfl, ?y2⟩) (by assumption) ?_
      case y2 => intro w hSw; (try dsimp only at hSw); go_simp; (try with_reducible rfl)
      (try simp only [Act.put, List.setIfInBounds_toArray, List.set_cons_zero, List.set_cons_succ, List.getElem_toArray, List.getElem_cons_zero, List.getElem_cons_succ])
      refine wpAnyH_take (i := 4) (v := ?_) rfl (by kernel_rfl) (by kernel_rfl) (by kernel_rfl) (fun _ _ _ h => h) (Or.inl ⟨by rfl, ?y4⟩) (by assumption) ?_
      case y4 => intro w hSw; (try dsimp only at hSw); go_simp; (try with_reducible rfl)
      (try simp only [Act.put, List.setIfInBounds_toArray, List.set_cons_zero, List.set_cons_succ, List.getElem_toArray, List.getElem_cons_zero, List.getElem_cons_succ])
      refine wpAnyH_take (i := 5) (v := ?_) rfl (by kernel_rfl) (by kernel_rfl) (by kernel_rfl) (fun _ _ _ h => h) (Or.inl ⟨by rfl, ?y5⟩) (by assumption) ?_
      case y5 => intro w hSw; (try dsimp only at hSw); go_simp; (try with_reducible rfl)
      (try simp only [Act.put, List.setIfInBounds_toArray, List.set_cons_zero, List.set_cons_succ, List.getElem_toArray, List.getElem_cons_zero, List.getElem_cons_succ])
      refine wpAnyH_take (i := 7) (v := ?_) rfl (by kernel_rfl) (by kernel_rfl) (by kernel_rfl) (fun _ _ _ h => h) (Or.inl ⟨by rfl, ?y7⟩) (by assumption) ?_
      case y7 => intro w hSw; (try dsimp only at hSw); go_simp; (try with_reducible rfl)
      (try simp only [Act.put, List.setIfInBounds_toArray, List.set_cons_zero, List.set_cons_succ, List.getElem_toArray, List.getElem_cons_zero, List.getElem_cons_succ])
      refine wpAnyH_take (i := 8) (v := ?_) rfl (by kernel_rfl) (by kernel_rfl) (by kernel_rfl) (fun _ _ _ h => h) (Or.inl ⟨by rfl, ?y8⟩) (by assumption) ?_
      case y8 => intro w hSw; (try dsimp only at hSw); go_simp; (try with_reducible rfl)
      (try simp only [Act.put, List.setIfInBounds_toArray, List.set_cons_zero, List.set_cons_succ, List.getElem_toArray, List.getElem_cons_zero, List.getElem_cons_succ])
      refine wpAnyH_take (i := 9) (v := ?_) rfl (by kernel_rfl) (by kernel_rfl) (by kernel_rfl) (fun _ _ _ h => h) (Or.inl ⟨by rfl, ?y9⟩) (by assumption) ?_
      case y9 => intro w hSw; (try dsimp only at hSw); go_simp; (try with_reducible rfl)
      (try simp only [Act.put, List.setIfInBounds_toArray, List.set_cons_zero, List.set_cons_succ, List.getElem_toArray, List.getElem_cons_zero, List.getElem_cons_succ])
      refine wpAnyH_take (i := 10) (v := ?_) rfl (by kernel_rfl) (by kernel_rfl) (by kernel_rfl) (fun _ _ _ h => h) (Or.inl ⟨by rfl, ?y10⟩) (by assumption) ?_
      case y10 => intro w hSw; (try dsimp only at hSw); go_simp; (try with_reducible rfl)
      (try simp only [Act.put, List.setIfInBounds_toArray, List.set_cons_zero, List.set_cons_succ, List.getElem_toArray, List.getElem_cons_zero, List.getElem_cons_succ])
      refine wpAnyH_ready (rs := [3, 6]) (by kernel_rfl) (by simp) ?_
      refine AllReadyH.cons rfl (fun KK hKK => ?_) (AllReadyH.cons rfl (fun KK hKK => ?_) AllReadyH.nil)
      · go_simp
        refine hKK.out _ _ trivial (fun hHeld => ?_)
        clear hKK KK
        (try simp only [Act.put, List.setIfInBounds_toArray, List.set_cons_zero, List.set_cons_succ, List.getElem_toArray, List.getElem_cons_zero, List.getElem_cons_succ])
        refine wpAnyH_ready (rs := [6]) (by kernel_rfl) (by simp) ?_
        refine AllReadyH.cons rfl (fun KK hKK => ?_) AllReadyH.nil
        go_simp
        refine (HHL.out _ (by first | exact (Below.refl _ _).drew | exact ((Below.refl _ _).alloc (Nat.le_refl _) _).drew | exact ((Below.refl _ _).drew.alloc (Nat.le_refl _) _))).mono ?_; rintro e w4 ⟨rfl, RV, hH⟩; have HH := Lib.hid hH; clear hH
        refine hKK.out _ _ trivial (fun hHeld => ?_)
        clear hKK KK
        (try simp only [Act.put, List.setIfInBounds_toArray, List.set_cons_zero, List.set_cons_succ, List.getElem_toArray, List.getElem_cons_zero, List.getElem_cons_succ])
        refine wpAnyH_take (i := 11) (v := ?_) rfl (by kernel_rfl) (by kernel_rfl) (by kernel_rfl) (fun _ _ _ h => h) (Or.inl ⟨by rfl, ?y11⟩) (by assumption) ?_
        case y11 => intro w hSw; (try dsimp only at hSw); go_simp; (try with_reducible rfl)
        (try simp only [Act.put, List.setIfInBounds_toArray, List.set_cons_zero, List.set_cons_succ, List.getElem_toArray, List.getElem_cons_zero, List.getElem_cons_succ])
        refine wpAnyH_ready (rs := [12]) (by kernel_rfl) (by simp) ?_
        refine AllReadyH.cons rfl (fun KK hKK => ?_) AllReadyH.nil
        go_simp
        refine hKK.out _ _ trivial (fun hHeld => ?_)
        clear hKK KK
        (try simp only [Act.put, List.setIfInBounds_toArray, List.set_cons_zero, List.set_cons_succ, List.getElem_toArray, List.getElem_cons_zero, List.getElem_cons_succ])
        refine wpAnyH_take (i := 13) (v := ?_) rfl (by kernel_rfl) (by kernel_rfl) (by kernel_rfl) (fun _ _ _ h => h) (Or.inl ⟨by rfl, ?y13⟩) (by assumption) ?_
        case y13 => intro w hSw; (try dsimp only at hSw); go_simp; (try with_reducible rfl)
        (try simp only [Act.put, List.setIfInBounds_toArray, List.set_cons_zero, List.set_cons_succ, List.getElem_toArray, List.getElem_cons_zero, List.getElem_cons_succ])
        refine wpAnyH_done (by kernel_rfl) ?_ _
        have hs1 : (w3.alloc (.cells (madeCells #[.slice none 0 0] R.length) 23)).drew.heap.size = w3.heap.size + 1 := by simp
        have hq := heap_alloc_new w4 (.cells #[.slice (some ⟨w.heap.size, 0, none⟩) R.length R.length, .slice (some ⟨w3.heap.size, 0, none⟩) R.length R.length, .func (.func 72) #[] #[.pointer (some ⟨w3.heap.size + 1 + 1 + 1, 0, none⟩), .pointer (some ⟨w3.heap.size + 1, 0, none⟩)], .func (.func 58) #[.pointer (some ⟨PB, 0, none⟩)] #[], .func (.func 59) #[.pointer (some ⟨PB, 0, none⟩)] #[]] 100)
        have hr0 := heap_alloc_new w3 (.cells (madeCells #[.slice none 0 0] R.length) 23)
        have h34 : Below (w3.alloc (.cells (madeCells #[.slice none 0 0] R.length) 23)).drew.heap.size (w3.alloc (.cells (madeCells #[.slice none 0 0] R.length) 23)).drew w4 := HH.out.b
        have hr := (heap_alloc_old w4 (.cells #[.slice (some ⟨w.heap.size, 0, none⟩) R.length R.length, .slice (some ⟨w3.heap.size, 0, none⟩) R.length R.length, .func (.func 72) #[] #[.pointer (some ⟨w3.heap.size + 1 + 1 + 1, 0, none⟩), .pointer (some ⟨w3.heap.size + 1, 0, none⟩)], .func (.func 58) #[.pointer (some ⟨PB, 0, none⟩)] #[], .func (.func 59) #[.pointer (some ⟨PB, 0, none⟩)] #[]] 100) (show w3.heap.size < _ by have := h34.size; omega)).trans ((h34.block w3.heap.size (by omega)).trans hr0)
        have hBG : BgI w (w4.alloc (.cells #[.slice (some ⟨w.heap.size, 0, none⟩) R.length R.length, .slice (some ⟨w3.heap.size, 0, none⟩) R.length R.length, .func (.func 72) #[] #[.pointer (some ⟨w3.heap.size + 1 + 1 + 1, 0, none⟩), .pointer (some ⟨w3.heap.size + 1, 0, none⟩)], .func (.func 58) #[.pointer (some ⟨PB, 0, none⟩)] #[], .func (.func 59) #[.pointer (some ⟨PB, 0, none⟩)] #[]] 100)) ⟨w4.heap.size, w.heap.size, w3.heap.size, w3.heap.size + 1 + 1, w3.heap.size + 1, w3.heap.size + 1 + 1 + 1, PB⟩ R (sel R.length L) 0 := st_begin HI.out HL.out HP3.out ((Below.refl _ _).alloc (Nat.le_refl _) _).drew HH.out (below1 w4 _) rfl hs1.symm (by rw [hs1]) (by rw [hs1])
          ((cell_ofO 0 hq).trans rfl) ((cell_ofO 1 hq).trans rfl) ((cell_ofO 2 hq).trans rfl) ((cell_ofO 3 hq).trans rfl) ((cell_ofO 4 hq).trans rfl)
          (fun i hi => ⟨(cell_ofO i hr).trans (made_cells _ _ _ hi), free_of i hr⟩) (Or.inl ⟨Nat.le_refl _, by rw [hs1]; exact Nat.lt_succ_self _⟩) (by show w3.heap.size < w4.heap.size; have := h34.size; omega) (Nat.le_refl _)
        clear hs1 hq hr0 hr h34 HH HL HP3 HHL hmk hmf
        have hH2 := Lib.hid hBG
        clear hBG
        go_wp2_with fail
        generalize w4.alloc (.cells #[.slice (some ⟨w.heap.size, 0, none⟩) R.length R.length, .slice (some ⟨w3.heap.size, 0, none⟩) R.length R.length, .func (.func 72) #[] #[.pointer (some ⟨w3.heap.size + 1 + 1 + 1, 0, none⟩), .pointer (some ⟨w3.heap.size + 1, 0, none⟩)], .func (.func 58) #[.pointer (some ⟨PB, 0, none⟩)] #[], .func (.func 59) #[.pointer (some ⟨PB, 0, none⟩)] #[]] 100) = w5 at *
        go_loopw [48] (fun i wr => ∃ k : Nat, k ≤ R.length ∧ i = .int .i64 (k : Int) ∧ BgI w wr ⟨w4.heap.size, w.heap.size, w3.heap.size, w3.heap.size + 1 + 1, w3.heap.size + 1, w3.heap.size + 1 + 1 + 1, PB⟩ R (sel R.length L) k) (fun i _ => R.length - (RowKit.intOf i).toNat)
        case atStart => exact ⟨0, Nat.zero_le _, rfl, hH2.out⟩
        case round =>
          clear hH2
          obtain ⟨k, hk, rfl, hB⟩ := hrel
          obtain ⟨pos, d, hS, p1, p2⟩ := hB.out
          by_cases hlt : k < R.length
          · have i0 : (0 : Int) ≤ (k : Int) := by omega
            have i1 : (k : Int) < (R.length : Int) := by omega
            have d0 : decide ((k : Int) < (R.length : Int)) = true := decide_eq_true i1
            have c0 := (hS.ob.lr k hlt).1
            rcases p2 k hlt (Nat.le_refl _) with hp | hp
            · have hlv : lvP pos k = true := by unfold lvP; rw [hp]; rfl
              rw [hlv] at c0
              have hho := hold_h HI.out hS hlt hp
              have hnext : ∀ w', HoldQ w wr w' ⟨w4.heap.size, w.heap.size, w3.heap.size, w3.heap.size + 1 + 1, w3.heap.size + 1, w3.heap.size + 1 + 1 + 1, PB⟩ R (sel R.length L) pos [] d k → BgI w w' ⟨w4.heap.size, w.heap.size, w3.heap.size, w3.heap.size + 1 + 1, w3.heap.size + 1, w3.heap.size + 1 + 1 + 1, PB⟩ R (sel R.length L) (k + 1) := fun w' hq => BgI.next p1 p2 hq
              have HN := Lib.hid hnext
              have HLT := Lib.hid hlt
              clear hB hS p1 p2 hp hlv hnext hlt hk
              go_wp2_with fail
              refine hho.mono ?_; clear hho; rintro e w6 ⟨rfl, hq⟩
              have HQ := Lib.hid (HN.out _ hq)
              clear hq
              go_wp2_with fail
              go_roundw
              · exact ⟨k + 1, HLT.out, by go_num, HQ.out⟩
              · have := HLT.out; simp [RowKit.intOf]; omega
            · have hlv : lvP pos k = false := by unfold lvP; rw [hp]; rfl
              rw [hlv] at c0
              have HQ := Lib.hid (BgI.skip hS p1 p2 hp)
              have HLT := Lib.hid hlt
              clear hB hS p1 p2 hp hlv hlt hk
              go_wp2_with fail
              go_roundw
              · exact ⟨k + 1, HLT.out, by go_num, HQ.out⟩
              · have := HLT.out; simp [RowKit.intOf]; omega
          · obtain rfl : k = R.length := by omega
            have hd0 : decide ((R.length : Int) < (R.length : Int)) = false := decide_eq_false (by omega)
            have HQ := Lib.hid (And.intro hS p1)
            clear hB hS p1 p2 hlt hk
            go_wp2_with fail
            go_ret
            exact ⟨⟨w4.heap.size, w.heap.size, w3.heap.size, w3.heap.size + 1 + 1, w3.heap.size + 1, w3.heap.size + 1 + 1 + 1, PB⟩, rfl, pos, d, HQ.out.1, HQ.out.2⟩
      · go_simp
        refine (HHL.out _ (by first | exact (Below.refl _ _).drew | exact ((Below.refl _ _).alloc (Nat.le_refl _) _).drew | exact ((Below.refl _ _).drew.alloc (Nat.le_refl _) _))).mono ?_; rintro e w4 ⟨rfl, RV, hH⟩; have HH := Lib.hid hH; clear hH
        refine hKK.out _ _ trivial (fun hHeld => ?_)
        clear hKK KK
        (try simp only [Act.put, List.setIfInBounds_toArray, List.set_cons_zero, List.set_cons_succ, List.getElem_toArray, List.getElem_cons_zero, List.getElem_cons_succ])
        refine wpAnyH_ready (rs := [3]) (by kernel_rfl) (by simp) ?_
        refine AllReadyH.cons rfl (fun KK hKK => ?_) AllReadyH.nil
        go_simp
        refine hKK.out _ _ trivial (fun hHeld => ?_)
        clear hKK KK
        (try simp only [Act.put, List.setIfInBounds_toArray, List.set_cons_zero, List.set_cons_succ, List.getElem_toArray, List.getElem_cons_zero, List.getElem_cons_succ])
        refine wpAnyH_take (i := 11) (v := ?_) rfl (by kernel_rfl) (by kernel_rfl) (by kernel_rfl) (fun _ _ _ h => h) (Or.inl ⟨by rfl, ?y11⟩) (by assumption) ?_
        case y11 => intro w hSw; (try dsimp only at hSw); go_simp; (try with_reducible rfl)
        (try simp only [Act.put, List.setIfInBounds_toArray, List.set_cons_zero, List.set_cons_succ, List.getElem_toArray, List.getElem_cons_zero, List.getElem_cons_succ])
        refine wpAnyH_ready (rs := [12]) (by kernel_rfl) (by simp) ?_
        refine AllReadyH.cons rfl (fun KK hKK => ?_) AllReadyH.nil
        go_simp
        refine hKK.out _ _ trivial (fun hHeld => ?_)
        clear hKK KK
        (try simp only [Act.put, List.setIfInBounds_toArray, List.set_cons_zero, List.set_cons_succ, List.getElem_toArray, List.getElem_cons_zero, List.getElem_cons_succ])
        refine wpAnyH_take (i := 13) (v := ?_) rfl (by kernel_rfl) (by kernel_rfl) (by kernel_rfl) (fun _ _ _ h => h) (Or.inl ⟨by rfl, ?y13⟩) (by assumption) ?_
        case y13 => intro w hSw; (try dsimp only at hSw); go_simp; (try with_reducible rfl)
        (try simp only [Act.put, List.setIfInBounds_toArray, List.set_cons_zero, List.set_cons_succ, List.getElem_toArray, List.getElem_cons_zero, List.getElem_cons_succ])
        refine wpAnyH_done (by kernel_rfl) ?_ _
        have hs1 : (w4.alloc (.cells (madeCells #[.slice none 0 0] R.length) 23)).heap.size = w4.heap.size + 1 := by simp
        have hq := heap_alloc_new (w4.alloc (.cells (madeCells #[.slice none 0 0] R.length) 23)) (.cells #[.slice (some ⟨w.heap.size, 0, none⟩) R.length R.length, .slice (some ⟨w4.heap.size, 0, none⟩) R.length R.length, .func (.func 72) #[] #[.pointer (some ⟨w3.heap.size + 1 + 1, 0, none⟩), .pointer (some ⟨w3.heap.size, 0, none⟩)], .func (.func 58) #[.pointer (some ⟨PB, 0, none⟩)] #[], .func (.func 59) #[.pointer (some ⟨PB, 0, none⟩)] #[]] 100)
        rw [hs1] at hq
        have hr := (heap_alloc_old (w4.alloc (.cells (madeCells #[.slice none 0 0] R.length) 23)) (.cells #[.slice (some ⟨w.heap.size, 0, none⟩) R.length R.length, .slice (some ⟨w4.heap.size, 0, none⟩) R.length R.length, .func (.func 72) #[] #[.pointer (some ⟨w3.heap.size + 1 + 1, 0, none⟩), .pointer (some ⟨w3.heap.size, 0, none⟩)], .func (.func 58) #[.pointer (some ⟨PB, 0, none⟩)] #[], .func (.func 59) #[.pointer (some ⟨PB, 0, none⟩)] #[]] 100) (show w4.heap.size < _ by omega)).trans (heap_alloc_new w4 (.cells (madeCells #[.slice none 0 0] R.length) 23))
        have hBG : BgI w ((w4.alloc (.cells (madeCells #[.slice none 0 0] R.length) 23)).alloc (.cells #[.slice (some ⟨w.heap.size, 0, none⟩) R.length R.length, .slice (some ⟨w4.heap.size, 0, none⟩) R.length R.length, .func (.func 72) #[] #[.pointer (some ⟨w3.heap.size + 1 + 1, 0, none⟩), .pointer (some ⟨w3.heap.size, 0, none⟩)], .func (.func 58) #[.pointer (some ⟨PB, 0, none⟩)] #[], .func (.func 59) #[.pointer (some ⟨PB, 0, none⟩)] #[]] 100)) ⟨w4.heap.size + 1, w.heap.size, w4.heap.size, w3.heap.size + 1, w3.heap.size, w3.heap.size + 1 + 1, PB⟩ R (sel R.length L) 0 := st_begin HI.out HL.out HP3.out ((Below.refl _ _).drew) HH.out ((below1 w4 _).alloc (by omega) _) rfl rfl rfl rfl
          ((cell_ofO 0 hq).trans rfl) ((cell_ofO 1 hq).trans rfl) ((cell_ofO 2 hq).trans rfl) ((cell_ofO 3 hq).trans rfl) ((cell_ofO 4 hq).trans rfl)
          (fun i hi => ⟨(cell_ofO i hr).trans (made_cells _ _ _ hi), free_of i hr⟩) (Or.inr (Nat.le_refl _)) (Nat.lt_succ_self _) (Nat.le_succ _)
        clear hs1 hq hr HH HL HP3 HHL hmk hmf
        have hH2 := Lib.hid hBG
        clear hBG
        go_wp2_with fail
        generalize (w4.alloc (.cells (madeCells #[.slice none 0 0] R.length) 23)).alloc (.cells #[.slice (some ⟨w.heap.size, 0, none⟩) R.length R.length, .slice (some ⟨w4.heap.size, 0, none⟩) R.length R.length, .func (.func 72) #[] #[.pointer (some ⟨w3.heap.size + 1 + 1, 0, none⟩), .pointer (some ⟨w3.heap.size, 0, none⟩)], .func (.func 58) #[.pointer (some ⟨PB, 0, none⟩)] #[], .func (.func 59) #[.pointer (some ⟨PB, 0, none⟩)] #[]] 100) = w5 at *
        go_loopw [48] (fun i wr => ∃ k : Nat, k ≤ R.length ∧ i = .int .i64 (k : Int) ∧ BgI w wr ⟨w4.heap.size + 1, w.heap.size, w4.heap.size, w3.heap.size + 1, w3.heap.size, w3.heap.size + 1 + 1, PB⟩ R (sel R.length L) k) (fun i _ => R.length - (RowKit.intOf i).toNat)
        case atStart => exact ⟨0, Nat.zero_le _, rfl, hH2.out⟩
        case round =>
          clear hH2
          obtain ⟨k, hk, rfl, hB⟩ := hrel
          obtain ⟨pos, d, hS, p1, p2⟩ := hB.out
          by_cases hlt : k < R.length
          · have i0 : (0 : Int) ≤ (k : Int) := by omega
            have i1 : (k : Int) < (R.length : Int) := by omega
            have d0 : decide ((k : Int) < (R.length : Int)) = true := decide_eq_true i1
            have c0 := (hS.ob.lr k hlt).1
            rcases p2 k hlt (Nat.le_refl _) with hp | hp
            · have hlv : lvP pos k = true := by unfold lvP; rw [hp]; rfl
              rw [hlv] at c0
              have hho := hold_h HI.out hS hlt hp
              have hnext : ∀ w', HoldQ w wr w' ⟨w4.heap.size + 1, w.heap.size, w4.heap.size, w3.heap.size + 1, w3.heap.size, w3.heap.size + 1 + 1, PB⟩ R (sel R.length L) pos [] d k → BgI w w' ⟨w4.heap.size + 1, w.heap.size, w4.heap.size, w3.heap.size + 1, w3.heap.size, w3.heap.size + 1 + 1, PB⟩ R (sel R.length L) (k + 1) := fun w' hq => BgI.next p1 p2 hq
              have HN := Lib.hid hnext
              have HLT := Lib.hid hlt
              clear hB hS p1 p2 hp hlv hnext hlt hk
              go_wp2_with fail
              refine hho.mono ?_; clear hho; rintro e w6 ⟨rfl, hq⟩
              have HQ := Lib.hid (HN.out _ hq)
              clear hq
              go_wp2_with fail
              go_roundw
              · exact ⟨k + 1, HLT.out, by go_num, HQ.out⟩
              · have := HLT.out; simp [RowKit.intOf]; omega
            · have hlv : lvP pos k = false := by unfold lvP; rw [hp]; rfl
              rw [hlv] at c0
              have HQ := Lib.hid (BgI.skip hS p1 p2 hp)
              have HLT := Lib.hid hlt
              clear hB hS p1 p2 hp hlv hlt hk
              go_wp2_with fail
              go_roundw
              · exact ⟨k + 1, HLT.out, by go_num, HQ.out⟩
              · have := HLT.out; simp [RowKit.intOf]; omega
          · obtain rfl : k = R.length := by omega
            have hd0 : decide ((R.length : Int) < (R.length : Int)) = false := decide_eq_false (by omega)
            have HQ := Lib.hid (And.intro hS p1)
            clear hB hS p1 p2 hlt hk
            go_wp2_with fail
            go_ret
            exact ⟨⟨w4.heap.size + 1, w.heap.size, w4.heap.size, w3.heap.size + 1, w3.heap.size, w3.heap.size + 1 + 1, PB⟩, rfl, pos, d, HQ.out.1, HQ.out.2⟩
/- The landed package's Order of a graph that was made. The condition: at most 10^6 numbers. -/
section
variable {w00 w w' : World} {Bg : Nat} {R : List (List Int)} {Fg : Nat → Prop} {A : List Int} {c : Cf} {pos : Nat → Int} {d : Dt}
theorem stuck_iff {w0 : World} {l : List Int} (h : St w0 w c R A pos l d) : (∃ k, k < R.length ∧ pos k ≠ -1) ↔ ∃ x ∈ A, x ∉ l := by
  constructor
  · rintro ⟨k, h1, h2⟩
    obtain ⟨q1, q2⟩ := (h.hi.lf k h1).1 h2
    exact ⟨_, q1, q2⟩
  · rintro ⟨x, h1, h2⟩
    have hg := h.hi.an x h1
    exact ⟨x.toNat, by unfold gnd at hg; omega, (h.hi.left hg).2 ⟨h1, h2⟩⟩
/-- The error, where some are left. -/
def ecir (s : Bool) : Int := if s then 26 else 0
/-- What is told of an order of A, and of its error. -/
def OrdAns (e : Ending) (w w' : World) (R : List (List Int)) (A : List Int) : Prop := ∃ (u : Value) (l : List Int) (s : Bool), e = .returned (.tuple #[u, .int .i64 (ecir s)]) ∧
  Own w' w.heap.size u (if s then [] else l) ∧ IsOrd R A l ∧ (s = true ↔ ∃ x ∈ A, x ∉ l) ∧ Below w.heap.size w w'
set_option maxHeartbeats 4000000 in
theorem order_o (h : OneG w00 w Bg R Fg) (a : Option Addr) (ca : Nat) (L : List Int) (hr : Reads w a L) (hn : L.length ≤ 1000000) :
    Calls Tryz.prog 23 #[.pointer (some ⟨Bg, 0, none⟩), .slice a L.length ca] w fun e w' => OrdAns e w w' R (sel R.length L) := by
  have hI := h.r.1
  have hbg := begin_h h a ca L hr hn
  have HI := Lib.hid hI
  clear h hr hI
  go_enter Tryz.func23, Tryz.ntmps23
  go_wp2_with fail
  refine hbg.mono ?_; clear hbg; rintro e w1 ⟨c, rfl, pos, d, hS, hn1⟩
  have hal := all_h HI.out (sel_rises _ _) hS hn1
  have hsz := hS.ob.wb.size
  clear hS hn1
  go_wp2_with fail
  refine hal.mono ?_; clear hal; rintro e w2 ⟨u, l, rfl, pos2, d2, hS2, hT2, ho2, hO2, hn2, hP2⟩
  have hst := stuck_h HI.out hS2
  have hsi := stuck_iff hS2
  have HB := Lib.hid hS2.ob.wb
  have HO := Lib.hid (own_low (show Own w2 w1.heap.size u l from ho2.1) hsz)
  have HOO := Lib.hid hO2
  have HSI := Lib.hid hsi
  clear hS2 hT2 ho2 hO2 hn2 hP2 hsi
  go_wp2_with fail
  refine hst.mono ?_; clear hst; rintro e w3 ⟨s, rfl, hw, hh⟩
  replace hw := hw.symm
  subst hw
  have HS := Lib.hid (hh.trans HSI.out)
  clear hh
  cases s with
  | true =>
    have HT := Lib.hid (HS.out.1 rfl)
    clear HS
    go_wp2_with fail
    go_ret2
    exact ⟨_, l, true, rfl, Own.nil _ _, HOO.out, ⟨fun _ => HT.out, fun _ => rfl⟩, HB.out⟩
  | false =>
    have HT := Lib.hid (fun q => absurd (HS.out.2 q) (by simp) : (_ → False))
    clear HS
    go_wp2_with fail
    go_ret2
    exact ⟨_, l, false, rfl, HO.out, HOO.out, ⟨fun q => (by cases q), fun q => (HT.out q).elim⟩, HB.out⟩
end
end Go.Proofs.YtbaeanpdjdcheaaGreat
