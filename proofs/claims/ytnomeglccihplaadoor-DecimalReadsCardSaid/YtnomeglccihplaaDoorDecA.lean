/-
  Rows of bytes: what they read as; an append to a slice that is full, as a step of a region that draws. What decimal's own 'pointed' answers. No conditions besides.
-/
import Derived.Test.YtnomeglccihplaaDoorRowG
import Derived.Test.YtnomeglccihplaaDoorDecV
import Derived.Deep.RegionLawGrows
import Derived.Deep.RegionHeld3
import Derived.Deep.DeepCutAuto
namespace Go.Proofs.YtnomeglccihplaaDoor
open Go.RowKit
set_option linter.unusedSimpArgs false
set_option linter.unusedVariables false

/-- A row of bytes, cell by cell. -/
def byv (l : List UInt8) : List Value := l.map (fun b => Value.int .u8 (b.toNat : Int))
theorem byv_app (a b : List UInt8) : byv a ++ byv b = byv (a ++ b) := by simp [byv]
theorem byv_len (l : List UInt8) : (byv l).length = l.length := by simp [byv]
theorem byv_take (l : List UInt8) (k : Nat) : (byv l).take k = byv (l.take k) := by simp [byv]
theorem byv_drop (l : List UInt8) (k : Nat) : (byv l).drop k = byv (l.drop k) := by simp [byv]
theorem byv_one (l : List UInt8) : ∀ u ∈ byv l, u.oneCell' = true := by
  intro u hu
  obtain ⟨z, _, rfl⟩ := List.mem_map.1 hu
  rfl
theorem u8_info : (Tryd.prog.info? 5).map (fun i => (i.zero, i.size, i.bytes)) = some (some (.int .u8 0), 1, 1) := by kernel_rfl
theorem SlC.full {w : World} {b off cap n size k : Nat} {cs : List Value} (h : SlC w (.slice (some ⟨b, off, none⟩) n cap) size n cs) (hk : k ≤ n) : SlC w (.slice (some ⟨b, off, none⟩) k k) size k (cs.take (k * size)) := by
  obtain ⟨a, c, h1, h2, h3, h4, h5⟩ := h.take hk
  injection h1 with e1 e2 e3
  exact ⟨_, _, rfl, Nat.le_refl _, fun q => by (cases q), h4, by rw [e1]; exact h5⟩
theorem SlC.drew {w : World} {v : Value} {size n : Nat} {cs : List Value} (h : SlC w v size n cs) : SlC w.drew v size n cs := h.below (Below.refl _ _).drew

section
variable {P : Program} {w : World}
/-- append, to a slice that is full, of a slice that is not empty: at a step of a region that draws its order. -/
theorem step_grow {ops : Array Oper} {o : Oper} {a : Act} {K : Act → World → Prop} {Q : Exit → Act → World → Prop} {E : Prop} (hgd : o.guard = none) (s x : Operand) (t : TypeId)
    (ho : o.op = .call { callee := .builtin .append, args := #[s, x], argTypes := #[t, t] })
    (e : TypeId) (size bytes : Nat) (z : Value) (ht : P.underlying t = some (.slice e)) (hi : (P.info? e).map (fun i => (i.zero, i.size, i.bytes)) = some (some z, size, bytes)) (hzs : z.cells.size = size) (hsz : 0 < size)
    (ad : Addr) (n : Nat) (xs : List Value) (hs : a.eval s = .slice (some ad) n n) (hold : SlC w (.slice (some ad) n n) size n xs)
    (y : Value) (m : Nat) (news : List Value) (hx : a.eval x = y) (hr : SlC w y size m news) (h1 : ∀ u ∈ news, u.oneCell' = true) (hm : 0 < m)
    (h63 : n + m ≤ 1000000000) (hby : bytes ≤ 10000)
    (h : ∀ v' w', w'.ownsRow w.heap.size e size v' (n + m) (xs ++ news) → Below w.heap.size w w' → w.grownBy w' none → K (a.put o.dst v') w') :
    if Region.wanted o (yielded ops a.tmps) = true then Oper.wp P o a w K Q else E := by
  obtain ⟨i, hi, hz, hsize, hbyt⟩ := info_parts hi
  obtain ⟨A, c, rfl, hc, hc0, hl, hread⟩ := hr
  obtain ⟨A', c', e1, hc', hc0', hl', hread'⟩ := hold
  injection e1 with e1 e2 e3
  subst e1 e3
  have hbytes : (n + m) * bytes ≤ 140737488355328 := by
    have := Nat.mul_le_mul h63 hby
    omega
  rcases A with _ | ad'
  · have := hc0 rfl; omega
  · refine step_append_grows hgd s x t ho e i z size bytes ht hi hz hsize hbyt hzs hsz (some ad) n n xs hs (fun q => by (cases q)) hl' ?_ ad' m c news hx hl ?_ h1 (by omega) (by unfold maxLen; omega) hbytes ?_
    · intro b hb j u hj
      cases hb
      have hjl : j < xs.length := by
        rcases Nat.lt_or_ge j xs.length with q | q
        · exact q
        · rw [List.getElem?_eq_none q] at hj; cases hj
      obtain ⟨b, off, hh, hcell⟩ := hread' j hjl
      cases hh
      rw [hj] at hcell
      by_cases h0 : j = 0
      · subst h0; simpa [Addr.add] using hcell
      · simpa [Addr.add, h0] using hcell
    · intro j u hj
      have hjl : j < news.length := by
        rcases Nat.lt_or_ge j news.length with q | q
        · exact q
        · rw [List.getElem?_eq_none q] at hj; cases hj
      obtain ⟨b, off, hh, hcell⟩ := hread j hjl
      cases hh
      rw [hj] at hcell
      by_cases h0 : j = 0
      · subst h0; simpa [Addr.add] using hcell
      · simpa [Addr.add, h0] using hcell
    · intro v' w' hown' hgrow
      exact h v' w' hown' ((Below.refl _ _).grown hgrow (Nat.le_refl _) (fun k hk => by (cases hk))) hgrow
end
theorem own_mono {w : World} {base base' : Nat} {e : TypeId} {size : Nat} {v : Value} {n : Nat} {xs : List Value} (h : w.ownsRow base e size v n xs) (hb : base' ≤ base) : w.ownsRow base' e size v n xs := by
  refine ⟨h.1, ?_⟩
  rcases h.2 with q | ⟨g, cap, cur, h1, h2, h3⟩
  · exact Or.inl q
  · exact Or.inr ⟨g, cap, cur, h1, Nat.le_trans hb h2, h3⟩
theorem one_dot (w : World) : SlC (w.alloc (.cells #[.int .u8 46] 5)) (.slice (some ⟨w.heap.size, 0, none⟩) 1 1) 1 1 (byv [46]) :=
  ownsRow_slc (World.ownsRow_lit (base := w.heap.size) (e := 5) (size := 1) w #[.int .u8 46] 1 (Nat.le_refl _) (by unfold maxLen; omega) rfl)

set_option maxHeartbeats 4000000 in
set_option maxRecDepth 100000 in
theorem d_pointed (B cap d : Nat) (l : List UInt8) (w : World) (hS : SlC w (.slice (some ⟨B, 0, none⟩) l.length cap) 1 l.length (byv l)) (hd : d < l.length) (hl : l.length ≤ 1000000) :
    Calls Tryd.prog 39 #[.slice (some ⟨B, 0, none⟩) l.length cap, .int .i64 (d : Int)] w fun e w' => ∃ u, e = .returned u ∧ SlC w' u 1 (ptd l d).length (byv (ptd l d)) ∧ Below w.heap.size w w' := by
  by_cases h0 : d = 0
  · subst h0
    have e : ptd l 0 = l := if_pos rfl
    rw [e]
    have HS := Lib.hid hS; clear hS
    go_enter Tryd.func39, Tryd.ntmps39
    go_wp2_with fail
    go_ret
    exact ⟨_, rfl, HS.out, Below.refl _ _⟩
  · obtain ⟨k, hk⟩ : ∃ k, l.length = k + d := ⟨l.length - d, by omega⟩
    have e : ptd l d = l.take k ++ 46 :: l.drop k := by unfold ptd; rw [if_neg h0, show l.length - d = k by omega]
    rw [e]
    have hcap : l.length ≤ cap := by obtain ⟨_, _, e1, h, _⟩ := hS; injection e1 with _ _ e3; subst e3; exact h
    have HF := Lib.hid (hS.full (k := k) (by omega))
    have HD := Lib.hid (hS.drop (k := k) (by omega))
    have g0 : ((d : Int) == 0) = false := by simpa using h0
    have g1 : wrap64 ((l.length : Int) - (d : Int)) = (k : Int) := by unfold wrap64; omega
    have g2 : (0 : Int) ≤ (k : Int) := by omega
    have g3 : (k : Int) ≤ (cap : Int) := by omega
    have g4 : (k : Int) ≤ (l.length : Int) := by omega
    have hck : ¬ cap = k := by omega
    have HCK := Lib.hid hck
    have HK := Lib.hid hk; have HL := Lib.hid hl; have HDD := Lib.hid hd
    simp only [Nat.mul_one, byv_take, byv_drop, Nat.zero_add] at HF HD
    have KB0 : Hid (Below w.heap.size w ((w.alloc (.cells #[.int .u8 46] 5)).drew)) := below1d w _
    have N0 := Lib.hid ((one_dot w).drew)
    clear hS hk hl hd e hck
    go_enter Tryd.func39, Tryd.ntmps39
    go_wp2_with fail
    go_region_held3 (fun _ => True) (trivial)
      (first
        | (refine step_grow rfl (.tmp 16) (.tmp 17) 63 rfl 5 1 1 (.int .u8 0) Tryd.underlying63 u8_info rfl (by omega) ⟨B, 0, none⟩ k (byv (l.take k)) (by simp [Act.eval, Act.put]) (HF.out.below KB0.out) (.slice (some ⟨w.heap.size, 0, none⟩) 1 1) 1 (byv [46]) (by simp [Act.eval, Act.put]) N0.out (byv_one _) (by omega) (by have := HK.out; have := HL.out; omega) (by omega) ?_; intro v1 w1 hown1' hb1 hg1; have KB1 := Lib.hid (KB0.out.trans (hb1.mono KB0.out.size)); have own1 := Lib.hid (own_mono hown1' KB0.out.size); clear hown1' hb1 hg1)
        | (refine step_app rfl (.tmp 18) (.tmp 21) 63 rfl w.heap.size 5 1 1 (.int .u8 0) Tryd.underlying63 u8_info rfl (by omega) v1 (k + 1) (byv (l.take k) ++ byv [46]) (by simp [Act.eval, Act.put]) own1.out (.slice (some ⟨B, k, none⟩) (l.length - k) (cap - k)) (l.length - k) (byv (l.drop k)) (by simp [Act.eval, Act.put]; intro q; exact absurd q HCK.out) (HD.out.below KB1.out) (byv_one _) (by have := HK.out; have := HL.out; omega) (by omega) KB1.out.size ?_; intro v2 w2 hown2' hb2 hg2; have KB2 := Lib.hid (KB1.out.trans hb2); have own2 := Lib.hid hown2'; clear hown2' hb2 hg2))
    all_goals go_wp2_with fail
    all_goals go_ret
    all_goals refine ⟨v2, rfl, ?_, KB2.out⟩
    all_goals
      have hq := ownsRow_slc own2.out
      rw [byv_app, byv_app, List.append_assoc] at hq
      have e : min k l.length + (l.length - k + 1) = k + 1 + (l.length - k) := by have := HK.out; omega
      rw [e]
      exact hq
end Go.Proofs.YtnomeglccihplaaDoor
