/-
  What the document's own Text (gavelkindref06) is.
-/
import Derived.Test.YtmmjkbjceocpmaaDoorRefH
import Derived.Test.YtmmjkbjceocpmaaDoorDecM
import Derived.Test.YtmmjkbjceocpmaaDoorWideF2
import Derived.Test.YtmmjkbjceocpmaaDoorRatK
import Derived.Deep.LoopGhost
import Derived.Deep.DeepCutAuto
import Derived.Deep.RegionWith
import Derived.Laws.IdiomStrings
import Derived.Laws.Concat
namespace Go.Proofs.YtmmjkbjceocpmaaDoor
open Go.RowKit
set_option linter.unusedSimpArgs false
set_option linter.unusedVariables false

/-- A fact that 'apply Exists.intro' does not open. -/
structure Wrap6 (p : Prop) : Prop where out : p
/-- A byte put ahead of a text. -/
theorem str_cons (b : UInt8) (l : List UInt8) (h : l.length ≤ 1000000) (w : World) : (Op.stringOp .add ⟨#[b]⟩ (bs l)).run Tryd.prog w = .ok (.string (bs (b :: l))) w := by
  rw [run_string_add_sum, bs_cons]
  rw [bs_size]; show 1 + _ ≤ _; omega
/-- The string of one byte. -/
theorem str_one (z : Int) (hz : 0 ≤ z ∧ z ≤ 9) (w : World) :
    (convert 66 9 (.slice (some ⟨w.heap.size, 0, none⟩) 1 1)).run Tryd.prog (w.alloc (.cells #[.int .u8 (48 + z)] 5)) = .ok (.string ⟨#[UInt8.ofNat (48 + z.toNat)]⟩) (w.alloc (.cells #[.int .u8 (48 + z)] 5)) := by
  have := run_convert_bytes_back (P := Tryd.prog) (w.alloc (.cells #[.int .u8 (48 + z)] 5)) 66 9 5 ⟨w.heap.size, 0, none⟩ 1 [UInt8.ofNat (48 + z.toNat)] Tryd.underlying66 Tryd.underlying5 Tryd.underlying9 (by
    intro j hj
    simp at hj
    subst hj
    have e : (((UInt8.ofNat (48 + z.toNat)).toNat : Nat) : Int) = 48 + z := by
      rw [UInt8.toNat_ofNat']; omega
    simp [go_sem, Addr.add]
    omega)
  exact this
/-- What holds at the head of the first loop: so many noughts are put ahead. -/
def TxA (D : List Int) (d : Nat) (w : World) (Lk : List (Nat × Value × Value)) (g : Nat) (v : Value) (wr : World) : Prop := Wrap6 <|
  ∃ j : Nat, g = d + 1 - (D.length + j) ∧ (j = 0 ∨ D.length + j ≤ d + 1) ∧ Sl wr v (D ++ List.replicate j 0) ∧ Keeps w wr Lk

/-- What holds at the head of the second loop: the text of the lowest digits. -/
def TxB (M : List Int) (d : Nat) (w w0 : World) (Lk : List (Nat × Value × Value)) (g : Nat) (o i : Value) (wr : World) : Prop := Wrap6 <|
  ∃ k : Nat, g = M.length - k ∧ k ≤ M.length ∧ i = .int .i64 (k : Int) ∧ o = .string (bs (dtxt M d k)) ∧ Keeps w wr Lk ∧ Below w0.heap.size w0 wr

set_option maxHeartbeats 4000000 in
set_option maxRecDepth 100000 in
theorem r6text_any (v : Value) (x : Int) (d : Nat) (w : World) (hv : Big w v x) (hd : d ≤ 6) (hl : (digs x.natAbs).length ≤ 600) :
    Calls Tryd.prog 24 #[v, .int .i64 (d : Int)] w fun e w' => e = .returned (.string (bs (dtext x d))) ∧ Below w.heap.size w w' := by
  have hdg := digs_ok x.natAbs
  obtain ⟨u, rfl, hu⟩ := hv
  obtain ⟨a, c, rfl⟩ := hu.form
  have HT : Hid (dtext x d = if decide (x < 0) then 45 :: dtxt (padd (digs x.natAbs) d) d (padd (digs x.natAbs) d).length else dtxt (padd (digs x.natAbs) d) d (padd (digs x.natAbs) d).length) := by
    show _ = _
    unfold dtext
    by_cases h : x < 0
    · rw [if_pos h, if_pos (by simpa using h)]
    · rw [if_neg h, if_neg (by simpa using h)]
  generalize dtext x d = T at *
  generalize decide (x < 0) = s at *
  generalize digs x.natAbs = D at *
  have H0 : Hid (TxA D d w [(w.heap.size, .bool s, .slice a D.length c)] (d + 1 - D.length) (.slice a D.length c) (w.alloc (.cells #[.bool s, .slice a D.length c] 56))) :=
    ⟨⟨0, rfl, Or.inl rfl, by rw [List.replicate_zero, List.append_nil]; exact hu.alloc _, (Keeps.start w).new _ _ _⟩⟩
  have HD := Lib.hid hdg
  clear hdg hu
  go_enter Tryd.func24, Tryd.ntmps24
  go_wp2_with fail
  go_loopg [5] (d + 1 - D.length) (fun g v wr => TxA D d w [(w.heap.size, .bool s, .slice a D.length c)] g v wr)
  case atStart => exact H0.out
  case round =>
    clear H0
    obtain ⟨j, rfl, hj, hs, hb⟩ := hrel.out
    clear hrel
    obtain ⟨a', c', rfl, hc1, hc2, hR⟩ := hs
    have hlen : (D ++ List.replicate j 0).length = D.length + j := by simp
    have hdm := padd_digs HD.out j
    have hpd := padd_app D j d
    generalize hM : D ++ List.replicate j 0 = M at *
    have HM := Lib.hid (And.intro hM (And.intro hlen (And.intro hdm hpd)))
    by_cases hle : D.length + j ≤ d
    · have i0 : (M.length : Int) ≤ (d : Int) := by omega
      have i1 : M.length ≤ 700 := by omega
      have HR := Lib.hid hR; have HC := Lib.hid (And.intro hc1 hc2)
      clear hR hc1 hc2 hM hlen hdm hpd
      go_wp2_with (first
        | (at_builtin; refine wp_cat (wr.alloc (.cells #[] 3)) rfl (.tmp 14) (.tmp 15) rfl wr.heap.size _ [] M a' c' rfl (Own.lit wr) rfl (HR.out.alloc _) HC.out.2 (by simp; omega) (by simp) ?_; intro v7 w7 hown7 hb7; simp only [List.nil_append] at hown7)
        | (at_builtin; refine wp_push w7 rfl (.tmp 16) (.tmp 17) rfl wr.heap.size _ M 0 rfl hown7 rfl (by omega) (Nat.le_trans (by simp) hb7.size) ?_; intro v8 w8 hown8 hb8))
      go_roundg (d + 1 - (D.length + (j + 1)))
      case measure => omega
      case rel =>
        have e : D ++ List.replicate (j + 1) 0 = M ++ [0] := by rw [List.replicate_succ', ← List.append_assoc, HM.out.1]
        have k1 := ((Below.refl _ wr).alloc (Nat.le_refl _) (.cells #[] 3)).trans hb7
        exact ⟨⟨j + 1, rfl, Or.inr (by omega), by rw [e]; exact hown8.sl (by rw [← e]; exact digs_in (padd_digs HD.out _)), hb.below (k1.trans hb8)⟩⟩
    · have i0 : ¬ M.length ≤ d := by omega
      have HR := Lib.hid hR; have HM' := Lib.hid hdm
      have hP : Hid (M = padd D d) := HM.out.2.2.2 (by omega)
      have H1 : Hid (TxB M d w wr [(w.heap.size, .bool s, .slice a D.length c)] M.length (.string (bs [])) (.int .i64 0) wr) := ⟨⟨0, rfl, Nat.zero_le _, rfl, rfl, hb, Below.refl _ _⟩⟩
      have hM5 : M.length ≤ 700 := by rcases hj with h | h <;> omega
      clear hM hlen hdm hpd hc1 hc2 hR hb hj
      go_wp2_with fail
      go_loopg [6, 7] M.length (fun g o i wx => TxB M d w wr [(w.heap.size, .bool s, .slice a D.length c)] g o i wx)
      case atStart => exact H1.out
      case round =>
        clear H1
        obtain ⟨k, rfl, hk, rfl, rfl, hb, hb2⟩ := hrel.out
        clear hrel
        by_cases hlt : k < M.length
        · obtain ⟨b, off, rfl, hc⟩ := (HR.out.below hb2).2 k hlt
          have hz : 0 ≤ M.getD k 0 ∧ M.getD k 0 ≤ 9 := by rw [getD_lt _ _ hlt]; exact HM'.out _ (List.getElem_mem hlt)
          have HK := Lib.hid (dtxt_step M d k)
          generalize M.getD k 0 = z at *
          have z1 : wrap64 (48 + z) = 48 + z := by unfold wrap64; omega
          have z2 : IntKind.u8.wrap (48 + z) = 48 + z := by rw [IntKind.wrap_u8]; omega
          have i1 : (0 : Int) ≤ (k : Int) := by omega
          have i2 : (k : Int) < (M.length : Int) := by omega
          have hl1 := dtxt_len M d k
          have hkl : k ≤ 700 := by omega
          have hone := str_one z hz wr
          generalize UInt8.ofNat (48 + z.toNat) = ch at *
          have hN : Hid (k = d ∧ 0 < d ∨ ¬ (k = d ∧ 0 < d)) := Decidable.em _
          rcases hN.out with hp | hp
          · have hc1 := str_cons 46 (dtxt M d k) (by omega)
            have hc2 := str_cons ch (46 :: dtxt M d k) (by simp; omega)
            rw [if_pos hp] at HK
            obtain ⟨rfl, hp2⟩ := hp
            go_wp2_with fail
            go_roundg (M.length - (k + 1))
            case measure => omega
            case rel => exact ⟨⟨k + 1, rfl, by omega, by go_num, by rw [HK.out], hb.alloc _, hb2.alloc hb2.size _⟩⟩
          · have hc2 := str_cons ch (dtxt M d k) (by omega)
            rw [if_neg hp] at HK
            by_cases hkd : k = d
            · have hd0 : d = 0 := by omega
              subst hkd
              subst hd0
              rw [Nat.add_zero] at hc
              have i3 : 0 < M.length := hlt
              go_wp2_with fail
              go_roundg (M.length - 1)
              case measure => omega
              case rel => exact ⟨⟨1, rfl, by omega, by go_num, by rw [← HK.out], hb.alloc _, hb2.alloc hb2.size _⟩⟩
            · have hkd' : ((k : Int) == (d : Int)) = false := by simp; omega
              go_wp2_with fail
              go_roundg (M.length - (k + 1))
              case measure => omega
              case rel => exact ⟨⟨k + 1, rfl, by omega, by go_num, by rw [HK.out], hb.alloc _, hb2.alloc hb2.size _⟩⟩
        · obtain rfl : k = M.length := by omega
          have hT := HT.out
          rw [← hP.out] at hT
          obtain ⟨x0, x1, x2⟩ := hb.at0
          have hl1 := dtxt_len M d M.length
          clear i0 hle HT hP HM
          cases s
          · have HT := Lib.hid hT
            clear hT
            go_wp2_with fail
            go_ret
            exact ⟨by rw [HT.out]; rfl, hb.1⟩
          · have hc1 := str_cons 45 (dtxt M d M.length) (by omega)
            have HT := Lib.hid hT
            clear hT
            go_wp2_with fail
            go_ret
            exact ⟨by rw [HT.out]; rfl, hb.1⟩
end Go.Proofs.YtmmjkbjceocpmaaDoor
