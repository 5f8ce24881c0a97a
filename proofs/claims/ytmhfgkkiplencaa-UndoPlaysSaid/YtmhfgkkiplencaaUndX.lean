/-
  The landed book's Len and Depth over its state; a nil book of texts; what layer 16's own 'do' leaves. The conditions: the book's blocks.
-/
import Derived.Test.YtmhfgkkiplencaaUndI
namespace Go.Proofs.Ytmhfgkkiplencaa
open Go.RowKit Go.Maps
set_option linter.unusedSimpArgs false
set_option linter.unusedVariables false

section
variable {w : World} {B : Nat} {U : List Int} {s : USt} {F : Nat → Prop}
theorem depth_r (h : URep w B U s F) : Calls Try.prog 13 #[.pointer (some ⟨B, 0, none⟩)] w fun e w' => e = .returned (.int .i64 (s.2.length : Int)) ∧ w' = w := by
  obtain ⟨mv, v, lv, h1, h2, _, _, _⟩ := h
  rw [← h2.len]
  exact depth_u h1
theorem len_r (h : URep w B U s F) : Calls Try.prog 12 #[.pointer (some ⟨B, 0, none⟩)] w fun e w' => e = .returned (.int .i64 (s.1.length : Int)) ∧ Below w.heap.size w w' := by
  obtain ⟨mv, v, lv, h1, h2, h3, h4, _⟩ := h
  exact len_u h1 (fun _ _ => rfl) h3.1 h4
/-- Turned elsewhere, it is as it was. -/
theorem URep.turn {w' : World} {G : Nat → Prop} (h : URep w B U s F) (t : Turn G w w') (hn : ∀ j, F j → ¬ G j) : URep w' B U s F := h.keep fun j q => t.block j (h.foot j q) (hn j q)
end
theorem made_n (w : World) : Calls Try.prog 33 #[.pointer none] w fun e w' => e = .returned (.bool false) ∧ w' = w := by
  go_enter Try.func33, Try.ntmps33
  go_wp2_with fail
  go_ret
  exact ⟨rfl, rfl⟩
theorem get_n (t : ByteArray) (w : World) : Calls Try.prog 20 #[.pointer none, .string t] w fun e w' => e = .returned (.tuple #[.bool false, .bool false]) ∧ w' = w := by
  go_enter Try.func20, Try.ntmps20
  go_wp2_with fail
  refine (made_n w).mono ?_; rintro e w1 ⟨rfl, rfl⟩
  go_wp2_with fail
  go_ret2
  exact ⟨rfl, rfl⟩
theorem set_n (t : ByteArray) (b : Bool) (w : World) : Calls Try.prog 21 #[.pointer none, .string t, .bool b] w fun e w' => e = .returned (.int .i64 1) ∧ w' = w := by
  go_enter Try.func21, Try.ntmps21
  go_wp2_with fail
  refine (made_n w).mono ?_; rintro e w1 ⟨rfl, rfl⟩
  go_wp2_with fail
  go_ret
  exact ⟨rfl, rfl⟩
/-- What a call leaves, and what it tells. -/
def udo (s : USt) (d k v : Int) : USt := if d = 0 then uset s k v else if d = 1 then udrop s k else if d = 2 then ubegin s else if d = 3 then ukeep s else uback s
def udoE (s : USt) (d k : Int) : Int := if d = 0 then 0 else if d = 1 then udropE s k else if d = 2 then ubeginE s else uendE s
theorem UPost.from {w W w1 : World} {B : Nat} {U : List Int} {s : USt} {F : Nat → Prop} (hb : Below w.heap.size w W) (h : UPost W B U s F w1) : UPost w B U s F w1 := by
  obtain ⟨F', h1, h2, h3⟩ := h
  exact ⟨F', h1, (Turn.of_below hb).trans h2 fun j q => Or.inl q, fun j q => (h3 j q).imp id fun q => Nat.le_trans hb.size q⟩
set_option maxHeartbeats 2000000 in
theorem do16 {w : World} {B : Nat} {U : List Int} {s : USt} {F : Nat → Prop} (h : URep w B U s F) (d k v : Int) (hkU : k ∈ U) (hk : InR k) (hv : InR v) :
    Calls Try.prog 8 #[.pointer (some ⟨B, 0, none⟩), .agg #[.int .i64 d, .int .i64 k, .int .i64 v]] w fun e w' => e = .returned (.int .i64 (udoE s d k)) ∧ UPost w B U (udo s d k v) F w' := by
  have hb := below1 w (.cells #[.int .i64 d, .int .i64 k, .int .i64 v] 32)
  obtain ⟨x0, x1, x2⟩ : (w.alloc (.cells #[.int .i64 d, .int .i64 k, .int .i64 v] 32)).cell? ⟨w.heap.size, 0, none⟩ = some (.int .i64 d) ∧ (w.alloc (.cells #[.int .i64 d, .int .i64 k, .int .i64 v] 32)).cell? ⟨w.heap.size, 1, none⟩ = some (.int .i64 k) ∧ (w.alloc (.cells #[.int .i64 d, .int .i64 k, .int .i64 v] 32)).cell? ⟨w.heap.size, 2, none⟩ = some (.int .i64 v) := by refine ⟨?_, ?_, ?_⟩ <;> simp [go_sem]
  have h' := h.below hb
  unfold udo udoE
  by_cases h0 : d = 0
  · subst h0
    rw [if_pos rfl, if_pos rfl]
    have hc := set_u h' k v hkU hk hv
    clear h h' hkU hk hv
    go_enter Try.func8, Try.ntmps8
    go_wp2_with fail
    refine hc.mono ?_; rintro e w1 ⟨rfl, hP⟩
    have HP := Lib.hid (UPost.from hb hP)
    clear hc hP x0 x1 x2
    go_wp2_with fail
    go_ret
    exact ⟨rfl, HP.out⟩
  rw [if_neg h0, if_neg h0]
  have e0 : (d == 0) = false := by simpa using h0
  by_cases h1 : d = 1
  · subst h1
    rw [if_pos rfl, if_pos rfl]
    have hc := drop_u h' k hkU hk
    clear h h' hkU hk hv h0
    generalize udropE s k = e at *
    go_enter Try.func8, Try.ntmps8
    go_wp2_with fail
    refine hc.mono ?_; rintro e w1 ⟨rfl, hP⟩
    have HP := Lib.hid (UPost.from hb hP)
    clear hc hP x0 x1 x2
    go_wp2_with fail
    go_ret
    exact ⟨rfl, HP.out⟩
  rw [if_neg h1, if_neg h1]
  have e1 : (d == 1) = false := by simpa using h1
  by_cases h2 : d = 2
  · subst h2
    rw [if_pos rfl, if_pos rfl]
    have hc := begin_u h'
    clear h h' hkU hk hv h0 h1
    generalize ubeginE s = e at *
    go_enter Try.func8, Try.ntmps8
    go_wp2_with fail
    refine hc.mono ?_; rintro e w1 ⟨rfl, hP⟩
    have HP := Lib.hid (UPost.from hb hP)
    clear hc hP x0 x1 x2
    go_wp2_with fail
    go_ret
    exact ⟨rfl, HP.out⟩
  rw [if_neg h2, if_neg h2]
  have e2 : (d == 2) = false := by simpa using h2
  by_cases h3 : d = 3
  · subst h3
    rw [if_pos rfl]
    have hc := keep_u h'
    clear h h' hkU hk hv h0 h1 h2
    generalize uendE s = e at *
    go_enter Try.func8, Try.ntmps8
    go_wp2_with fail
    refine hc.mono ?_; rintro e w1 ⟨rfl, hP⟩
    have HP := Lib.hid (UPost.from hb hP)
    clear hc hP x0 x1 x2
    go_wp2_with fail
    go_ret
    exact ⟨rfl, HP.out⟩
  rw [if_neg h3]
  have e3 : (d == 3) = false := by simpa using h3
  have hc := back_u h'
  clear h h' hkU hk hv h0 h1 h2 h3
  generalize uendE s = e at *
  go_enter Try.func8, Try.ntmps8
  go_wp2_with fail
  refine hc.mono ?_; rintro e w1 ⟨rfl, hP⟩
  have HP := Lib.hid (UPost.from hb hP)
  clear hc hP x0 x1 x2
  go_wp2_with fail
  go_ret
  exact ⟨rfl, HP.out⟩
end Go.Proofs.Ytmhfgkkiplencaa
