/-
  Words, numbers and lines of a text in plain words, without any Go function. No conditions.
-/
import Derived.Test.YtmmjkbjceocpmaaDoorDecM
namespace Go.Proofs.YtmmjkbjceocpmaaDoor
open Go.RowKit
set_option linter.unusedSimpArgs false
set_option linter.unusedVariables false

/-- A place of a text. -/
def OkA (l : List UInt8) (at' : Int) : Prop := 0 ≤ at' ∧ at' ≤ (l.length : Int)
instance instDecOkA (l : List UInt8) (a : Int) : Decidable (OkA l a) := by unfold OkA; infer_instance

/-- Does a text begin with another one? The error's number. -/
def litgo : List UInt8 → List UInt8 → Int
  | _, [] => 0
  | [], _ :: _ => 4
  | a :: s, b :: t => if a = b then litgo s t else 8
def lite (l : List UInt8) (a : Int) (t : List UInt8) : Int := if OkA l a then litgo (l.drop a.toNat) t else 2
def litv (l : List UInt8) (a : Int) (t : List UInt8) : Int := if OkA l a ∧ litgo (l.drop a.toNat) t = 0 then a + t.length else 0
theorem litgo_end (s : List UInt8) : litgo s [] = 0 := by cases s <;> rfl
theorem litgo_short {s t : List UInt8} (h : s = []) (k : Nat) (hk : k < t.length) : litgo s (t.drop k) = 4 := by
  rw [h, List.drop_eq_getElem_cons hk]; rfl
theorem litgo_step {l t : List UInt8} (a k : Nat) (ha : a + k < l.length) (hk : k < t.length) :
    litgo (l.drop (a + k)) (t.drop k) = if l.getD (a + k) 0 = t.getD k 0 then litgo (l.drop (a + (k + 1))) (t.drop (k + 1)) else 8 := by
  rw [List.drop_eq_getElem_cons ha, List.drop_eq_getElem_cons hk]
  have e1 : l.getD (a + k) 0 = l[a + k] := by simp [List.getD, ha]
  have e2 : t.getD k 0 = t[k] := by simp [List.getD, hk]
  rw [e1, e2]
  rfl

/-- A line: all up to the first end of one. -/
def lineb (l : List UInt8) (a : Int) : List UInt8 := if OkA l a ∧ (10 : UInt8) ∈ l.drop a.toNat then (l.drop a.toNat).takeWhile (· != 10) else []
def linen (l : List UInt8) (a : Int) : Int := if OkA l a ∧ (10 : UInt8) ∈ l.drop a.toNat then a + ((l.drop a.toNat).takeWhile (· != 10)).length + 1 else 0
def linee (l : List UInt8) (a : Int) : Int := if OkA l a then (if (10 : UInt8) ∈ l.drop a.toNat then 0 else 4) else 2
theorem line_at {m : List UInt8} {n : Nat} (hn : n < m.length) (h1 : ¬ (10 : UInt8) ∈ m.take n) (h2 : m.getD n 0 = 10) : m.takeWhile (· != 10) = m.take n ∧ (10 : UInt8) ∈ m := by
  have e : m.getD n 0 = m[n] := by simp [List.getD, hn]
  rw [e] at h2
  refine ⟨?_, h2 ▸ List.getElem_mem hn⟩
  induction n generalizing m with
  | zero =>
    cases m with
    | nil => simp at hn
    | cons b r => simp at h2; subst h2; simp
  | succ n ih =>
    cases m with
    | nil => simp at hn
    | cons b r =>
      simp only [List.take_succ_cons, List.mem_cons, not_or] at h1
      have hb : (b != 10) = true := by simp; exact fun q => h1.1 q.symm
      rw [List.takeWhile_cons, hb, List.take_succ_cons]
      simp at hn h2
      have hg : r.getD n 0 = r[n] := by simp [List.getD, hn]
      have := ih hn h1.2 h2 hg
      simp [this]

/-- A digit. -/
def isd (b : UInt8) : Bool := decide (48 ≤ b.toNat) && decide (b.toNat ≤ 57)
/-- Where a numeral's digits begin, and end. -/
def nfirst (l : List UInt8) (a : Nat) : Nat := if l.getD a 0 = 45 ∧ a < l.length then a + 1 else a
def nend (l : List UInt8) (a : Nat) : Nat := nfirst l a + ((l.drop (nfirst l a)).takeWhile isd).length
/-- What Num tells: the number, the place behind it, the error's number. -/
def numt (l : List UInt8) (a : Nat) : List UInt8 := (l.drop a).take (nend l a - a)
def nume (l : List UInt8) (a lo hi : Int) : Int :=
  if OkA l a then
    (if nend l a.toNat = nfirst l a.toNat then (if nend l a.toNat = l.length then 4 else 5)
     else if parsee (numt l a.toNat) 0 = 5 then 5
     else if parsee (numt l a.toNat) 0 = 0 ∧ lo ≤ parsev (numt l a.toNat) 0 ∧ parsev (numt l a.toNat) 0 ≤ hi then 0 else 7)
  else 2
def numv (l : List UInt8) (a lo hi : Int) : Int := if nume l a lo hi = 0 then parsev (numt l a.toNat) 0 else 0
def numk (l : List UInt8) (a lo hi : Int) : Int := if nume l a lo hi = 0 then (nend l a.toNat : Int) else 0
end Go.Proofs.YtmmjkbjceocpmaaDoor
