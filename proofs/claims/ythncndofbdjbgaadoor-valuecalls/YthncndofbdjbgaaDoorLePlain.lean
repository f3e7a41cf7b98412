/-
  Plain facts on numbers written as bytes, lowest first, and read back: what is written in n bytes is read as the number, if it fits. No program and no memory is named here.
-/
import Derived.Test.YthncndofbdjbgaaDoorLenPlain
import Derived.Laws.BitsAllLaws
import Derived.Laws.BytesArg
import Derived.IntWalk
namespace Go.Proofs.YthncndofbdjbgaaDoor
set_option linter.unusedSimpArgs false

/-- How many bytes stand behind the first byte of a counted number. -/
def widthOf (c : Int) : Int := if c = 252 then 2 else if c = 253 then 3 else if c = 254 then 8 else 0

/-- The first byte of the shortest counted form. -/
def firstOf (x : Int) : Int := if x ≤ 250 then x else if x < 65536 then 252 else if x < 16777216 then 253 else 254

/-- The shortest counted form. -/
def form (x : Int) : List Int := firstOf x :: le x (widthOf (firstOf x)).toNat

theorem widthOf_cases (c : Int) : widthOf c = 0 ∨ widthOf c = 2 ∨ widthOf c = 3 ∨ widthOf c = 8 := by
  unfold widthOf; split <;> (try split) <;> (try split) <;> simp

theorem widthOf_small {c : Int} (h : c ≤ 250) : widthOf c = 0 := by
  unfold widthOf; rw [if_neg (by omega), if_neg (by omega), if_neg (by omega)]

theorem form_length (x : Int) : ((form x).length : Int) = 1 + widthOf (firstOf x) := by
  simp only [form, List.length_cons, le_length]
  have := widthOf_cases (firstOf x)
  omega

theorem firstOf_byt {x : Int} (h : 0 ≤ x) : 0 ≤ firstOf x ∧ firstOf x ≤ 255 := by
  unfold firstOf; split <;> (try split) <;> (try split) <;> omega

theorem form_byt {x : Int} (h : 0 ≤ x) : Byt (form x) := Byt.cons (firstOf_byt h).1 (firstOf_byt h).2 (le_byt _ _)

theorem form_length_le (x : Int) : (form x).length ≤ 9 := by
  have := form_length x
  have := widthOf_cases (firstOf x)
  omega

/-- The result of ReadInt: the number, how many bytes, the error. -/
def readInt : List Int → Int × Int × Int
  | [] => (0, 0, 4)
  | c :: r => if c ≤ 250 then (c, 1, 0) else if widthOf c = 0 then (0, 0, 5) else if (r.length : Int) < widthOf c then (0, 0, 4) else (val r (widthOf c).toNat, 1 + widthOf c, 0)

/-- What AppendFixed puts behind b. -/
def fixed (x k : Int) : Option (List Int) := if 1 ≤ k ∧ k ≤ 8 ∧ x < 2 ^ (8 * k.toNat) then some (le x k.toNat) else none

theorem readInt_small {c : Int} {r : List Int} (h : c ≤ 250) : readInt (c :: r) = (c, 1, 0) := by simp [readInt, h]

theorem readInt_bad {c : Int} {r : List Int} (h : ¬ c ≤ 250) (h2 : widthOf c = 0) : readInt (c :: r) = (0, 0, 5) := by simp [readInt, h, h2]

theorem readInt_short {c : Int} {r : List Int} (h : ¬ c ≤ 250) (h2 : widthOf c ≠ 0) (h3 : (r.length : Int) < widthOf c) : readInt (c :: r) = (0, 0, 4) := by simp [readInt, h, h2, h3]

theorem readInt_long {c : Int} {r : List Int} (h : ¬ c ≤ 250) (h2 : widthOf c ≠ 0) (h3 : ¬ (r.length : Int) < widthOf c) : readInt (c :: r) = (val r (widthOf c).toNat, 1 + widthOf c, 0) := by simp [readInt, h, h2, h3]

/-- What was written is read back, whatever stands behind it. -/
theorem readInt_form (x : Int) (h0 : 0 ≤ x) (h1 : x < 18446744073709551616) (r : List Int) : readInt (form x ++ r) = (x, ((form x).length : Int), 0) := by
  rw [form_length]
  unfold form
  rw [List.cons_append]
  by_cases a : x ≤ 250
  · have e : firstOf x = x := by simp [firstOf, a]
    rw [e, readInt_small a, widthOf_small a]; rfl
  · have key : ∀ c k : Int, firstOf x = c → widthOf c = k → 250 < c → 0 < k → x < 2 ^ (8 * k.toNat) → readInt (firstOf x :: (le x (widthOf (firstOf x)).toNat ++ r)) = (x, 1 + widthOf (firstOf x), 0) := by
      intro c k e1 e2 h3 h4 h5
      rw [e1, e2, readInt_long (by omega) (by omega) (by simp [le_length, e2]; omega), e2, val_le_fits x h0 r _ h5]
    by_cases b : x < 65536
    · exact key 252 2 (by simp [firstOf, a, b]) (by decide) (by omega) (by omega) (by simpa using b)
    · by_cases c : x < 16777216
      · exact key 253 3 (by simp [firstOf, a, b, c]) (by decide) (by omega) (by omega) (by simpa using c)
      · exact key 254 8 (by simp [firstOf, a, b, c]) (by decide) (by omega) (by omega) (by simpa using h1)

/-- Each first part of a form, ahead of its end, is too short. -/
theorem readInt_part (x : Int) (i : Nat) (h : i < (form x).length) : (readInt ((form x).take i)).2.2 = 4 := by
  have hl := form_length x
  cases i with
  | zero => simp [readInt]
  | succ i =>
    have hw := widthOf_cases (firstOf x)
    have h0 : widthOf (firstOf x) ≠ 0 := by omega
    have hb : ¬ firstOf x ≤ 250 := fun hh => h0 (widthOf_small hh)
    unfold form
    rw [List.take_succ_cons, readInt_short hb h0 (by simp [le_length]; omega)]

/-- What is read has its shortest form, which is no longer than what was read. -/
theorem readInt_shortest {bs : List Int} (h : Byt bs) {x n : Int} (e : readInt bs = (x, n, 0)) : 0 ≤ x ∧ x < 18446744073709551616 ∧ ((form x).length : Int) ≤ n ∧ n ≤ bs.length := by
  cases bs with
  | nil => simp [readInt] at e
  | cons c r =>
    have hc := h c (by simp)
    by_cases a : c ≤ 250
    · rw [readInt_small a] at e
      simp only [Prod.mk.injEq] at e
      obtain ⟨rfl, rfl, _⟩ := e
      have e1 : firstOf c = c := by simp [firstOf, a]
      rw [form_length, e1, widthOf_small a, List.length_cons]
      omega
    · by_cases b : widthOf c = 0
      · rw [readInt_bad a b] at e; simp at e
      · by_cases d : (r.length : Int) < widthOf c
        · rw [readInt_short a b d] at e; simp at e
        · rw [readInt_long a b d] at e
          simp only [Prod.mk.injEq] at e
          obtain ⟨e1, e2, _⟩ := e
          have hr : Byt r := fun y hy => h y (List.mem_cons_of_mem _ hy)
          have hv := val_bounds hr (widthOf c).toNat
          rw [e1] at hv
          rw [form_length, List.length_cons]
          have hw := widthOf_cases c
          have hf : widthOf (firstOf x) ≤ widthOf c ∧ x < 18446744073709551616 := by
            rcases hw with hw | hw | hw | hw
            · omega
            · rw [hw] at hv ⊢
              have hx : x < 65536 := by simpa using hv.2
              refine ⟨?_, by omega⟩
              by_cases hq : x ≤ 250
              · have : firstOf x = x := by simp [firstOf, hq]
                rw [this, widthOf_small hq]; omega
              · have : firstOf x = 252 := by simp [firstOf, hq, hx]
                rw [this]; decide
            · rw [hw] at hv ⊢
              have hx : x < 16777216 := by simpa using hv.2
              refine ⟨?_, by omega⟩
              by_cases hq : x ≤ 250
              · have : firstOf x = x := by simp [firstOf, hq]
                rw [this, widthOf_small hq]; omega
              · by_cases hq2 : x < 65536
                · have : firstOf x = 252 := by simp [firstOf, hq, hq2]
                  rw [this]; decide
                · have : firstOf x = 253 := by simp [firstOf, hq, hq2, hx]
                  rw [this]; decide
            · rw [hw] at hv ⊢
              have hx : x < 18446744073709551616 := by simpa using hv.2
              have := widthOf_cases (firstOf x)
              exact ⟨by omega, hx⟩
          omega

theorem readInt_err {bs : List Int} {x n e : Int} (h : readInt bs = (x, n, e)) (he : e ≠ 0) : x = 0 ∧ n = 0 := by
  cases bs with
  | nil => simp [readInt] at h; omega
  | cons c r =>
    by_cases a : c ≤ 250
    · rw [readInt_small a] at h; simp at h; omega
    · by_cases b : widthOf c = 0
      · rw [readInt_bad a b] at h; simp at h; omega
      · by_cases d : (r.length : Int) < widthOf c
        · rw [readInt_short a b d] at h; simp at h; omega
        · rw [readInt_long a b d] at h; simp at h; omega

end Go.Proofs.YthncndofbdjbgaaDoor
