/-
  Rows as plain things: the bytes of a text row and of a binary row, which values may be of them. No program and no memory is named here.
-/
import Derived.Test.YtkcblnojgonblaaGreatDoorBitR
import Derived.Test.YtkcblnojgonblaaGreatDoorVaBy3
import Derived.Test.YtkcblnojgonblaaGreatDoorMTm
namespace Go.Proofs.YtkcblnojgonblaaGreatDoor
open Go.RowKit
set_option linter.unusedVariables false
set_option linter.unusedSimpArgs false

/-- A value in a text row. -/
def tx1 (v : Va) : List Int := if v.k = 0 then [251] else vaB v 253
def rtB (l : List Va) : List Int := l.flatMap tx1
def rtOk (l : List Va) : Bool := l.all fun v => vOk v 253 false
/-- A value in a binary row. -/
def bn1 (p : Va × Ty) : List Int := if p.1.k = 0 then [] else vaB p.1 p.2.t
def rbB (l : List (Va × Ty)) : List Int := l.flatMap bn1
def rbOk (l : List (Va × Ty)) : Bool := l.all fun p => vOk p.1 p.2.t p.2.un
/-- Which bit is set. -/
def nb (l : List Va) (j : Nat) : Bool := decide (2 ≤ j) && (match l[j - 2]? with | some v => v.k == 0 | none => false)
/-- The bits of a row. -/
structure Isn (l : List Va) (nl : List Int) : Prop where
  len : nl.length = (l.length + 9) / 8
  byt : Byt nl
  bits : ∀ j, bit nl j = nb l j
theorem Isn.one {l : List Va} {a b : List Int} (h : Isn l a) (k : Isn l b) : a = b := bit_ext h.byt k.byt (by rw [h.len, k.len]) (fun j _ => by rw [h.bits, k.bits])

theorem tx1_len (v : Va) : (tx1 v).length ≤ v.t.size + 20 := by
  unfold tx1
  split
  · simp
  · exact vaB_len v 253
theorem bn1_len (p : Va × Ty) : (bn1 p).length ≤ p.1.t.size + 20 := by
  unfold bn1
  split
  · simp
  · exact vaB_len p.1 p.2.t
theorem rtB_len : ∀ {l : List Va}, (∀ v ∈ l, v.t.size ≤ 3000) → (rtB l).length ≤ 3020 * l.length
  | [], _ => by simp [rtB]
  | v :: l, h => by
    have h1 := tx1_len v
    have h2 := h v (by simp)
    have ih := rtB_len (l := l) (fun x hx => h x (by simp [hx]))
    show (tx1 v ++ rtB l).length ≤ _
    rw [List.length_append, List.length_cons]
    omega
theorem rbB_len : ∀ {l : List (Va × Ty)}, (∀ p ∈ l, p.1.t.size ≤ 3000) → (rbB l).length ≤ 3020 * l.length
  | [], _ => by simp [rbB]
  | v :: l, h => by
    have h1 := bn1_len v
    have h2 := h v (by simp)
    have ih := rbB_len (l := l) (fun x hx => h x (by simp [hx]))
    show (bn1 v ++ rbB l).length ≤ _
    rw [List.length_append, List.length_cons]
    omega
theorem take_one {α : Type} {l : List α} {j : Nat} {v : α} (h : l[j]? = some v) : l.take (j + 1) = l.take j ++ [v] := by
  rw [List.take_add_one, h]; rfl
theorem rtB_next {l : List Va} {j : Nat} {v : Va} (h : l[j]? = some v) : rtB (l.take (j + 1)) = rtB (l.take j) ++ tx1 v := by
  rw [take_one h]
  unfold rtB
  rw [List.flatMap_append]
  simp
theorem rbB_next {l : List (Va × Ty)} {j : Nat} {v : Va × Ty} (h : l[j]? = some v) : rbB (l.take (j + 1)) = rbB (l.take j) ++ bn1 v := by
  rw [take_one h]
  unfold rbB
  rw [List.flatMap_append]
  simp
theorem rtOk_next {l : List Va} {j : Nat} {v : Va} (h : l[j]? = some v) (hq : rtOk (l.take j) = true) (hv : vOk v 253 false = true) : rtOk (l.take (j + 1)) = true := by
  rw [take_one h]
  unfold rtOk at hq ⊢
  rw [List.all_append, hq]
  simp [hv]
theorem rtOk_no {l : List Va} {j : Nat} {v : Va} (h : l[j]? = some v) (hv : vOk v 253 false = false) : rtOk l = false := by
  unfold rtOk
  rw [List.all_eq_false]
  exact ⟨v, List.mem_of_getElem? h, by rw [hv]; decide⟩
theorem rbOk_next {l : List (Va × Ty)} {j : Nat} {v : Va × Ty} (h : l[j]? = some v) (hq : rbOk (l.take j) = true) (hv : vOk v.1 v.2.t v.2.un = true) : rbOk (l.take (j + 1)) = true := by
  rw [take_one h]
  unfold rbOk at hq ⊢
  rw [List.all_append, hq]
  simp [hv]
theorem rbOk_no {l : List (Va × Ty)} {j : Nat} {v : Va × Ty} (h : l[j]? = some v) (hv : vOk v.1 v.2.t v.2.un = false) : rbOk l = false := by
  unfold rbOk
  rw [List.all_eq_false]
  exact ⟨v, List.mem_of_getElem? h, by rw [hv]; decide⟩
theorem ok_some {v : Va} {t : Int} {un : Bool} (h : vOk v t un = true) (hk : ¬ v.k = 0) : bOk v t un = true := by
  unfold bOk
  rw [h]
  have : (v.k == 0) = false := by simpa using hk
  rw [this]
  rfl
theorem nb_next {l : List Va} {i : Nat} {v : Va} (h : l[i]? = some v) (j : Nat) : nb (l.take (i + 1)) j = (nb (l.take i) j || ((v.k == 0) && decide (j = i + 2))) := by
  unfold nb
  have hi := (List.getElem?_eq_some_iff.1 h).1
  by_cases h2 : 2 ≤ j
  · simp only [h2, decide_true, Bool.true_and]
    by_cases hj : j = i + 2
    · subst hj
      rw [show i + 2 - 2 = i by omega, List.getElem?_take_of_lt (by omega), h, List.getElem?_take_eq_none (by omega)]
      simp
    · rcases Nat.lt_or_ge (j - 2) i with q | q
      · rw [List.getElem?_take_of_lt (by omega), List.getElem?_take_of_lt q]
        simp [hj]
      · rw [List.getElem?_take_eq_none (by omega), List.getElem?_take_eq_none q]
        simp [hj]
  · have : ¬ j = i + 2 := by omega
    simp [h2, this]

end Go.Proofs.YtkcblnojgonblaaGreatDoor
