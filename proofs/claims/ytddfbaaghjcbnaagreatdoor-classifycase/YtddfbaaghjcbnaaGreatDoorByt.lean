/-
  Lists of numbers that are bytes. No program and no memory is named here.
-/
import Derived.Laws.BitsAllLaws
import Derived.Laws.BytesArg
import Derived.IntWalk
namespace Go.Proofs.YtddfbaaghjcbnaaGreatDoor

/-- Every number of the list is a byte's. -/
def Byt (bs : List Int) : Prop := ∀ x ∈ bs, 0 ≤ x ∧ x ≤ 255

theorem Byt.nil : Byt [] := by intro x hx; cases hx
theorem Byt.app {a b : List Int} (h : Byt a) (k : Byt b) : Byt (a ++ b) := by
  intro x hx
  rcases List.mem_append.1 hx with h1 | h1
  · exact h x h1
  · exact k x h1
theorem Byt.one {x : Int} (h0 : 0 ≤ x) (h1 : x ≤ 255) : Byt [x] := by
  intro y hy
  simp at hy
  omega
theorem Byt.cons {x : Int} {r : List Int} (h0 : 0 ≤ x) (h1 : x ≤ 255) (h : Byt r) : Byt (x :: r) := Byt.app (Byt.one h0 h1) h
theorem Byt.left {a b : List Int} (h : Byt (a ++ b)) : Byt a := fun x hx => h x (List.mem_append.2 (.inl hx))
theorem Byt.right {a b : List Int} (h : Byt (a ++ b)) : Byt b := fun x hx => h x (List.mem_append.2 (.inr hx))
theorem Byt.at {bs : List Int} (h : Byt bs) (i : Nat) : 0 ≤ bs[i]?.getD 0 ∧ bs[i]?.getD 0 ≤ 255 := by
  rcases Nat.lt_or_ge i bs.length with hi | hi
  · simp only [List.getElem?_eq_getElem hi, Option.getD_some]
    exact h _ (List.getElem_mem hi)
  · simp [List.getElem?_eq_none hi]
theorem Byt.drop {bs : List Int} (h : Byt bs) (n : Nat) : Byt (bs.drop n) := fun x hx => h x (List.mem_of_mem_drop hx)
theorem Byt.take {bs : List Int} (h : Byt bs) (n : Nat) : Byt (bs.take n) := fun x hx => h x (List.mem_of_mem_take hx)

end Go.Proofs.YtddfbaaghjcbnaaGreatDoor
