/-
  What SameTexts of the statements' helpers returns for any texts: whether they are the same. It writes nothing. Conditions: none but that the slices can be read.
-/
import Derived.Test.YtjbgkgkgpigikaaDoorTMem
import Derived.BigQuiet
namespace Go.Proofs.YtjbgkgkgpigikaaDoor
open Go.RowKit
set_option linter.unusedVariables false
set_option linter.unusedSimpArgs false

theorem txts_ne {xs ys : List ByteArray} (h : xs.length ≠ ys.length) : decide (xs = ys) = false := by
  simp only [decide_eq_false_iff_not]
  intro e
  rw [e] at h
  exact h rfl
theorem txts_ne_at {xs ys : List ByteArray} (i : Nat) (h : xs.getD i ByteArray.empty ≠ ys.getD i ByteArray.empty) : decide (xs = ys) = false := by
  simp only [decide_eq_false_iff_not]
  intro e
  rw [e] at h
  exact h rfl
theorem txts_eq {xs ys : List ByteArray} (h : xs.length = ys.length) (k : ∀ j, j < xs.length → xs.getD j ByteArray.empty = ys.getD j ByteArray.empty) : decide (xs = ys) = true := by
  simp only [decide_eq_true_eq]
  apply List.ext_getElem h
  intro j h1 h2
  have := k j h1
  simpa [List.getElem?_eq_getElem h1, List.getElem?_eq_getElem h2] using this

theorem str_ne {x y : ByteArray} (h : x ≠ y) : (x.toList == y.toList) = false := by
  rw [beq_eq_false_iff_ne]
  intro e
  apply h
  apply ByteArray.ext
  apply Array.ext'
  rwa [ByteArray.toList_eq, ByteArray.toList_eq] at e


end Go.Proofs.YtjbgkgkgpigikaaDoor
