/-
  What ReadText and SameBytes return for any bytes. They write nothing. Conditions: none but that the slices can be read.
-/
import Derived.Test.YtgdjeooiimjjcaaDoorLeIntsRef
import Derived.Test.YtgdjeooiimjjcaaDoorSameB
import Derived.Lib.BytesEntry
namespace Go.Proofs.YtgdjeooiimjjcaaDoor
open Go.RowKit
set_option linter.unusedVariables false
set_option linter.unusedSimpArgs false

/-- The result of ReadText: the text, how many bytes, the error. -/
def readText (bs : List Int) : ByteArray × Int × Int :=
  if (readInt bs).2.2 ≠ 0 then (⟨#[]⟩, 0, (readInt bs).2.2) else if (bs.length : Int) - (readInt bs).2.1 < (readInt bs).1 then (⟨#[]⟩, 0, 4)
  else (strOfNums ((bs.drop (readInt bs).2.1.toNat).take (readInt bs).1.toNat), (readInt bs).2.1 + (readInt bs).1, 0)

theorem readText_err {bs : List Int} {x n e : Int} (h : readInt bs = (x, n, e)) (he : e ≠ 0) : readText bs = (⟨#[]⟩, 0, e) := by
  unfold readText; rw [h]; simp [he]

theorem readText_short {bs : List Int} {x n : Int} (h : readInt bs = (x, n, 0)) (hs : (bs.length : Int) - n < x) : readText bs = (⟨#[]⟩, 0, 4) := by
  unfold readText; rw [h]; simp [hs]

theorem readText_long {bs : List Int} {x n : Int} (h : readInt bs = (x, n, 0)) (hs : ¬ (bs.length : Int) - n < x) : readText bs = (strOfNums ((bs.drop n.toNat).take x.toNat), n + x, 0) := by
  unfold readText; rw [h]; simp [hs]

theorem tup3s {k l : IntKind} {s s' : ByteArray} {a b a' b' : Int} (hs : s = s') (h : a = a') (h2 : b = b') : Ending.returned (.tuple #[.string s, .int k a, .int l b]) = .returned (.tuple #[.string s', .int k a', .int l b']) := by rw [hs, h, h2]



end Go.Proofs.YtgdjeooiimjjcaaDoor
