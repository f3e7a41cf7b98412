/-
  What mayBe, check and Expand, of package deflate, answer for any pieces. They write nothing that was there. Conditions: at most a thousand pieces.
  What Expand, of package deflate, answers for any pieces. It writes nothing that was there. Conditions: at most a thousand pieces.
-/
import Derived.Test.YtnoabdafmgmenaaGreatDoorMDef2
namespace Go.Proofs.YtnoabdafmgmenaaGreatDoor
open Go.RowKit
set_option linter.unusedVariables false
set_option linter.unusedSimpArgs false

theorem drop_pc {l : List Pc} {k : Nat} {p : Pc} (h : l[k]? = some p) : l.drop k = p :: l.drop (k + 1) := by
  have hk := (List.getElem?_eq_some_iff.1 h).1
  rw [List.drop_eq_getElem_cons hk]
  congr 1
  rw [List.getElem?_eq_getElem hk] at h
  exact Option.some.inj h

end Go.Proofs.YtnoabdafmgmenaaGreatDoor

namespace Go.Proofs.YtnoabdafmgmenaaGreatDoor
open Go.RowKit
set_option linter.unusedVariables false
set_option linter.unusedSimpArgs false

theorem chk_step {m : Int} {p : Pc} {r : List Pc} (h : chk m (p :: r) = 0) : may p = true ∧ ¬ m < p.d ∧ chk (m + (sz p : Int)) r = 0 := by
  simp only [chk] at h
  split at h
  · rename_i hm
    split at h
    · cases h
    · rename_i hd
      exact ⟨hm, hd, h⟩
  · cases h
theorem pok_byte {p : Pc} (h : Pok p) : 0 ≤ p.b ∧ p.b ≤ 255 := ⟨h.b0, h.b1⟩

/-- Behind an append the piece's variable is what it was. -/
theorem Px.grown {w w1 : World} {q : Nat} {p : Pc} {ao : Option Addr} {n c : Nat} (h : Px w q p) (hg : w.grownBy w1 (Value.slice ao n c).ownBlock) (ho : ¬ ob ao q) : Px w1 q p := by
  unfold Px
  rw [grown_at hg h.lt ho]
  exact h
theorem below_grown {w w1 : World} {B : Nat} {ao : Option Addr} {n c : Nat} {bs : List Int} (hm : Mine B w ao n c bs) (hg : w.grownBy w1 (Value.slice ao n c).ownBlock) (hB : B ≤ w.heap.size) : Below B w w1 :=
  ⟨hg.os, hg.tape, hg.output, hg.size, fun k hk => grown_at hg (by omega) (fun q => by have := (hm.ob q).1; omega)⟩

end Go.Proofs.YtnoabdafmgmenaaGreatDoor
