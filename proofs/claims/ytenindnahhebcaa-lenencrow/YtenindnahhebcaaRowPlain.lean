/-
  Plain facts on a row of numbers and texts by turns, and on slices of numbers and of texts that came in. Conditions: none.
-/
import Derived.Test.YtenindnahhebcaaLawBack
import Derived.SliceStrings
namespace Go.Proofs.Ytenindnahhebcaa
open Go.RowKit
set_option linter.unusedVariables false
set_option linter.unusedSimpArgs false

/-- What is written for number m, and for text m. -/
def pieceX (xs : List Int) (m : Nat) : List Int := if m < xs.length then form (xs.getD m 0) else []
def pieceS (ss : List ByteArray) (m : Nat) : List Int := if m < ss.length ∧ (ss.getD m ByteArray.empty).size ≤ 5000 then form (ss.getD m ByteArray.empty).size ++ nums (ss.getD m ByteArray.empty) else []
def upTo (xs : List Int) (ss : List ByteArray) : Nat → List Int
  | 0 => []
  | m + 1 => upTo xs ss m ++ pieceX xs m ++ pieceS ss m
/-- The k pieces from m on. -/
def onFrom (xs : List Int) (ss : List ByteArray) : Nat → Nat → List Int
  | 0, _ => []
  | k + 1, m => pieceX xs m ++ (pieceS ss m ++ onFrom xs ss k (m + 1))

theorem upTo_onFrom (xs : List Int) (ss : List ByteArray) : ∀ (k m : Nat), upTo xs ss m ++ onFrom xs ss k m = upTo xs ss (m + k)
  | 0, m => by simp [onFrom]
  | k + 1, m => by
    have := upTo_onFrom xs ss k (m + 1)
    rw [show m + (k + 1) = m + 1 + k by omega, ← this]
    simp [onFrom, upTo]

theorem pieceX_yes {xs : List Int} {m : Nat} (h : m < xs.length) : pieceX xs m = form (xs.getD m 0) := if_pos h
theorem pieceX_no {xs : List Int} {m : Nat} (h : ¬ m < xs.length) : pieceX xs m = [] := if_neg h
theorem pieceS_yes {ss : List ByteArray} {m : Nat} (h : m < ss.length) (h5 : (ss.getD m ByteArray.empty).size ≤ 5000) : pieceS ss m = form (ss.getD m ByteArray.empty).size ++ nums (ss.getD m ByteArray.empty) := if_pos ⟨h, h5⟩
theorem pieceS_no {ss : List ByteArray} {m : Nat} (h : ¬ (m < ss.length ∧ (ss.getD m ByteArray.empty).size ≤ 5000)) : pieceS ss m = [] := if_neg h

theorem upTo_length (xs : List Int) (ss : List ByteArray) : ∀ m, (upTo xs ss m).length ≤ 5018 * m
  | 0 => by simp [upTo]
  | m + 1 => by
    have ih := upTo_length xs ss m
    have h1 : (pieceX xs m).length ≤ 9 := by
      unfold pieceX; split
      · exact form_length_le _
      · simp
    have h2 : (pieceS ss m).length ≤ 5009 := by
      unfold pieceS; split
      · rename_i h
        have := form_length_le ((ss.getD m ByteArray.empty).size : Int)
        have hn := nums_length (ss.getD m ByteArray.empty)
        simp only [List.length_append, hn]
        omega
      · simp
    simp only [upTo, List.length_append]
    omega

/-- A slice of uint64 that came in. -/
structure Xs (w : World) (ao : Option Addr) (n c : Nat) (xs : List Int) : Prop where
  len : xs.length = n
  le : n ≤ c
  max : c ≤ 9223372036854775807
  fit : ∀ i : Nat, 0 ≤ xs.getD i 0 ∧ xs.getD i 0 < 18446744073709551616
  at' : n = 0 ∨ ∃ b off, ao = some ⟨b, off, none⟩ ∧ ∀ i, i < n → w.cell? ⟨b, off + i, none⟩ = some (.int .u64 (xs.getD i 0))

/-- A slice of strings that came in. -/
structure Ss (w : World) (ao : Option Addr) (n c : Nat) (ss : List ByteArray) : Prop where
  len : ss.length = n
  le : n ≤ c
  max : c ≤ 9223372036854775807
  fit : ∀ i : Nat, (ss.getD i ByteArray.empty).size ≤ 9223372036854775807
  at' : n = 0 ∨ ∃ b off, ao = some ⟨b, off, none⟩ ∧ ∀ i, i < n → w.cell? ⟨b, off + i, none⟩ = some (.string (ss.getD i ByteArray.empty))

theorem Xs.later {w w' : World} {ao : Option Addr} {n c : Nat} {xs : List Int} (h : Xs w ao n c xs) (hb : Below w.heap.size w w') : Xs w' ao n c xs := by
  refine ⟨h.len, h.le, h.max, h.fit, ?_⟩
  rcases h.at' with h0 | ⟨b, off, e, hc⟩
  · exact .inl h0
  · exact .inr ⟨b, off, e, fun i hi => cell_later hb (hc i hi)⟩
theorem Ss.later {w w' : World} {ao : Option Addr} {n c : Nat} {ss : List ByteArray} (h : Ss w ao n c ss) (hb : Below w.heap.size w w') : Ss w' ao n c ss := by
  refine ⟨h.len, h.le, h.max, h.fit, ?_⟩
  rcases h.at' with h0 | ⟨b, off, e, hc⟩
  · exact .inl h0
  · exact .inr ⟨b, off, e, fun i hi => cell_later hb (hc i hi)⟩

theorem Try.elemU64 : Try.prog.underlying 24 = some (.slice (Try.prog.elem 24)) := by kernel_rfl
theorem Try.elemStr : Try.prog.underlying 47 = some (.slice (Try.prog.elem 47)) := by kernel_rfl

/-- 'xs[i]' for the walk: its address, and what lies there. -/
theorem Xs.idx {w : World} {ao : Option Addr} {n c : Nat} {xs : List Int} (h : Xs w ao n c xs) {i : Nat} (hi : i < n) :
    ∃ b o, (∀ wx, (Instr.indexAt 24 (.slice ao n c) (.int .i64 (i : Int))).run Try.prog wx = .ok (.pointer (some ⟨b, o, none⟩)) wx) ∧ w.cell? ⟨b, o, none⟩ = some (.int .u64 (xs.getD i 0)) := by
  rcases h.at' with h0 | ⟨b, off, rfl, hc⟩
  · omega
  · refine ⟨b, off + i, fun wx => ?_, hc i hi⟩
    have hs : ∀ w : World, (sizeOf (Try.prog.elem 24)).run Try.prog w = .ok 1 w := by intro w; kernel_rfl
    rw [run_indexAt_slice wx 24 _ n c .i64 (i : Int) Try.elemU64]
    simp [hs, hi, Addr.add_lit, Result.andThen]
theorem Ss.idx {w : World} {ao : Option Addr} {n c : Nat} {ss : List ByteArray} (h : Ss w ao n c ss) {i : Nat} (hi : i < n) :
    ∃ b o, (∀ wx, (Instr.indexAt 47 (.slice ao n c) (.int .i64 (i : Int))).run Try.prog wx = .ok (.pointer (some ⟨b, o, none⟩)) wx) ∧ w.cell? ⟨b, o, none⟩ = some (.string (ss.getD i ByteArray.empty)) := by
  rcases h.at' with h0 | ⟨b, off, rfl, hc⟩
  · omega
  · refine ⟨b, off + i, fun wx => ?_, hc i hi⟩
    have hs : ∀ w : World, (sizeOf (Try.prog.elem 47)).run Try.prog w = .ok 1 w := by intro w; kernel_rfl
    rw [run_indexAt_slice wx 47 _ n c .i64 (i : Int) Try.elemStr]
    simp [hs, hi, Addr.add_lit, Result.andThen]

end Go.Proofs.Ytenindnahhebcaa
