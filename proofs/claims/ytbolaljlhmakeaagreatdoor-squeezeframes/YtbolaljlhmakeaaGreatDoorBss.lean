/-
  A slice of slices of bytes that can be read, and one that came in. Conditions: none.
-/
import Derived.Test.YtbolaljlhmakeaaGreatDoorMMem
import Derived.ProofKit
import Derived.OpenShut
import Derived.Deep.Slices
import Derived.ChangeArms
namespace Go.Proofs.YtbolaljlhmakeaaGreatDoor
open Go.ChangeShapes Go.WideShapes Go.ChangeAt Go.RowKit
set_option linter.unusedVariables false
set_option linter.unusedSimpArgs false

/-- The slice 'ao, n, c' holds slices of the bytes xs. -/
structure Bsl (w : World) (ao : Option Addr) (n c : Nat) (xs : List (List Int)) : Prop where
  len : xs.length = n
  le : n ≤ c
  max : c ≤ 9223372036854775807
  at' : ∀ (i : Nat) (bs : List Int), xs[i]? = some bs → ∃ b o ai ci, (∀ wx, (Instr.indexAt 45 (.slice ao n c) (.int .i64 (i : Int))).run Tryz.prog wx = .ok (.pointer (some ⟨b, o, none⟩)) wx) ∧ w.cell? ⟨b, o, none⟩ = some (.slice ai bs.length ci) ∧ Bs w ai bs.length ci bs
theorem Bsl.later {w w' : World} {ao : Option Addr} {n c : Nat} {xs : List (List Int)} (h : Bsl w ao n c xs) (hb : Below w.heap.size w w') : Bsl w' ao n c xs :=
  ⟨h.len, h.le, h.max, fun i bs hi => by
    obtain ⟨b, o, ai, ci, h1, h2, h3⟩ := h.at' i bs hi
    exact ⟨b, o, ai, ci, h1, cell_later hb h2, h3.later hb⟩⟩

theorem listOf {α : Type} (P : Nat → α → Prop) : ∀ n, (∀ i, i < n → ∃ x, P i x) → ∃ xs : List α, xs.length = n ∧ ∀ i x, xs[i]? = some x → P i x
  | 0, _ => ⟨[], rfl, fun i x h => by simp at h⟩
  | n + 1, h => by
    obtain ⟨xs, hl, hx⟩ := listOf P n (fun i hi => h i (by omega))
    obtain ⟨y, hy⟩ := h n (by omega)
    refine ⟨xs ++ [y], by simp [hl], fun i x hi => ?_⟩
    rcases Nat.lt_or_ge i xs.length with q | q
    · rw [List.getElem?_append_left q] at hi
      exact hx i x hi
    · rw [List.getElem?_append_right q] at hi
      have h0 : i - xs.length = 0 := by
        have := (List.getElem?_eq_some_iff.1 hi).1
        simp at this
        omega
      rw [h0] at hi
      simp at hi
      subst hi
      rw [show i = n by omega]
      exact hy

theorem Tryz.elemBB : Tryz.prog.underlying 45 = some (.slice (Tryz.prog.elem 45)) := by kernel_rfl
theorem Tryz.sizeBB (w : World) : (sizeOf (Tryz.prog.elem 45)).run Tryz.prog w = .ok 1 w := by kernel_rfl

theorem bsl_of {H : Type} {enc : TypeId × Value → H} {W : World} {base fuel : Nat} {a : Option Addr} {len cap : Nat} {x : DataW H × List MemPlace} (h : DataW.trod enc Tryz.prog W base (fun _ => true) true fuel 45 (Value.slice a len cap).cells.toList = some x) : ∃ xs, Bsl W a len cap xs := by
  rcases Deep.open_slice1 Tryz.underlying45 (by kernel_rfl) h with ⟨hcs, _⟩ | ⟨ad, l, c, m, n, V, D, Pl, hcs, hb, hl, hm, hmm, hx, hel⟩
  · simp [Value.cells] at hcs
    obtain ⟨rfl, rfl, rfl⟩ := hcs
    exact ⟨[], rfl, Nat.le_refl _, by omega, fun i bs hi => by simp at hi⟩
  · simp [Value.cells] at hcs
    obtain ⟨rfl, rfl, rfl⟩ := hcs
    simp only [if_true] at hmm
    subst hmm
    unfold maxLen at hm
    obtain ⟨xs, hxl, hxs⟩ := listOf (fun i bs => ∃ b o ai ci, (∀ wx, (Instr.indexAt 45 (.slice (some ad) len m) (.int .i64 (i : Int))).run Tryz.prog wx = .ok (.pointer (some ⟨b, o, none⟩)) wx) ∧ W.cell? ⟨b, o, none⟩ = some (.slice ai bs.length ci) ∧ Bs W ai bs.length ci bs) len (fun i hi => by
      obtain ⟨hc, ht⟩ := hel i (by omega)
      obtain ⟨b, off, spot⟩ := ad
      have hspot : spot = none := by simpa [Addr.add] using World.cell?_spot (hel 0 (by omega)).1
      subst hspot
      rw [Addr.add_lit] at hc
      have hix : ∀ wx, (Instr.indexAt 45 (.slice (some ⟨b, off, none⟩) len m) (.int .i64 (i : Int))).run Tryz.prog wx = .ok (.pointer (some ⟨b, off + i, none⟩)) wx := by
        intro wx
        rw [run_indexAt_slice wx 45 _ len m .i64 (i : Int) Tryz.elemBB]
        simp [Tryz.sizeBB, hi, Addr.add_lit, Result.andThen]
      rcases open_ints Tryz.underlying31 Tryz.underlying5 (by kernel_rfl) ht with ⟨hv, _⟩ | ⟨a', l', c', zs, hv, _, hl', hm', hz, hD, hcell, hwz⟩
      · have hv' : V i = .slice none 0 0 := by simpa using hv
        rw [hv'] at hc
        exact ⟨[], b, off + i, none, 0, hix, hc, Bs.nought W⟩
      · have hv' : V i = .slice (some a') l' c' := by simpa using hv
        rw [hv'] at hc
        simp only [if_true] at hz
        have hB := bs_of_row (.inr ⟨a', rfl, hl', hm', hz, hcell, hwz⟩)
        have hBl := hB.len
        refine ⟨zs.take l', b, off + i, some a', c', hix, ?_, ?_⟩
        · rw [hBl]; exact hc
        · rw [hBl]; exact hB)
    exact ⟨xs, hxl, hl, by omega, hxs⟩

end Go.Proofs.YtbolaljlhmakeaaGreatDoor
