/-
  'b[i]' of bytes, and which blocks of memory a call may have changed. Conditions: none but that the slices can be read.
-/
import Derived.Test.YtddfbaaghjcbnaaGreatDoorSlices
import Derived.Maps.AppendAt
namespace Go.Proofs.YtddfbaaghjcbnaaGreatDoor
open Go.RowKit
set_option linter.unusedVariables false
set_option linter.unusedSimpArgs false

/-- 'b[i]' of bytes for the walk. -/
theorem Bs.idx {w : World} {ao : Option Addr} {n c : Nat} {bs : List Int} (h : Bs w ao n c bs) {i : Nat} (hi : i < n) (I : Int) (hI : I = i) :
    ∃ b o, (∀ wx, (Instr.indexAt 32 (.slice ao n c) (.int .i64 I)).run Tryz.prog wx = .ok (.pointer (some ⟨b, o, none⟩)) wx) ∧ w.cell? ⟨b, o, none⟩ = some (.int .u8 (bs[i]?.getD 0)) := by
  subst hI
  rcases h.at' with h0 | ⟨b, off, rfl, hc⟩
  · omega
  · refine ⟨b, off + i, fun wx => ?_, by rw [hc i hi]; simp⟩
    rw [run_indexAt_slice wx 32 _ n c .i64 (i : Int) Tryz.elemBytes]
    simp [Tryz.sizeByte, hi, Addr.add_lit, Result.andThen]


/-- Block k is the one that a slice lies in. -/
def ob (ao : Option Addr) (k : Nat) : Prop := ∃ a, ao = some a ∧ a.block = k

/-- Only block g has changed; there may be new ones. -/
structure Gb (g : Nat) (w w' : World) : Prop where
  os : w'.os = w.os
  tape : w'.tape = w.tape
  output : w'.output = w.output
  size : w.heap.size ≤ w'.heap.size
  block : ∀ k, k < w.heap.size → k ≠ g → w'.heap[k]? = w.heap[k]?

theorem Gb.refl (g : Nat) (w : World) : Gb g w w := ⟨rfl, rfl, rfl, Nat.le_refl _, fun _ _ _ => rfl⟩

theorem Gb.trans {g : Nat} {a b c : World} (h : Gb g a b) (k : Gb g b c) : Gb g a c :=
  ⟨k.os.trans h.os, k.tape.trans h.tape, k.output.trans h.output, Nat.le_trans h.size k.size, fun i hi hn => (k.block i (Nat.lt_of_lt_of_le hi h.size) hn).trans (h.block i hi hn)⟩

theorem Gb.of {g : Nat} {w w' : World} (h : Below w.heap.size w w') : Gb g w w' := ⟨h.os, h.tape, h.output, h.size, fun k hk _ => h.block k hk⟩

theorem Gb.drew {g : Nat} {w w' : World} (h : Gb g w w') : Gb g w w'.drew := ⟨h.os, h.tape, h.output, h.size, h.block⟩

theorem Gb.drewN {g : Nat} {w w' : World} (h : Gb g w w') (n : Nat) : Gb g w (w'.drewN n) := ⟨h.os, h.tape, h.output, h.size, h.block⟩

theorem Gb.set {g : Nat} {w w' : World} (h : Gb g w w') (i : Nat) (u : Value) : Gb g w (w'.setCell ⟨g, i, none⟩ u) :=
  h.trans ⟨rfl, rfl, rfl, by simp, fun k _ hk => heap_setCell_other w' ⟨g, i, none⟩ k u hk⟩

theorem Gb.cell {g : Nat} {w w' : World} (h : Gb g w w') {a : Addr} (hk : a.block < w.heap.size) (hn : a.block ≠ g) : w'.cell? a = w.cell? a := World.cell?_of_block (w := w) (h.block a.block hk hn)

theorem Mine.ob {B : Nat} {w : World} {ao : Option Addr} {n c : Nat} {bs : List Int} (h : Mine B w ao n c bs) {k : Nat} (hk : ob ao k) : B ≤ k ∧ k < w.heap.size := by
  obtain ⟨a, rfl, rfl⟩ := hk
  rcases h.own.2 with ⟨hv, _⟩ | ⟨g, cap, cur, hv, hg, hh, _⟩
  · simp at hv
  · simp only [Value.slice.injEq, Option.some.injEq] at hv
    obtain ⟨rfl, _⟩ := hv
    exact ⟨hg, (Array.getElem?_eq_some_iff.1 hh).1⟩

theorem Mine.keep {B : Nat} {w w' : World} {ao : Option Addr} {n c : Nat} {bs : List Int} (h : Mine B w ao n c bs) (hk : ∀ k, B ≤ k → k < w.heap.size → w'.heap[k]? = w.heap[k]?) : Mine B w' ao n c bs := by
  refine ⟨h.len, ⟨h.own.1, ?_⟩, h.byt⟩
  rcases h.own.2 with hv | ⟨g, cap, cur, hv, hg, hh, r⟩
  · exact .inl hv
  · exact .inr ⟨g, cap, cur, hv, hg, by rw [hk g hg (Array.getElem?_eq_some_iff.1 hh).1]; exact hh, r⟩

theorem below_drew (w : World) : Below w.heap.size w w.drew := ⟨rfl, rfl, rfl, Nat.le_refl _, fun _ _ => rfl⟩

theorem Gb.below {g : Nat} {w w' : World} (h : Gb g w w') (hg : g ≤ w.heap.size) : Below g w w' := ⟨h.os, h.tape, h.output, h.size, fun k hk => h.block k (by omega) (by omega)⟩

theorem Bs.gb {g : Nat} {w w' : World} {ao : Option Addr} {n c : Nat} {bs : List Int} (h : Bs w ao n c bs) (hb : Gb g w w') (hg : ∀ a, ao = some a → a.block ≠ g) : Bs w' ao n c bs := by
  refine ⟨h.len, h.le, h.max, h.nil, h.byt, ?_⟩
  rcases h.at' with h0 | ⟨b, off, e, hc⟩
  · exact .inl h0
  · refine .inr ⟨b, off, e, fun i hi => ?_⟩
    rw [hb.cell (a := ⟨b, off + i, none⟩) (World.block_lt_of_cell? w _ (hc i hi)) (show (⟨b, off + i, none⟩ : Addr).block ≠ g from hg ⟨b, off, none⟩ e)]
    exact hc i hi

end Go.Proofs.YtddfbaaghjcbnaaGreatDoor
