/-
  The finder of package deflate in memory: the block of its struct, its map from three bytes to places, and what stays as it was when it goes on. Conditions: at most 32,768 bytes.
-/
import Derived.Test.YtalkeooejobjhaaDoorDefGrp
import Derived.Test.YtalkeooejobjhaaDoorMPlain
import Derived.BigQuiet
import Derived.Deep.RegionLaw
namespace Go.Proofs.YtalkeooejobjhaaDoor
open Go.RowKit Go.Maps
set_option linter.unusedVariables false
set_option linter.unusedSimpArgs false

/-- Do these three bytes stand at place p? -/
def hasT (bs : List Int) (a b c : Int) (p : Nat) : Bool := decide (p + 3 ≤ bs.length) && (decide (bs[p]?.getD 0 = a) && (decide (bs[p + 1]?.getD 0 = b) && decide (bs[p + 2]?.getD 0 = c)))
def plc (bs : List Int) (a b c : Int) (M : Nat) : List Nat := (List.range M).filter (hasT bs a b c)
def nI (l : List Nat) : List Int := l.map fun (n : Nat) => (n : Int)
theorem plc_succ (bs : List Int) (a b c : Int) (M : Nat) : plc bs a b c (M + 1) = plc bs a b c M ++ (if hasT bs a b c M = true then [M] else []) := by
  unfold plc
  rw [List.range_succ, List.filter_append]
  congr 1
  cases h : hasT bs a b c M <;> simp [h]
theorem plc_len (bs : List Int) (a b c : Int) (M : Nat) : (plc bs a b c M).length ≤ M := by
  have := List.length_filter_le (hasT bs a b c) (List.range M)
  simpa [plc] using this
theorem plc_lt {bs : List Int} {a b c : Int} {M q : Nat} (h : q ∈ plc bs a b c M) : q < M ∧ q + 3 ≤ bs.length ∧ bs[q]?.getD 0 = a ∧ bs[q + 1]?.getD 0 = b ∧ bs[q + 2]?.getD 0 = c := by
  have h1 := List.mem_filter.1 h
  have h2 : q < M := by simpa using h1.1
  have h3 := h1.2
  unfold hasT at h3
  simp at h3
  exact ⟨h2, h3⟩
theorem nI_len (l : List Nat) : (nI l).length = l.length := by simp [nI]
theorem nI_app (l m : List Nat) : nI (l ++ m) = nI l ++ nI m := by simp [nI]
theorem nI_nil {l : List Nat} : nI l = [] ↔ l = [] := by simp [nI]

/-- How a list of ints reads in the map. -/
def rowD (zs : List Int) : DataW Unit := if zs = [] then .nil else rowDatum .i64 (.slice (some ⟨0, 0, none⟩) 0 0) zs
theorem rowD_is {w : World} {base : Nat} {e : TypeId} {v : Value} {zs G : List Int} (ho : w.ownsInts base e .i64 v zs) (h : rowD G = rowDatum .i64 v zs) : zs = G := by
  unfold rowD at h
  rcases ho.datum (H := Unit) with ⟨h1, h2⟩ | h1
  · rw [h1] at h
    split at h
    · rename_i hG; rw [h2, hG]
    · simp [rowDatum] at h
  · rw [h1] at h
    split at h
    · cases h
    · simp only [rowDatum] at h
      injection h with h3 _
      unfold ChangeShapes.lits at h3
      refine (List.map_inj_right ?_).1 h3.symm
      intro a b hab
      simpa using hab
theorem rowD_put {w : World} {base : Nat} {e : TypeId} {v : Value} {zs : List Int} (ho : w.ownsInts base e .i64 v zs) (h : zs ≠ []) : rowDatum (H := Unit) .i64 v zs = rowD zs := by
  rw [ho.datum_pos h]
  unfold rowD
  rw [if_neg h]
  rfl

/-- The bytes that are gone over; what lies below lo is not the finder's. -/
structure Fv where
  lo : Nat
  bo : Option Addr
  bn : Nat
  bc : Nat
  bs : List Int

/-- The map tells of every three bytes the places below M. -/
def Grp (E : Fv) (B base : Nat) (w : World) (M : Nat) : Prop :=
  ∃ D : DataW Unit, w.ownsGroups Tryd.prog 101 base 3 .i64 B M D ∧ ∀ a b c kl, keyOf Tryd.prog 101 (triV a b c) = some kl → D.atKey kl .nil = rowD (nI (plc E.bs a b c M))

def fv (E : Fv) (A B : Nat) : Array Value := #[.slice E.bo E.bn E.bc, .int .i64 (A : Int), .map (some B)]

/-- Block g is the finder at the place A, block B its map with the places below M; No: the blocks that no row of the map lies in. -/
structure Fn (E : Fv) (No : Nat → Prop) (g B base : Nat) (w : World) (A M : Nat) : Prop where
  st : w.heap[g]? = some (.cells (fv E A B) 78 (0, 0))
  own : Grp E B base w M
  sh : w.Shuns B No
  ng : No g
  lt : ∀ k, No k → k < w.heap.size
  gB : g ≠ B
  b : ∀ w', Below E.lo w w' → Bs w' E.bo E.bn E.bc E.bs
  lo : E.lo ≤ g ∧ E.lo ≤ B ∧ E.lo ≤ base
  bw : base ≤ w.heap.size
  bn : E.bn ≤ 32768
  bl : E.bs.length = E.bn
  A : A ≤ E.bn
  M : M ≤ E.bn

/-- Only the finder, its map and the map's rows have changed; there may be new blocks. -/
structure Pf (No : Nat → Prop) (g B base : Nat) (w w' : World) : Prop where
  os : w'.os = w.os
  tape : w'.tape = w.tape
  output : w'.output = w.output
  size : w.heap.size ≤ w'.heap.size
  block : ∀ k, k < w.heap.size → k ≠ g → k ≠ B → (k < base ∨ No k) → w'.heap[k]? = w.heap[k]?

section
variable {E : Fv} {No : Nat → Prop} {g B base : Nat} {w w' w'' : World} {A M : Nat}

theorem Pf.refl : Pf No g B base w w := ⟨rfl, rfl, rfl, Nat.le_refl _, fun _ _ _ _ _ => rfl⟩
theorem Pf.trans (h : Pf No g B base w w') (k : Pf No g B base w' w'') : Pf No g B base w w'' :=
  ⟨k.os.trans h.os, k.tape.trans h.tape, k.output.trans h.output, Nat.le_trans h.size k.size, fun i hi h1 h2 h3 => (k.block i (Nat.lt_of_lt_of_le hi h.size) h1 h2 h3).trans (h.block i hi h1 h2 h3)⟩
theorem Pf.of (h : Below w.heap.size w w') : Pf No g B base w w' := ⟨h.os, h.tape, h.output, h.size, fun k hk _ _ _ => h.block k hk⟩
theorem Pf.below (h : Pf No g B base w w') {lo : Nat} (h1 : lo ≤ g) (h2 : lo ≤ B) (h3 : lo ≤ base) (hs : lo ≤ w.heap.size) : Below lo w w' :=
  ⟨h.os, h.tape, h.output, h.size, fun k hk => h.block k (by omega) (by omega) (by omega) (.inl (by omega))⟩

theorem grown_of (h : Below w.heap.size w w') : w.grownBy w' none := ⟨h.os, h.tape, h.output, h.size, fun i hi _ => h.block i hi⟩
theorem Grp.lt (h : Grp E B base w M) : B < w.heap.size := by
  obtain ⟨D, ⟨es, clock, hb, _⟩, _⟩ := h
  exact (Array.getElem?_eq_some_iff.1 hb).1
theorem Grp.later (h : Grp E B base w M) (hb : Below w.heap.size w w') : Grp E B base w' M := by
  obtain ⟨D, ho, hr⟩ := h
  exact ⟨D, ho.kept (grown_of hb) (by simp) (ho.rowsAbove (fun j hj => by cases hj)), hr⟩
theorem Fn.glt (h : Fn E No g B base w A M) : g < w.heap.size := (Array.getElem?_eq_some_iff.1 h.st).1
theorem Fn.later (h : Fn E No g B base w A M) (hb : Below w.heap.size w w') : Fn E No g B base w' A M := by
  refine ⟨by rw [hb.block g h.glt]; exact h.st, h.own.later hb, h.sh.kept (grown_of hb) h.own.lt (by simp), h.ng, fun k hk => Nat.lt_of_lt_of_le (h.lt k hk) hb.size, h.gB, fun w1 f => h.b w1 ((hb.mono ?_).trans f), h.lo, Nat.le_trans h.bw hb.size, h.bn, h.bl, h.A, h.M⟩
  have := h.lo.1
  have := h.glt
  omega
theorem Fn.c0 (h : Fn E No g B base w A M) : w.cell? ⟨g, 0, none⟩ = some (.slice E.bo E.bn E.bc) := by rw [cell_of_row w g 0 _ _ _ h.st]; rfl
theorem Fn.c1 (h : Fn E No g B base w A M) : w.cell? ⟨g, 1, none⟩ = some (.int .i64 (A : Int)) := by rw [cell_of_row w g 1 _ _ _ h.st]; rfl
theorem Fn.c2 (h : Fn E No g B base w A M) : w.cell? ⟨g, 2, none⟩ = some (.map (some B)) := by rw [cell_of_row w g 2 _ _ _ h.st]; rfl
theorem Fn.free (h : Fn E No g B base w A M) (i : Nat) : w.frozen? ⟨g, i, none⟩ = false := frozen_of_row w g i _ _ h.st
theorem Fn.bs (h : Fn E No g B base w A M) : Bs w E.bo E.bn E.bc E.bs := h.b w (Below.refl _ _)
theorem Fn.los (h : Fn E No g B base w A M) : E.lo ≤ w.heap.size := by have := h.lo.1; have := h.glt; omega
/-- The place is moved on. -/
theorem Fn.putA (h : Fn E No g B base w A M) (A' : Nat) (X : Int) (hX : X = (A' : Int)) (hA : A' ≤ E.bn) : Fn E No g B base (w.setCell ⟨g, 1, none⟩ (.int .i64 X)) A' M ∧ Pf No g B base w (w.setCell ⟨g, 1, none⟩ (.int .i64 X)) := by
  subst hX
  have hg : w.grownBy (w.setCell ⟨g, 1, none⟩ (.int .i64 (A' : Int))) (some g) := ⟨rfl, rfl, rfl, by simp, fun i _ hi => heap_setCell_other w ⟨g, 1, none⟩ i _ (fun e => hi (by rw [e]))⟩
  have pf : Pf No g B base w (w.setCell ⟨g, 1, none⟩ (.int .i64 (A' : Int))) := ⟨rfl, rfl, rfl, by simp, fun i _ h1 _ _ => heap_setCell_other w ⟨g, 1, none⟩ i _ h1⟩
  have hgB := h.gB
  refine ⟨⟨?_, ?_, h.sh.kept hg h.own.lt (fun e => hgB (Option.some.inj e).symm), h.ng, fun k hk => by simpa using h.lt k hk, h.gB, fun w1 f => h.b w1 ((pf.below h.lo.1 h.lo.2.1 h.lo.2.2 h.los).trans f), h.lo, by simpa using h.bw, h.bn, h.bl, hA, h.M⟩, pf⟩
  · rw [heap_setCell_same w g 1 _ _ _ h.st]
    simp [fv]
  · obtain ⟨D, ho, hr⟩ := h.own
    exact ⟨D, ho.kept hg (fun e => hgB (Option.some.inj e).symm) (h.sh.rowsOff (fun j hj => by cases hj; exact h.ng)), hr⟩
end

/-- What triple answers. -/
def triQ (bs : List Int) (p : Nat) : Value := if p + 3 ≤ bs.length then .tuple #[triV (bs[p]?.getD 0) (bs[p + 1]?.getD 0) (bs[p + 2]?.getD 0), .bool true] else .tuple #[triV 0 0 0, .bool false]
/-- What alike answers. -/
def likeQ (bs : List Int) (q A s m : Nat) : Nat := if eqb bs q A s = true then mtU (eqb bs q A) m 0 else 0

end Go.Proofs.YtalkeooejobjhaaDoor
