/-
  A stream that is being read, in memory: the block of its struct, the row of what it told, and what stays as it was when it goes on. Conditions: at most a million bytes, at most a million that are told.
-/
import Derived.Test.YtalkeooejobjhaaDoorMInfP
import Derived.Test.YtalkeooejobjhaaDoorMMem
namespace Go.Proofs.YtalkeooejobjhaaDoor
open Go.RowKit
set_option linter.unusedVariables false
set_option linter.unusedSimpArgs false

/-- What the program's three tables hold. -/
structure Vars (w : World) : Prop where
  lenB : ∀ i, i < 29 → w.cell? ⟨0, i * 2, none⟩ = some (.int .i64 ((lenB[i]?.getD 0 : Nat) : Int))
  lenX : ∀ i, i < 29 → w.cell? ⟨0, i * 2 + 1, none⟩ = some (.int .i64 ((lenX[i]?.getD 0 : Nat) : Int))
  dstB : ∀ i, i < 30 → w.cell? ⟨1, i * 2, none⟩ = some (.int .i64 ((dstB[i]?.getD 0 : Nat) : Int))
  dstX : ∀ i, i < 30 → w.cell? ⟨1, i * 2 + 1, none⟩ = some (.int .i64 ((dstX[i]?.getD 0 : Nat) : Int))
  ordL : ∀ i, i < 19 → w.cell? ⟨2, i, none⟩ = some (.int .i64 ((ordL[i]?.getD 0 : Nat) : Int))
  size : 3 ≤ w.heap.size
theorem Vars.later {w w' : World} (h : Vars w) {B : Nat} (hB : 3 ≤ B) (hb : Below B w w') : Vars w' := by
  refine ⟨fun i hi => ?_, fun i hi => ?_, fun i hi => ?_, fun i hi => ?_, fun i hi => ?_, Nat.le_trans h.size hb.size⟩
  · rw [hb.cell (by simp; omega)]; exact h.lenB i hi
  · rw [hb.cell (by simp; omega)]; exact h.lenX i hi
  · rw [hb.cell (by simp; omega)]; exact h.dstB i hi
  · rw [hb.cell (by simp; omega)]; exact h.dstX i hi
  · rw [hb.cell (by simp; omega)]; exact h.ordL i hi

/-- The bytes that are read, and the limit. -/
structure Env where
  bo : Option Addr
  bn : Nat
  bc : Nat
  bs : List Int
  m : Int

/-- The state is within its bounds. -/
structure Fit (E : Env) (s : PS) : Prop where
  p : s.p ≤ 8 * E.bn
  o : s.o.length ≤ 1000000
  e0 : 0 ≤ s.e
  e1 : s.e ≤ 100
  bn : E.bn ≤ 1000000
  m0 : 0 ≤ E.m
  m1 : E.m ≤ 1000000
  bc : E.bn ≤ E.bc
  bx : E.bc ≤ 9223372036854775807
  bl : E.bs.length = E.bn

def sv (E : Env) (p : Nat) (e : Int) (oo : Option Addr) (on oc : Nat) (ov : Bool) : Array Value :=
  #[.slice E.bo E.bn E.bc, .int .i64 (p : Int), .int .i64 e, .int .i64 E.m, .slice oo on oc, .bool ov]

/-- Block g is the stream in the state s; what it told lies at oo, with room for oc. -/
structure St (E : Env) (g : Nat) (w : World) (oo : Option Addr) (oc : Nat) (s : PS) (ov : Bool) : Prop where
  st : w.heap[g]? = some (.cells (sv E s.p s.e oo s.o.length oc ov) 49 (0, 0))
  out : Mine (g + 1) w oo s.o.length oc s.o
  b : ∀ w', Below g w w' → Bs w' E.bo E.bn E.bc E.bs
  v : Vars w
  g3 : 3 ≤ g
  fit : Fit E s

section
variable {E : Env} {g : Nat} {w : World} {oo : Option Addr} {oc : Nat} {s : PS} {ov : Bool}

theorem St.lt (h : St E g w oo oc s ov) : g < w.heap.size := (Array.getElem?_eq_some_iff.1 h.st).1
theorem St.free (h : St E g w oo oc s ov) (i : Nat) : w.frozen? ⟨g, i, none⟩ = false := frozen_of_row w g i _ _ h.st
theorem St.c0 (h : St E g w oo oc s ov) : w.cell? ⟨g, 0, none⟩ = some (.slice E.bo E.bn E.bc) := by rw [cell_of_row w g 0 _ _ _ h.st]; rfl
theorem St.c1 (h : St E g w oo oc s ov) : w.cell? ⟨g, 1, none⟩ = some (.int .i64 (s.p : Int)) := by rw [cell_of_row w g 1 _ _ _ h.st]; rfl
theorem St.c2 (h : St E g w oo oc s ov) : w.cell? ⟨g, 2, none⟩ = some (.int .i64 s.e) := by rw [cell_of_row w g 2 _ _ _ h.st]; rfl
theorem St.c3 (h : St E g w oo oc s ov) : w.cell? ⟨g, 3, none⟩ = some (.int .i64 E.m) := by rw [cell_of_row w g 3 _ _ _ h.st]; rfl
theorem St.c4 (h : St E g w oo oc s ov) : w.cell? ⟨g, 4, none⟩ = some (.slice oo s.o.length oc) := by rw [cell_of_row w g 4 _ _ _ h.st]; rfl
theorem St.c5 (h : St E g w oo oc s ov) : w.cell? ⟨g, 5, none⟩ = some (.bool ov) := by rw [cell_of_row w g 5 _ _ _ h.st]; rfl
theorem St.bs (h : St E g w oo oc s ov) : Bs w E.bo E.bn E.bc E.bs := h.b w (Below.refl _ _)
/-- Nothing that it holds has changed. -/
theorem St.under (h : St E g w oo oc s ov) {B : Nat} (hg : g < B) (ho : ∀ k, ob oo k → k < B) {w' : World} (hb : Below B w w') : St E g w' oo oc s ov := by
  have hb' : Below g w w' := hb.mono (by omega)
  refine ⟨by rw [hb.block g hg]; exact h.st, ?_, fun w1 f => h.b w1 (hb'.trans f), h.v.later h.g3 hb', h.g3, h.fit⟩
  refine ⟨h.out.len, ⟨h.out.own.1, ?_⟩, h.out.byt⟩
  rcases h.out.own.2 with hv | ⟨q, cap, cur, hv, hq, hh, r⟩
  · exact .inl hv
  · simp only [Value.slice.injEq] at hv
    obtain ⟨rfl, _, rfl⟩ := hv
    exact .inr ⟨q, _, cur, rfl, hq, by rw [hb.block q (ho q ⟨_, rfl, rfl⟩)]; exact hh, r⟩
theorem St.later (h : St E g w oo oc s ov) {w' : World} (hb : Below w.heap.size w w') : St E g w' oo oc s ov :=
  h.under h.lt (fun k hk => (h.out.ob hk).2) hb
theorem St.same (h : St E g w oo oc s ov) {w' : World} (hh : w'.heap = w.heap) (ho : w'.os = w.os) (ht : w'.tape = w.tape) (hu : w'.output = w.output) : St E g w' oo oc s ov :=
  h.later ⟨ho, ht, hu, by rw [hh]; exact Nat.le_refl _, fun k _ => by rw [hh]⟩
theorem St.drew (h : St E g w oo oc s ov) : St E g w.drew oo oc s ov := h.same rfl rfl rfl rfl
theorem St.drewN (h : St E g w oo oc s ov) (n : Nat) : St E g (w.drewN n) oo oc s ov := h.same rfl rfl rfl rfl
/-- A cell of the struct is set. -/
theorem St.put (h : St E g w oo oc s ov) (i : Nat) (u : Value) (s' : PS) (ov' : Bool) (ho : s'.o = s.o) (hv : (sv E s.p s.e oo s.o.length oc ov).setIfInBounds i u = sv E s'.p s'.e oo s.o.length oc ov') (hf : Fit E s') : St E g (w.setCell ⟨g, i, none⟩ u) oo oc s' ov' := by
  have hb : Below g w (w.setCell ⟨g, i, none⟩ u) := (Below.refl g w).setCell (by simp) u
  refine ⟨?_, ?_, fun w1 f => h.b w1 (hb.trans f), h.v.later h.g3 hb, h.g3, hf⟩
  · rw [heap_setCell_same w g i _ _ _ h.st, ho, hv]
  · rw [ho]
    exact h.out.keep fun k hk _ => heap_setCell_other w ⟨g, i, none⟩ k u (by simp; omega)
theorem St.putP (h : St E g w oo oc s ov) (p : Nat) (P : Int) (hP : P = (p : Int)) (hp : p ≤ 8 * E.bn) : St E g (w.setCell ⟨g, 1, none⟩ (.int .i64 P)) oo oc { s with p := p } ov := by
  subst hP
  exact h.put 1 _ { s with p := p } ov rfl rfl ⟨hp, h.fit.o, h.fit.e0, h.fit.e1, h.fit.bn, h.fit.m0, h.fit.m1, h.fit.bc, h.fit.bx, h.fit.bl⟩
theorem St.putE (h : St E g w oo oc s ov) (z : Int) (h0 : 0 ≤ z) (h1 : z ≤ 100) : St E g (w.setCell ⟨g, 2, none⟩ (.int .i64 z)) oo oc { s with e := z } ov :=
  h.put 2 _ { s with e := z } ov rfl rfl ⟨h.fit.p, h.fit.o, h0, h1, h.fit.bn, h.fit.m0, h.fit.m1, h.fit.bc, h.fit.bx, h.fit.bl⟩
theorem St.putO (h : St E g w oo oc s ov) (v : Bool) : St E g (w.setCell ⟨g, 5, none⟩ (.bool v)) oo oc s v :=
  h.put 5 _ s v rfl rfl h.fit
theorem St.vars (h : St E g w oo oc s ov) : Vars w := h.v
theorem St.below (h : St E g w oo oc s ov) {oo' : Option Addr} {w' : World} (f : Fr g oo w oo' w') : Below g w w' :=
  ⟨f.os, f.tape, f.output, f.size, fun k hk => f.block k (by have := h.lt; omega) (by omega) (fun ho => by have := (h.out.ob ho).1; omega)⟩
end

/-- The stream is in the state s behind a call that may have told something. -/
def Out (E : Env) (g : Nat) (w : World) (oo : Option Addr) (s : PS) (ov : Bool) (w' : World) : Prop := ∃ oo' oc', St E g w' oo' oc' s ov ∧ Fr g oo w oo' w'

end Go.Proofs.YtalkeooejobjhaaDoor
