/-
  The calls of a reader of replies by their states, and the memory of a function that reads a reply: its result's block, the reader's, the reply's own. Conditions: the slice can be read; at most 2 to the 40 bytes.
-/
import Derived.Test.YtkijdkbkbelliaaRyRd
namespace Go.Proofs.Ytkijdkbkbelliaa
open Go.RowKit
set_option linter.unusedVariables false
set_option linter.unusedSimpArgs false

/-- The reader in block g is in the state s. -/
def Fx (g : Nat) (w : World) (s : FS) : Prop := ∃ bo bn bc a p, Fl g w bo bn bc a p s
/-- Behind a call. -/
def OutX (g : Nat) (w : World) (s : FS) (w' : World) : Prop := Fx g w' s ∧ Gb g w w'
theorem OutF.x {g : Nat} {w w' : World} {bo : Option Addr} {bn bc : Nat} {a : List Int} {s : FS} (o : OutF g w bo bn bc a s w') : OutX g w s w' := by
  obtain ⟨⟨p, h⟩, gb⟩ := o
  exact ⟨⟨_, _, _, _, _, h⟩, gb⟩
section
variable {g : Nat} {w w' : World} {s : FS}
theorem Fx.lt (h : Fx g w s) : g < w.heap.size := by obtain ⟨bo, bn, bc, a, p, h1⟩ := h; exact h1.lt
theorem Fx.above (h : Fx g w s) (hb : Below (g + 1) w w') : Fx g w' s := by obtain ⟨bo, bn, bc, a, p, h1⟩ := h; exact ⟨bo, bn, bc, a, p, h1.above hb⟩
theorem Fx.later (h : Fx g w s) (hb : Below w.heap.size w w') : Fx g w' s := h.above (hb.mono h.lt)
theorem Fx.byt (h : Fx g w s) : Byt s.b := by obtain ⟨bo, bn, bc, a, p, h1⟩ := h; exact h1.byt
theorem Fx.len (h : Fx g w s) : s.b.length ≤ 1099511627776 := by obtain ⟨bo, bn, bc, a, p, h1⟩ := h; have := h1.len; have := h1.mx; omega
end
theorem readText_sz (b : List Int) : (readText b).1.size ≤ b.length := by
  obtain ⟨x, q, er, hr⟩ : ∃ x q er, readInt b = (x, q, er) := ⟨_, _, _, rfl⟩
  by_cases he : er = 0
  · subst he
    by_cases hs : (b.length : Int) - q < x
    · rw [readText_short hr hs]; exact Nat.zero_le _
    · rw [readText_long hr hs]
      simp only
      rw [show (strOfNums ((b.drop q.toNat).take x.toNat)).size = (strOfNums ((b.drop q.toNat).take x.toNat)).data.toList.length by simp, strOfNums_data]
      simp
      omega
  · rw [readText_err hr he]; exact Nat.zero_le _
theorem txA_sz (s : FS) : (txA s).size ≤ s.b.length := by
  unfold txA
  split
  · exact readText_sz _
  · exact Nat.zero_le _

section
variable (g : Nat) (w : World) (s : FS)
theorem want_fx (ok : Bool) (h : Fx g w s) : Calls Try.prog 63 #[.pointer (some ⟨g, 0, none⟩), .bool ok] w fun e w' => e = .returned (.tuple #[]) ∧ OutX g w (waS s ok) w' := by
  obtain ⟨bo, bn, bc, a, p, h1⟩ := h
  exact (want_rd g w bo bn bc a p s ok h1).mono fun _ _ ⟨e, o⟩ => ⟨e, o.x⟩
theorem need_fx (n : Nat) (N : Int) (hN : N = (n : Int)) (h : Fx g w s) : Calls Try.prog 71 #[.pointer (some ⟨g, 0, none⟩), .int .i64 N] w fun e w' => e = .returned (.tuple #[]) ∧ OutX g w (neS s n) w' := by
  obtain ⟨bo, bn, bc, a, p, h1⟩ := h
  exact (need_rd g w bo bn bc a p s n N hN h1).mono fun _ _ ⟨e, o⟩ => ⟨e, o.x⟩
theorem mark_fx (x : Int) (h : Fx g w s) : Calls Try.prog 69 #[.pointer (some ⟨g, 0, none⟩), .int .u64 x] w fun e w' => e = .returned (.tuple #[]) ∧ OutX g w (maS s x) w' := by
  obtain ⟨bo, bn, bc, a, p, h1⟩ := h
  exact (mark_rd g w bo bn bc a p s x h1).mono fun _ _ ⟨e, o⟩ => ⟨e, o.x⟩
theorem number_fx (h : Fx g w s) : Calls Try.prog 64 #[.pointer (some ⟨g, 0, none⟩)] w fun e w' => (e = .returned (.int .u64 (nuA s)) ∧ 0 ≤ nuA s ∧ nuA s < 18446744073709551616) ∧ OutX g w (nuS s) w' := by
  obtain ⟨bo, bn, bc, a, p, h1⟩ := h
  exact (number_rd g w bo bn bc a p s h1).mono fun _ _ ⟨e, o⟩ => ⟨⟨e, nuA_bd h1.byt⟩, o.x⟩
theorem text_fx (h : Fx g w s) : Calls Try.prog 66 #[.pointer (some ⟨g, 0, none⟩)] w fun e w' => (e = .returned (.string (txA s)) ∧ (txA s).size ≤ 1099511627776) ∧ OutX g w (txS s) w' := by
  obtain ⟨bo, bn, bc, a, p, h1⟩ := h
  exact (text_rd g w bo bn bc a p s h1).mono fun _ _ ⟨e, o⟩ => ⟨⟨e, by have := txA_sz s; have := h1.len; have := h1.mx; omega⟩, o.x⟩
theorem fixed_fx (n : Nat) (N M : Int) (hN : N = (n : Int)) (hn1 : 1 ≤ n) (hn : n ≤ 8) (hM : (2 : Int) ^ (8 * n) = M) (h : Fx g w s) : Calls Try.prog 62 #[.pointer (some ⟨g, 0, none⟩), .int .i64 N] w fun e w' => (e = .returned (.int .u64 (fxA s n)) ∧ 0 ≤ fxA s n ∧ fxA s n < M) ∧ OutX g w (fxS s n) w' := by
  obtain ⟨bo, bn, bc, a, p, h1⟩ := h
  exact (fixed_rd g w bo bn bc a p s n N hN hn1 hn h1).mono fun _ _ ⟨e, o⟩ => ⟨⟨e, (fxA_bd h1.byt hn1 hn).1, by have := (fxA_bd h1.byt hn1 hn).2; rw [hM] at this; exact this⟩, o.x⟩
theorem take_fx (n : Nat) (N : Int) (hN : N = (n : Int)) (hn : n ≤ 1099511627776) (h : Fx g w s) : Calls Try.prog 70 #[.pointer (some ⟨g, 0, none⟩), .int .i64 N] w fun e w' => e = .returned (.string (strOfNums (tkA s n))) ∧ OutX g w (tkS s n) w' := by
  obtain ⟨bo, bn, bc, a, p, h1⟩ := h
  exact (take_rd g w bo bn bc a p s n N hN hn h1).mono fun _ _ ⟨e, o⟩ => ⟨e, o.x⟩
theorem rest_fx (h : Fx g w s) : Calls Try.prog 65 #[.pointer (some ⟨g, 0, none⟩)] w fun e w' => e = .returned (.string (strOfNums (reA s))) ∧ OutX g w (reS s) w' := by
  obtain ⟨bo, bn, bc, a, p, h1⟩ := h
  exact (rest_rd g w bo bn bc a p s h1).mono fun _ _ ⟨e, o⟩ => ⟨e, o.x⟩
theorem end_fx (h : Fx g w s) : Calls Try.prog 68 #[.pointer (some ⟨g, 0, none⟩)] w fun e w' => e = .returned (.int .i64 (edS s).e) ∧ OutX g w (edS s) w' := by
  obtain ⟨bo, bn, bc, a, p, h1⟩ := h
  exact (end_rd g w bo bn bc a p s h1).mono fun _ _ ⟨e, o⟩ => ⟨e, o.x⟩
theorem left_fx (h : Fx g w s) : Calls Try.prog 67 #[.pointer (some ⟨g, 0, none⟩)] w fun e w' => e = .returned (.int .i64 (s.b.length : Int)) ∧ OutX g w s w' := by
  obtain ⟨bo, bn, bc, a, p, h1⟩ := h
  refine (left_rd g w bo bn bc a p s h1).mono ?_
  rintro e w' ⟨h2, d, rfl⟩
  exact ⟨h2, ⟨bo, bn, bc, a, p, h1.later (drN_below w d)⟩, (Gb.refl g w).drewN d⟩
end

/-- A function that reads a reply: the result lies in the first new block, the reader in the second, the packet in the third. -/
structure Rw (w0 : World) (T : TypeId) (zc cs : Array Value) (w : World) (s : FS) : Prop where
  fx : Fx (w0.heap.size + 1) w s
  bel : Below w0.heap.size w0 w
  res : w.heap[w0.heap.size]? = some (.cells zc T (0, 0))
  loc : w.heap[w0.heap.size + 2]? = some (.cells cs T (0, 0))
section
variable {w0 : World} {T : TypeId} {zc cs : Array Value} {w : World} {s : FS}
theorem Rw.lt (h : Rw w0 T zc cs w s) : w0.heap.size + 2 < w.heap.size := (Array.getElem?_eq_some_iff.1 h.loc).1
theorem Rw.call (h : Rw w0 T zc cs w s) {s' : FS} {w' : World} (o : OutX (w0.heap.size + 1) w s' w') : Rw w0 T zc cs w' s' := by
  have := h.lt
  exact ⟨o.1, h.bel.trans ((o.2.below (by omega)).mono (by omega)), (o.2.block _ (by omega) (by omega)).trans h.res, (o.2.block _ (by omega) (by omega)).trans h.loc⟩
theorem Rw.later (h : Rw w0 T zc cs w s) {w' : World} (hb : Below w.heap.size w w') : Rw w0 T zc cs w' s := by
  have := h.lt
  exact ⟨h.fx.later hb, h.bel.trans (hb.mono (by omega)), (hb.block _ (by omega)).trans h.res, (hb.block _ (by omega)).trans h.loc⟩
theorem Rw.drew (h : Rw w0 T zc cs w s) : Rw w0 T zc cs w.drew s := h.later ⟨rfl, rfl, rfl, Nat.le_refl _, fun _ _ => rfl⟩
theorem Rw.store (h : Rw w0 T zc cs w s) (j : Nat) (v : Value) {cs' : Array Value} (hc : cs.setIfInBounds j v = cs') : Rw w0 T zc cs' (w.setCell ⟨w0.heap.size + 2, j, none⟩ v) s := by
  have := h.lt
  subst hc
  exact ⟨h.fx.above ((Below.refl _ _).setCell (by simp) _), h.bel.setCell (by simp) _, (heap_setCell_other w ⟨w0.heap.size + 2, j, none⟩ _ _ (by simp)).trans h.res, heap_setCell_same w _ j _ _ _ h.loc⟩
theorem Rw.cell (h : Rw w0 T zc cs w s) {j : Nat} {v : Value} (hj : cs[j]? = some v) : w.cell? ⟨w0.heap.size + 2, j, none⟩ = some v := by rw [cell_of_row _ _ j _ _ _ h.loc]; exact hj
theorem Rw.free (h : Rw w0 T zc cs w s) (j : Nat) : w.frozen? ⟨w0.heap.size + 2, j, none⟩ = false := frozen_of_row w _ j _ _ h.loc
theorem Rw.rcell (h : Rw w0 T zc cs w s) {j : Nat} {v : Value} (hj : zc[j]? = some v) : w.cell? ⟨w0.heap.size, j, none⟩ = some v := by rw [cell_of_row _ _ j _ _ _ h.res]; exact hj
theorem Rw.rfree (h : Rw w0 T zc cs w s) (j : Nat) : w.frozen? ⟨w0.heap.size, j, none⟩ = false := frozen_of_row w _ j _ _ h.res
theorem Rw.new {bo : Option Addr} {bn bc : Nat} {b : List Int} (h : Bs w0 bo bn bc b) (hn : bn ≤ 1099511627776) (zc : Array Value) :
    Rw w0 T zc zc (((w0.alloc (.cells zc T)).alloc (.cells #[.slice bo bn bc, .int .i64 0, .int .i64 0] 105)).alloc (.cells zc T)) ⟨b, 0⟩ := by
  have b1 := below_alloc w0 (.cells zc T)
  have f1 := Fl.new (h.later b1) hn
  have b2 := below_alloc (w0.alloc (.cells zc T)) (.cells #[.slice bo bn bc, .int .i64 0, .int .i64 0] 105)
  have b3 := below_alloc ((w0.alloc (.cells zc T)).alloc (.cells #[.slice bo bn bc, .int .i64 0, .int .i64 0] 105)) (.cells zc T)
  have e1 : (w0.alloc (.cells zc T)).heap.size = w0.heap.size + 1 := by simp
  have e2 : ((w0.alloc (.cells zc T)).alloc (.cells #[.slice bo bn bc, .int .i64 0, .int .i64 0] 105)).heap.size = w0.heap.size + 2 := by simp
  rw [e1] at f1
  refine ⟨⟨_, _, _, _, _, f1.later b3⟩, b1.trans ((b2.mono (by omega)).trans (b3.mono (by omega))), ?_, ?_⟩
  · rw [b3.block _ (by omega), b2.block _ (by omega)]
    exact heap_alloc_new w0 _
  · have := heap_alloc_new ((w0.alloc (.cells zc T)).alloc (.cells #[.slice bo bn bc, .int .i64 0, .int .i64 0] 105)) (.cells zc T)
    rw [e2] at this
    exact this
end

/-- A slice that lies from block B on. -/
def Bk (B : Nat) (w : World) (ao : Option Addr) (n c : Nat) (l : List Int) : Prop := Bs w ao n c l ∧ ∀ k, ob ao k → B ≤ k
theorem Mine.bk {B : Nat} {w : World} {ao : Option Addr} {n c : Nat} {l : List Int} (h : Mine B w ao n c l) : Bk B w ao n c l := ⟨h.bs, fun k hk => (h.ob hk).1⟩
theorem Bk.nought (B : Nat) (w : World) : Bk B w none 0 0 [] := (Mine.nought B w).bk
theorem Bk.mono {B B' : Nat} {w : World} {ao : Option Addr} {n c : Nat} {l : List Int} (h : Bk B w ao n c l) (hB : B' ≤ B) : Bk B' w ao n c l := ⟨h.1, fun k hk => Nat.le_trans hB (h.2 k hk)⟩
theorem Bk.gb {B g : Nat} {w w' : World} {ao : Option Addr} {n c : Nat} {l : List Int} (h : Bk B w ao n c l) (hg : g < B) (hb : Gb g w w') : Bk B w' ao n c l :=
  ⟨h.1.keepB fun k hk hl => hb.block k hl (by have := h.2 k hk; omega), h.2⟩
theorem Bk.later {B : Nat} {w w' : World} {ao : Option Addr} {n c : Nat} {l : List Int} (h : Bk B w ao n c l) (hb : Below w.heap.size w w') : Bk B w' ao n c l := ⟨h.1.later hb, h.2⟩
theorem Bk.set {B g : Nat} {w : World} {ao : Option Addr} {n c : Nat} {l : List Int} (h : Bk B w ao n c l) (hg : g < B) (j : Nat) (v : Value) : Bk B (w.setCell ⟨g, j, none⟩ v) ao n c l := h.gb hg ((Gb.refl g w).set j v)
theorem bk_bytes (w : World) (s : ByteArray) (hs : s.size ≤ 140737488355328) : Bk w.heap.size (Lib.bytesWorld w 5 s) (some ⟨w.heap.size, 0, none⟩) s.size (grownCap w s.size 0 5) (nums s) :=
  ⟨bs_bytesWorld w s hs, fun k hk => by have := ob_some.1 hk; simp at this; omega⟩
/-- A struct that lies in a block, and a number beside it: what a call returns. -/
theorem results_row_tmp {fn : Func} {p u : Tmp} {ty : TypeId} (h : fn.results = #[.cell p ty, .tmp u]) (tmps : Array Value) (w : World) (g : Nat) (cs : Array Value)
    (hp : tmps.getD p undef = .pointer (some ⟨g, 0, none⟩)) (hl : (loadVar ty ⟨g, 0, none⟩).run Try.prog w = .ok (.agg cs) w) :
    (results fn tmps).run Try.prog w = .ok (.tuple #[.agg cs, tmps.getD u undef]) w := by
  rw [results_cell_tmp h, hp]
  simp only [asAddr, Sem.run_pure, Result.andThen, hl]

theorem drew_row {w : World} {g : Nat} {o : Obj} (h : w.heap[g]? = some o) : w.drew.heap[g]? = some o := h
theorem drewN_row {w : World} {g d : Nat} {o : Obj} (h : w.heap[g]? = some o) : (w.drewN d).heap[g]? = some o := h

end Go.Proofs.Ytkijdkbkbelliaa
