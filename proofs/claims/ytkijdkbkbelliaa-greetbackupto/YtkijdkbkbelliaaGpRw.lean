/-
  The calls of a reader of logins' packets by their states, and the memory of a function that reads a packet: its result's block, the reader's, the packet's own. Conditions: the slice can be read; at most 2 to the 40 bytes are left to read.
-/
import Derived.Test.YtkijdkbkbelliaaGpRdAt
import Derived.Test.YtkijdkbkbelliaaGpCat
namespace Go.Proofs.Ytkijdkbkbelliaa
open Go.RowKit
set_option linter.unusedVariables false
set_option linter.unusedSimpArgs false

/-- The reader in block g is in the state s. -/
def Fx (g : Nat) (w : World) (s : FS) : Prop := (∃ bo bn bc, Fl g w bo bn bc s) ∧ s.b.length ≤ 1099511627776
/-- Behind a call. -/
def OutX (g : Nat) (w : World) (s : FS) (w' : World) : Prop := Fx g w' s ∧ Gb g w w'
theorem Fx.out {g : Nat} {w w' : World} {s s' : FS} (h : Fx g w s) (o : OutF g w s' w') (hl : s'.b.length ≤ s.b.length) : OutX g w s' w' := ⟨⟨o.1, Nat.le_trans hl h.2⟩, o.2⟩
theorem Fx.lt {g : Nat} {w : World} {s : FS} (h : Fx g w s) : g < w.heap.size := by obtain ⟨⟨bo, bn, bc, h1⟩, _⟩ := h; exact h1.lt
theorem Fx.above {g : Nat} {w w' : World} {s : FS} (h : Fx g w s) (hb : Below (g + 1) w w') : Fx g w' s := by obtain ⟨⟨bo, bn, bc, h1⟩, h2⟩ := h; exact ⟨⟨bo, bn, bc, h1.above hb⟩, h2⟩
theorem Fx.later {g : Nat} {w w' : World} {s : FS} (h : Fx g w s) (hb : Below w.heap.size w w') : Fx g w' s := h.above (hb.mono h.lt)
theorem Fx.c1 {g : Nat} {w : World} {s : FS} (h : Fx g w s) : w.cell? ⟨g, 1, none⟩ = some (.int .i64 s.e) := by obtain ⟨⟨bo, bn, bc, h1⟩, _⟩ := h; exact h1.c1
theorem Fx.byt {g : Nat} {w : World} {s : FS} (h : Fx g w s) : Byt s.b := by obtain ⟨⟨bo, bn, bc, h1⟩, _⟩ := h; exact h1.bs.byt

theorem paS_le (s : FS) (n : Nat) (e : Int) : (paS s n e).b.length ≤ s.b.length := by unfold paS; split <;> simp
theorem waS_le (s : FS) (x : Bool) : (waS s x).b.length ≤ s.b.length := by rw [waS_b]; exact Nat.le_refl _
theorem tkS_le (s : FS) (n : Nat) : (tkS s n).b.length ≤ s.b.length := by
  unfold tkS
  split
  · split
    · exact Nat.le_refl _
    · simp
  · exact Nat.le_refl _
theorem fxS_le (s : FS) (n : Nat) : (fxS s n).b.length ≤ s.b.length := by unfold fxS; split; exact paS_le _ _ _; exact Nat.le_refl _
theorem enS_le (s : FS) : (enS s).b.length ≤ s.b.length := by unfold enS; split; exact paS_le _ _ _; exact Nat.le_refl _

section
variable (g : Nat) (w : World) (s : FS)
theorem want_fx (ok : Bool) (h : Fx g w s) : Calls Try.prog 101 #[.pointer (some ⟨g, 0, none⟩), .bool ok] w fun e w' => e = .returned (.tuple #[]) ∧ OutX g w (waS s ok) w' := by
  obtain ⟨⟨bo, bn, bc, h1⟩, h2⟩ := id h
  exact (want_out g w bo bn bc s ok h1).mono fun _ _ ⟨e, o⟩ => ⟨e, h.out o (waS_le _ _)⟩
theorem mark_fx (x : Int) (h : Fx g w s) : Calls Try.prog 96 #[.pointer (some ⟨g, 0, none⟩), .int .u64 x] w fun e w' => e = .returned (.tuple #[]) ∧ OutX g w (maS s x) w' := by
  obtain ⟨⟨bo, bn, bc, h1⟩, h2⟩ := id h
  exact (mark_rd g w bo bn bc s x h1).mono fun _ _ ⟨e, o⟩ => ⟨e, h.out o (Nat.le_trans (waS_le _ _) (fxS_le _ _))⟩
theorem ended_fx (h : Fx g w s) : Calls Try.prog 97 #[.pointer (some ⟨g, 0, none⟩)] w fun e w' => e = .returned (.string (enA s)) ∧ OutX g w (enS s) w' := by
  obtain ⟨⟨bo, bn, bc, h1⟩, h2⟩ := id h
  exact (ended_rd g w bo bn bc s h1).mono fun _ _ ⟨e, o⟩ => ⟨e, h.out o (enS_le _)⟩
theorem text_fx (h : Fx g w s) : Calls Try.prog 110 #[.pointer (some ⟨g, 0, none⟩)] w fun e w' => (e = .returned (.string (txA s)) ∧ (txA s).size ≤ 140737488355328) ∧ OutX g w (txS s) w' := by
  obtain ⟨⟨bo, bn, bc, h1⟩, h2⟩ := id h
  refine (text_rd g w bo bn bc s h1).mono fun _ _ ⟨e, o⟩ => ⟨⟨e, ?_⟩, h.out o (txS_le _)⟩
  unfold txA
  split
  · obtain ⟨x, q, er, hr⟩ : ∃ x q er, readInt s.b = (x, q, er) := ⟨_, _, _, rfl⟩
    by_cases he : er = 0
    · subst he
      by_cases hs : (s.b.length : Int) - q < x
      · rw [readText_short hr hs]; exact Nat.zero_le _
      · rw [readText_long hr hs]
        simp only
        rw [show (strOfNums ((s.b.drop q.toNat).take x.toNat)).size = (strOfNums ((s.b.drop q.toNat).take x.toNat)).data.toList.length by simp, strOfNums_data]
        simp
        omega
    · rw [readText_err hr he]; exact Nat.zero_le _
  · exact Nat.zero_le _
theorem fixed_fx (n : Nat) (N M : Int) (hN : N = (n : Int)) (hn1 : 1 ≤ n) (hn : n ≤ 8) (hM : (2 : Int) ^ (8 * n) = M) (h : Fx g w s) : Calls Try.prog 98 #[.pointer (some ⟨g, 0, none⟩), .int .i64 N] w fun e w' => (e = .returned (.int .u64 (fxA s n)) ∧ 0 ≤ fxA s n ∧ fxA s n < M) ∧ OutX g w (fxS s n) w' := by
  obtain ⟨⟨bo, bn, bc, h1⟩, h2⟩ := id h
  exact (fixed_out g w bo bn bc s n N M hN hn1 hn hM h1).mono fun _ _ ⟨e, o⟩ => ⟨e, h.out o (fxS_le _ _)⟩
theorem zeros_fx (n : Nat) (N : Int) (hN : N = (n : Int)) (hn : n ≤ 100000) (h : Fx g w s) : Calls Try.prog 100 #[.pointer (some ⟨g, 0, none⟩), .int .i64 N] w fun e w' => e = .returned (.tuple #[]) ∧ OutX g w (zeS s n) w' := by
  obtain ⟨⟨bo, bn, bc, h1⟩, h2⟩ := id h
  exact (zeros_rd g w bo bn bc s n N hN hn h1).mono fun _ _ ⟨e, o⟩ => ⟨e, h.out o (Nat.le_trans (waS_le _ _) (tkS_le _ _))⟩
theorem nonce_fx (n : Nat) (N : Int) (hN : N = (n : Int)) (hn : n ≤ 20) (h : Fx g w s) : Calls Try.prog 99 #[.pointer (some ⟨g, 0, none⟩), .int .i64 N] w fun e w' => ∃ xo xn xc, e = .returned (.slice xo xn xc) ∧ Mine w.heap.size w' xo xn xc (tkA s n) ∧ OutX g w (noS s n) w' := by
  obtain ⟨⟨bo, bn, bc, h1⟩, h2⟩ := id h
  exact (nonce_rd g w bo bn bc s n N hN hn h1).mono fun _ _ ⟨xo, xn, xc, e, m, o⟩ => ⟨xo, xn, xc, e, m, h.out o (Nat.le_trans (waS_le _ _) (tkS_le _ _))⟩
theorem short_fx (h : Fx g w s) : Calls Try.prog 111 #[.pointer (some ⟨g, 0, none⟩)] w fun e w' => ∃ xo xn xc, e = .returned (.slice xo xn xc) ∧ Mine w.heap.size w' xo xn xc (shA s) ∧ OutX g w (shS s) w' := by
  obtain ⟨⟨bo, bn, bc, h1⟩, h2⟩ := id h
  exact (short_rd g w bo bn bc s h1).mono fun _ _ ⟨xo, xn, xc, e, m, o⟩ => ⟨xo, xn, xc, e, m, h.out o (Nat.le_trans (tkS_le _ _) (fxS_le _ _))⟩
theorem plugin_fx (c : Int) (h : Fx g w s) : Calls Try.prog 104 #[.pointer (some ⟨g, 0, none⟩), .int .u32 c] w fun e w' => e = .returned (.string (plA s c)) ∧ OutX g w (plS s c) w' := by
  obtain ⟨⟨bo, bn, bc, h1⟩, h2⟩ := id h
  exact (plugin_rd g w bo bn bc s c h1).mono fun _ _ ⟨e, o⟩ => ⟨e, h.out o (by unfold plS; split; exact enS_le _; exact Nat.le_refl _)⟩
theorem attrs_fx (c : Int) (h : Fx g w s) : Calls Try.prog 112 #[.pointer (some ⟨g, 0, none⟩), .int .u32 c] w fun e w' => ∃ xo xn xc, e = .returned (.slice xo xn xc) ∧ AMine w.heap.size w' xo xn xc (atA s c) ∧ OutX g w (atS s c) w' := by
  obtain ⟨⟨bo, bn, bc, h1⟩, h2⟩ := id h
  exact (attrs_rd g w bo bn bc s c h1 h2).mono fun _ _ ⟨xo, xn, xc, e, m, o⟩ => ⟨xo, xn, xc, e, m, h.out o (by unfold atS; split; exact Nat.le_trans (waS_le _ _) (txS_le _); exact Nat.le_refl _)⟩
theorem end_fx (h : Fx g w s) : Calls Try.prog 105 #[.pointer (some ⟨g, 0, none⟩)] w fun e w' => e = .returned (.tuple #[]) ∧ OutX g w (edS s) w' := by
  obtain ⟨⟨bo, bn, bc, h1⟩, h2⟩ := id h
  exact (end_rd g w bo bn bc s h1).mono fun _ _ ⟨e, o⟩ => ⟨e, h.out o (waS_le _ _)⟩
end

/-- A function that reads a packet: the result lies in the first new block, the reader in the second, the packet in the third. -/
structure Rw (w0 : World) (T : TypeId) (zc cs : Array Value) (w : World) (s : FS) : Prop where
  fx : Fx (w0.heap.size + 1) w s
  bel : Below w0.heap.size w0 w
  res : w.heap[w0.heap.size]? = some (.cells zc T (0, 0))
  loc : w.heap[w0.heap.size + 2]? = some (.cells cs T (0, 0))
section
variable {w0 : World} {T : TypeId} {zc cs : Array Value} {w : World} {s : FS}
theorem Rw.lt (h : Rw w0 T zc cs w s) : w0.heap.size + 2 < w.heap.size := (Array.getElem?_eq_some_iff.1 h.loc).1
theorem Rw.call (h : Rw w0 T zc cs w s) {s' : FS} {w' : World} (o : OutX (w0.heap.size + 1) w s' w') : Rw w0 T zc cs w' s' := by
  have := h.lt
  exact ⟨o.1, h.bel.trans ((o.2.below (by omega)).mono (by omega)), (o.2.block _ (by omega) (by omega)).trans h.res, (o.2.block _ (by omega) (by omega)).trans h.loc⟩
theorem Rw.later (h : Rw w0 T zc cs w s) {w' : World} (hb : Below w.heap.size w w') : Rw w0 T zc cs w' s := by
  have := h.lt
  exact ⟨h.fx.later hb, h.bel.trans (hb.mono (by omega)), (hb.block _ (by omega)).trans h.res, (hb.block _ (by omega)).trans h.loc⟩
theorem Rw.drew (h : Rw w0 T zc cs w s) : Rw w0 T zc cs w.drew s := h.later ⟨rfl, rfl, rfl, Nat.le_refl _, fun _ _ => rfl⟩
theorem Rw.store (h : Rw w0 T zc cs w s) (j : Nat) (v : Value) {cs' : Array Value} (hc : cs.setIfInBounds j v = cs') : Rw w0 T zc cs' (w.setCell ⟨w0.heap.size + 2, j, none⟩ v) s := by
  have := h.lt
  subst hc
  exact ⟨h.fx.above ((Below.refl _ _).setCell (by simp) _), h.bel.setCell (by simp) _, (heap_setCell_other w ⟨w0.heap.size + 2, j, none⟩ _ _ (by simp)).trans h.res, heap_setCell_same w _ j _ _ _ h.loc⟩
theorem Rw.cell (h : Rw w0 T zc cs w s) {j : Nat} {v : Value} (hj : cs[j]? = some v) : w.cell? ⟨w0.heap.size + 2, j, none⟩ = some v := by rw [cell_of_row _ _ j _ _ _ h.loc]; exact hj
theorem Rw.free (h : Rw w0 T zc cs w s) (j : Nat) : w.frozen? ⟨w0.heap.size + 2, j, none⟩ = false := frozen_of_row w _ j _ _ h.loc
theorem Rw.rcell (h : Rw w0 T zc cs w s) {j : Nat} {v : Value} (hj : zc[j]? = some v) : w.cell? ⟨w0.heap.size, j, none⟩ = some v := by rw [cell_of_row _ _ j _ _ _ h.res]; exact hj
theorem Rw.rfree (h : Rw w0 T zc cs w s) (j : Nat) : w.frozen? ⟨w0.heap.size, j, none⟩ = false := frozen_of_row w _ j _ _ h.res
theorem Rw.new {bo : Option Addr} {bn bc : Nat} {b : List Int} (h : Bs w0 bo bn bc b) (hn : bn ≤ 1099511627776) (zc : Array Value) :
    Rw w0 T zc zc (((w0.alloc (.cells zc T)).alloc (.cells #[.slice bo bn bc, .int .i64 0] 137)).alloc (.cells zc T)) ⟨b, 0⟩ := by
  have b1 := below_alloc w0 (.cells zc T)
  have f1 := Fl.new (h.later b1)
  have b2 := below_alloc (w0.alloc (.cells zc T)) (.cells #[.slice bo bn bc, .int .i64 0] 137)
  have b3 := below_alloc ((w0.alloc (.cells zc T)).alloc (.cells #[.slice bo bn bc, .int .i64 0] 137)) (.cells zc T)
  have e1 : (w0.alloc (.cells zc T)).heap.size = w0.heap.size + 1 := by simp
  have e2 : ((w0.alloc (.cells zc T)).alloc (.cells #[.slice bo bn bc, .int .i64 0] 137)).heap.size = w0.heap.size + 2 := by simp
  rw [e1] at f1
  refine ⟨⟨⟨_, _, _, f1.later b3⟩, by rw [h.len]; exact hn⟩, b1.trans ((b2.mono (by omega)).trans (b3.mono (by omega))), ?_, ?_⟩
  · rw [b3.block _ (by omega), b2.block _ (by omega)]
    exact heap_alloc_new w0 _
  · have := heap_alloc_new ((w0.alloc (.cells zc T)).alloc (.cells #[.slice bo bn bc, .int .i64 0] 137)) (.cells zc T)
    rw [e2] at this
    exact this
end

/-- A slice that lies from block B on. -/
def Bk (B : Nat) (w : World) (ao : Option Addr) (n c : Nat) (l : List Int) : Prop := Bs w ao n c l ∧ ∀ k, ob ao k → B ≤ k
theorem Mine.bk {B : Nat} {w : World} {ao : Option Addr} {n c : Nat} {l : List Int} (h : Mine B w ao n c l) : Bk B w ao n c l := ⟨h.bs, fun k hk => (h.ob hk).1⟩
theorem Bk.nought (B : Nat) (w : World) : Bk B w none 0 0 [] := (Mine.nought B w).bk
theorem Bk.mono {B B' : Nat} {w : World} {ao : Option Addr} {n c : Nat} {l : List Int} (h : Bk B w ao n c l) (hB : B' ≤ B) : Bk B' w ao n c l := ⟨h.1, fun k hk => Nat.le_trans hB (h.2 k hk)⟩
theorem Bk.gb {B g : Nat} {w w' : World} {ao : Option Addr} {n c : Nat} {l : List Int} (h : Bk B w ao n c l) (hg : g < B) (hb : Gb g w w') : Bk B w' ao n c l :=
  ⟨h.1.keepB fun k hk hl => hb.block k hl (by have := h.2 k hk; omega), h.2⟩
theorem Bk.later {B : Nat} {w w' : World} {ao : Option Addr} {n c : Nat} {l : List Int} (h : Bk B w ao n c l) (hb : Below w.heap.size w w') : Bk B w' ao n c l := ⟨h.1.later hb, h.2⟩
theorem Bk.set {B g : Nat} {w : World} {ao : Option Addr} {n c : Nat} {l : List Int} (h : Bk B w ao n c l) (hg : g < B) (j : Nat) (v : Value) : Bk B (w.setCell ⟨g, j, none⟩ v) ao n c l := h.gb hg ((Gb.refl g w).set j v)
theorem bk_bytes (w : World) (s : ByteArray) (hs : s.size ≤ 140737488355328) : Bk w.heap.size (Lib.bytesWorld w 5 s) (some ⟨w.heap.size, 0, none⟩) s.size (grownCap w s.size 0 5) (nums s) :=
  ⟨bs_bytesWorld w s hs, fun k hk => by have := ob_some.1 hk; simp at this; omega⟩
/-- Attributes that lie from block B on. -/
def Ak (B : Nat) (w : World) (ao : Option Addr) (n c : Nat) (l : List At) : Prop := As w ao n c l ∧ ∀ k, ob ao k → B ≤ k
theorem AMine.ak {B : Nat} {w : World} {ao : Option Addr} {n c : Nat} {l : List At} (h : AMine B w ao n c l) : Ak B w ao n c l := ⟨h.as, fun k hk => (h.ob hk).1⟩
theorem Ak.nought (B : Nat) (w : World) : Ak B w none 0 0 [] := (AMine.nought B w).ak
theorem Ak.mono {B B' : Nat} {w : World} {ao : Option Addr} {n c : Nat} {l : List At} (h : Ak B w ao n c l) (hB : B' ≤ B) : Ak B' w ao n c l := ⟨h.1, fun k hk => Nat.le_trans hB (h.2 k hk)⟩
theorem Ak.gb {B g : Nat} {w w' : World} {ao : Option Addr} {n c : Nat} {l : List At} (h : Ak B w ao n c l) (hg : g < B) (hb : Gb g w w') : Ak B w' ao n c l :=
  ⟨h.1.keepB fun k hk hl => hb.block k hl (by have := h.2 k hk; omega), h.2⟩
theorem Ak.later {B : Nat} {w w' : World} {ao : Option Addr} {n c : Nat} {l : List At} (h : Ak B w ao n c l) (hb : Below w.heap.size w w') : Ak B w' ao n c l := ⟨h.1.later hb, h.2⟩
theorem Ak.set {B g : Nat} {w : World} {ao : Option Addr} {n c : Nat} {l : List At} (h : Ak B w ao n c l) (hg : g < B) (j : Nat) (v : Value) : Ak B (w.setCell ⟨g, j, none⟩ v) ao n c l := h.gb hg ((Gb.refl g w).set j v)

/-- A struct that lies in a block, and a number beside it: what a call returns. -/
theorem results_row_tmp {fn : Func} {p u : Tmp} {ty : TypeId} (h : fn.results = #[.cell p ty, .tmp u]) (tmps : Array Value) (w : World) (g : Nat) (cs : Array Value)
    (hp : tmps.getD p undef = .pointer (some ⟨g, 0, none⟩)) (hl : (loadVar ty ⟨g, 0, none⟩).run Try.prog w = .ok (.agg cs) w) :
    (results fn tmps).run Try.prog w = .ok (.tuple #[.agg cs, tmps.getD u undef]) w := by
  rw [results_cell_tmp h, hp]
  simp only [asAddr, Sem.run_pure, Result.andThen, hl]

end Go.Proofs.Ytkijdkbkbelliaa
