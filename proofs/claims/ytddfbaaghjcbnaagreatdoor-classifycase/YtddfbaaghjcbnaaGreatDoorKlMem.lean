/-
  A statement's words through a walk, in memory: a slice of words that is cut, the walk behind its pointer, a class, what a step leaves. Conditions: each word says at most 2 to the 30 bytes.
-/
import Derived.Test.YtddfbaaghjcbnaaGreatDoorKlPlain
import Derived.Test.YtddfbaaghjcbnaaGreatDoorGpFs
import Derived.Deep.WholeRow
import Derived.BigRegion
import Derived.Test.YtddfbaaghjcbnaaGreatDoorWdMem
import Derived.Test.YtddfbaaghjcbnaaGreatDoorTMem
import Derived.Test.YtddfbaaghjcbnaaGreatDoorIMem
import Derived.Laws.ResultCell
namespace Go.Proofs.YtddfbaaghjcbnaaGreatDoor
open Go.RowKit
set_option linter.unusedVariables false
set_option linter.unusedSimpArgs false

/-- 'x = T{..}', in block g. -/
theorem wpList_stK {ops : Array Oper} {rest : List Oper} {o : Oper} {a : Act} {w : World} {Q : Exit → Act → World → Prop} (hgd : o.guard = none) (T : TypeId) (x y : Operand) (ho : o.op = .store T x y)
    (g : Nat) (cs c0 : Array Value) (hx : a.eval x = .pointer (some ⟨g, 0, none⟩)) (hy : a.eval y = .agg cs) (hg : w.heap[g]? = some (.cells c0 T (0, 0))) (hi : (Tryz.prog.info? T).map (·.size) = some cs.size) (h8 : c0.size = cs.size) (h1 : cs.all (·.oneCell') = true)
    (h : ∀ w1, w1.heap[g]? = some (.cells cs T (0, 0)) → Gb g w w1 → w1.heap.size = w.heap.size → wpList Tryz.prog ops Q rest (a.put o.dst undef) w1) : wpList Tryz.prog ops Q (o :: rest) a w := by
  refine wpList_store_row hgd _ x y ho g cs hx hy _ c0 hg hi h8 h1 ?_
  exact h _ (setRow_heap w g _ _ _ _ hg) ⟨rfl, rfl, rfl, by simp, fun j _ hj => setRow_other w g j _ hj⟩ (by simp)
/-- 'var x T'. -/
theorem wpList_alK {ops : Array Oper} {rest : List Oper} {o : Oper} {a : Act} {w : World} {Q : Exit → Act → World → Prop} (hgd : o.guard = none) (T : TypeId) (ho : o.op = .alloc T) (Z : Array Value) (hz : ∀ w, (zeroValue T).run Tryz.prog w = .ok (.agg Z) w)
    (h : ∀ w1, w1.heap[w.heap.size]? = some (.cells Z T (0, 0)) → Below w.heap.size w w1 → w1.heap.size = w.heap.size + 1 → wpList Tryz.prog ops Q rest (a.put o.dst (.pointer (some ⟨w.heap.size, 0, none⟩))) w1) : wpList Tryz.prog ops Q (o :: rest) a w := by
  refine wpList_plain hgd fun K hK' => ?_
  unfold Oper.wp
  simp [execOp, ho, Instr.alloc, hz, Result.andThen]
  exact hK' _ _ (h _ (heap_alloc_new w _) (below_alloc w _) (by simp))
/-- Below a block all is as it was, where one block above it changes. -/
theorem belowG {B g : Nat} {w0 w w' : World} (hb : Below B w0 w) (h : Gb g w w') (hg : B ≤ g) (hB : B ≤ w.heap.size) : Below B w0 w' :=
  hb.trans ⟨h.os, h.tape, h.output, h.size, fun k hk => h.block k (Nat.lt_of_lt_of_le hk hB) (by omega)⟩
theorem belT {w0 w1 w2 : World} (hb : Below w0.heap.size w0 w1) (h : Below w1.heap.size w1 w2) : Below w0.heap.size w0 w2 := hb.trans (h.mono hb.size)

/-- The address of 'l[lo:..]', of words. -/
def cutW (ao : Option Addr) (c lo : Nat) : Option Addr := if c = lo then ao else ao.map (·.add (lo * 3))
theorem Tryz.sizeWd (w : World) : (sizeOf (Tryz.prog.elem 23)).run Tryz.prog w = .ok 3 w := by kernel_rfl
theorem run_cutW_l (ao : Option Addr) (n c lo : Nat) (h1 : lo ≤ n) (L : Int) (hL : L = lo) (w : World) :
    (Instr.slice 23 (.slice ao n c) (some (.int .i64 L)) none none).run Tryz.prog w = .ok (.slice (cutW ao c lo) (n - lo) (c - lo)) w := by
  subst hL
  rw [run_slice_l w 23 ao n c elemW .i64 lo (by omega) (by omega), Tryz.sizeWd]
  rfl
theorem run_cutW_h (ao : Option Addr) (n c hi : Nat) (h2 : hi ≤ c) (H : Int) (hH : H = hi) (w : World) :
    (Instr.slice 23 (.slice ao n c) none (some (.int .i64 H)) none).run Tryz.prog w = .ok (.slice (cutW ao c 0) (hi - 0) (c - 0)) w := by
  subst hH
  rw [run_slice_h w 23 ao n c elemW .i64 hi (by omega) (by omega), Tryz.sizeWd]
  rfl
theorem Wds.cut {w : World} {ao : Option Addr} {n c : Nat} {l : List Wd} (h : Wds w ao n c l) {lo hi : Nat} (h1 : lo ≤ hi) (h2 : hi ≤ n) : Wds w (cutW ao c lo) (hi - lo) (c - lo) ((l.drop lo).take (hi - lo)) := by
  have hl := h.len
  have hle := h.le
  refine ⟨by simp [hl]; omega, by omega, by have := h.max; omega, fun e => ?_, ?_⟩
  · have : ao = none := by
      unfold cutW at e
      split at e
      · exact e
      · simpa using e
    have := h.nil this
    omega
  · by_cases hz : hi - lo = 0
    · exact .inl hz
    · right
      rcases h.at' with h0 | ⟨b, off, rfl, hc⟩
      · omega
      · refine ⟨b, off + lo * 3, by unfold cutW; rw [if_neg (by omega)]; simp [Addr.add_lit], fun i p hp => ?_⟩
        have hi2 : i < hi - lo := by
          have := (List.getElem?_eq_some_iff.1 hp).1
          rw [List.length_take] at this
          omega
        rw [List.getElem?_take_of_lt hi2, List.getElem?_drop] at hp
        have := hc (lo + i) p hp
        rw [show off + lo * 3 + i * 3 = off + (lo + i) * 3 by omega]
        exact this
theorem Wds.cut_l {w : World} {ao : Option Addr} {n c : Nat} {l : List Wd} (h : Wds w ao n c l) {lo : Nat} (h1 : lo ≤ n) : Wds w (cutW ao c lo) (n - lo) (c - lo) (l.drop lo) := by
  have := h.cut h1 (Nat.le_refl n)
  rwa [List.take_of_length_le (by simp [h.len])] at this
theorem ob_cutW {ao : Option Addr} {c lo k : Nat} (h : ob (cutW ao c lo) k) : ob ao k := by
  obtain ⟨a, e, hk⟩ := h
  unfold cutW at e
  split at e
  · exact ⟨a, e, hk⟩
  · cases ao with
    | none => simp at e
    | some z =>
      simp only [Option.map_some, Option.some.injEq] at e
      subst e
      refine ⟨z, rfl, ?_⟩
      simp only [Addr.add] at hk
      split at hk <;> exact hk

theorem Wds.keepZ {w w' : World} {ao : Option Addr} {n c : Nat} {l : List Wd} (h : Wds w ao n c l) (hk : n = 0 ∨ ∀ k, ob ao k → w'.heap[k]? = w.heap[k]?) : Wds w' ao n c l := by
  rcases hk with h0 | hk
  · exact ⟨h.len, h.le, h.max, h.nil, .inl h0⟩
  · exact h.keepB fun k h1 _ => hk k h1
/-- Where there are words, their block lies below. -/
theorem Wds.low {w : World} {ao : Option Addr} {n c : Nat} {l : List Wd} (h : Wds w ao n c l) : n = 0 ∨ ∀ k, ob ao k → k < w.heap.size := by
  rcases h.at' with h0 | ⟨b, off, rfl, hc⟩
  · exact .inl h0
  · cases l with
    | nil => exact .inl (by have := h.len; simpa using this.symm)
    | cons p r =>
      refine .inr fun k hk => ?_
      obtain ⟨a, ha, rfl⟩ := hk
      cases ha
      exact (hc 0 p rfl).lt
theorem low_cut {ao : Option Addr} {n c lo g : Nat} (h : n = 0 ∨ ∀ k, ob ao k → k < g) : n - lo = 0 ∨ ∀ k, ob (cutW ao c lo) k → k < g := by
  rcases h with h | h
  · exact .inl (by omega)
  · exact .inr fun k hk => h k (ob_cutW hk)
theorem low_keep {ao : Option Addr} {n g B : Nat} {w w' : World} (h : n = 0 ∨ ∀ k, ob ao k → k < g) (hb : Below B w w') (hg : g ≤ B) : n = 0 ∨ ∀ k, ob ao k → w'.heap[k]? = w.heap[k]? := by
  rcases h with h | h
  · exact .inl h
  · exact .inr fun k hk => hb.block k (Nat.lt_of_lt_of_le (h k hk) hg)
/-- Words, what was passed over: none is too great. -/
structure WB (S : WS) : Prop where
  tx : ∀ x ∈ S.left, x.tx.size ≤ 1073741824
  nm : S.nm.size ≤ 3221225472
  va : S.va.size ≤ 3221225472
theorem WB.mk0 {l : List Wd} (h : ∀ x ∈ l, x.tx.size ≤ 1073741824) : WB (ws0 l) := ⟨h, by simp [ws0, ba_size], by simp [ws0, ba_size]⟩
/-- The walk's three cells in block g; its words lie below block B. -/
structure WkA (B g : Nat) (ao : Option Addr) (n c : Nat) (S : WS) (w : World) : Prop where
  row : w.heap[g]? = some (.cells #[.slice ao n c, .string S.nm, .string S.va] 94 (0, 0))
  wds : Wds w ao n c S.left
  low : n = 0 ∨ ∀ k, ob ao k → k < B
  bg : B ≤ g
  wb : WB S
def Wk (B g : Nat) (S : WS) (w : World) : Prop := ∃ ao n c, WkA B g ao n c S w
theorem WkA.lt {B g : Nat} {ao : Option Addr} {n c : Nat} {S : WS} {w : World} (h : WkA B g ao n c S w) : g < w.heap.size := (Array.getElem?_eq_some_iff.1 h.row).1
theorem Wk.lt {B g : Nat} {S : WS} {w : World} (h : Wk B g S w) : g < w.heap.size := by obtain ⟨ao, n, c, h⟩ := h; exact h.lt
theorem Wk.bg {B g : Nat} {S : WS} {w : World} (h : Wk B g S w) : B ≤ g := by obtain ⟨ao, n, c, h⟩ := h; exact h.bg
theorem Wk.wb {B g : Nat} {S : WS} {w : World} (h : Wk B g S w) : WB S := by obtain ⟨ao, n, c, h⟩ := h; exact h.wb
theorem WkA.below {B g D : Nat} {ao : Option Addr} {n c : Nat} {S : WS} {w w' : World} (h : WkA B g ao n c S w) (hb : Below D w w') (hg : g < D) : WkA B g ao n c S w' :=
  ⟨by rw [hb.block g hg]; exact h.row, h.wds.keepZ (low_keep h.low hb (Nat.le_trans h.bg (Nat.le_of_lt hg))), h.low, h.bg, h.wb⟩
theorem Wk.below {B g D : Nat} {S : WS} {w w' : World} (h : Wk B g S w) (hb : Below D w w') (hg : g < D) : Wk B g S w' := by obtain ⟨ao, n, c, h⟩ := h; exact ⟨ao, n, c, h.below hb hg⟩
theorem WkA.later {B g : Nat} {ao : Option Addr} {n c : Nat} {S : WS} {w w' : World} (h : WkA B g ao n c S w) (hb : Below w.heap.size w w') : WkA B g ao n c S w' := h.below hb h.lt
theorem Wk.later {B g : Nat} {S : WS} {w w' : World} (h : Wk B g S w) (hb : Below w.heap.size w w') : Wk B g S w' := h.below hb h.lt
theorem WkA.c0 {B g : Nat} {ao : Option Addr} {n c : Nat} {S : WS} {w : World} (h : WkA B g ao n c S w) : w.cell? ⟨g, 0, none⟩ = some (.slice ao n c) := by rw [cell_of_row w g 0 _ _ _ h.row]; rfl
theorem WkA.c1 {B g : Nat} {ao : Option Addr} {n c : Nat} {S : WS} {w : World} (h : WkA B g ao n c S w) : w.cell? ⟨g, 1, none⟩ = some (.string S.nm) := by rw [cell_of_row w g 1 _ _ _ h.row]; rfl
theorem WkA.c2 {B g : Nat} {ao : Option Addr} {n c : Nat} {S : WS} {w : World} (h : WkA B g ao n c S w) : w.cell? ⟨g, 2, none⟩ = some (.string S.va) := by rw [cell_of_row w g 2 _ _ _ h.row]; rfl
theorem WkA.fr {B g : Nat} {ao : Option Addr} {n c : Nat} {S : WS} {w : World} (h : WkA B g ao n c S w) (j : Nat) : w.frozen? ⟨g, j, none⟩ = false := frozen_of_row w g j _ _ h.row
theorem WkA.wk {B g : Nat} {ao : Option Addr} {n c : Nat} {S : WS} {w : World} (h : WkA B g ao n c S w) : Wk B g S w := ⟨ao, n, c, h⟩
theorem below_set (g j : Nat) (w : World) (v : Value) : Below g w (w.setCell ⟨g, j, none⟩ v) := (Below.refl g w).setCell (Nat.le_refl _) _
theorem WkA.set0 {B g : Nat} {ao : Option Addr} {n c : Nat} {S : WS} {w : World} (h : WkA B g ao n c S w) {lo : Nat} (hl : lo ≤ n) : WkA B g (cutW ao c lo) (n - lo) (c - lo) { S with left := S.left.drop lo } (w.setCell ⟨g, 0, none⟩ (.slice (cutW ao c lo) (n - lo) (c - lo))) :=
  ⟨heap_setCell_same w g 0 _ _ _ h.row, (h.wds.cut_l hl).keepZ (low_keep (low_cut h.low) (below_set g 0 w _) h.bg), low_cut h.low, h.bg, ⟨fun x hx => h.wb.tx x (List.mem_of_mem_drop hx), h.wb.nm, h.wb.va⟩⟩
theorem WkA.set1 {B g : Nat} {ao : Option Addr} {n c : Nat} {S : WS} {w : World} (h : WkA B g ao n c S w) {v : ByteArray} (hv : v.size ≤ 3221225472) : WkA B g ao n c { S with nm := v } (w.setCell ⟨g, 1, none⟩ (.string v)) :=
  ⟨heap_setCell_same w g 1 _ _ _ h.row, h.wds.keepZ (low_keep h.low (below_set g 1 w _) h.bg), h.low, h.bg, ⟨h.wb.tx, hv, h.wb.va⟩⟩
theorem WkA.set2 {B g : Nat} {ao : Option Addr} {n c : Nat} {S : WS} {w : World} (h : WkA B g ao n c S w) {v : ByteArray} (hv : v.size ≤ 3221225472) : WkA B g ao n c { S with va := v } (w.setCell ⟨g, 2, none⟩ (.string v)) :=
  ⟨heap_setCell_same w g 2 _ _ _ h.row, h.wds.keepZ (low_keep h.low (below_set g 2 w _) h.bg), h.low, h.bg, ⟨h.wb.tx, h.wb.nm, hv⟩⟩

/-- What a step on the walk in block g leaves. -/
def OutS (B g : Nat) (w : World) (b : Bool) (S : WS) (e : Ending) (w' : World) : Prop := e = .returned (.bool b) ∧ Wk B g S w' ∧ Below g w w'
theorem OutS.of {B g : Nat} {w w' : World} {b b' : Bool} {S S' : WS} (hb : b = b') (hS : S = S') (hk : Wk B g S w') (hl : Below g w w') : OutS B g w b' S' (.returned (.bool b)) w' := ⟨by rw [hb], by rw [← hS]; exact hk, hl⟩

/-- A class's cells. -/
def clC (c : Cl) : Array Value := #[.int .i64 c.k, .string c.nm, .string c.va]
theorem clc_one (c : Cl) : (clC c).all (·.oneCell') = true := by simp [clC, Value.oneCell']
theorem clc_info (c : Cl) : (Tryz.prog.info? 40).map (·.size) = some (clC c).size := by
  rw [show (clC c).size = 3 from rfl]
  kernel_rfl
def Clb (g : Nat) (c : Cl) (w : World) : Prop := w.heap[g]? = some (.cells (clC c) 40 (0, 0))
theorem Clb.lt {g : Nat} {c : Cl} {w : World} (h : Clb g c w) : g < w.heap.size := (Array.getElem?_eq_some_iff.1 h).1
theorem Clb.below {g B : Nat} {c : Cl} {w w' : World} (h : Clb g c w) (hb : Below B w w') (hg : g < B) : Clb g c w' := by
  unfold Clb
  rw [hb.block g hg]
  exact h
theorem Clb.later {g : Nat} {c : Cl} {w w' : World} (h : Clb g c w) (hb : Below w.heap.size w w') : Clb g c w' := h.below hb h.lt
theorem Clb.gb {g k : Nat} {c : Cl} {w w' : World} (h : Clb g c w) (hb : Gb k w w') (hk : g ≠ k) : Clb g c w' := by
  unfold Clb
  rw [hb.block g h.lt hk]
  exact h
theorem Clb.run {g : Nat} {c : Cl} {w : World} (h : Clb g c w) : (loadVar 40 ⟨g, 0, none⟩).run Tryz.prog w = .ok (.agg (clC c)) w :=
  run_loadVar_row w g _ _ _ _ _ h Tryz.underlying40 rfl (clc_info c)
theorem zeroCl (w : World) : (zeroValue 40).run Tryz.prog w = .ok (.agg (clC cl0)) w := by kernel_rfl
/-- 'var c Class'. -/
theorem wpList_alC {ops : Array Oper} {rest : List Oper} {o : Oper} {a : Act} {w : World} {Q : Exit → Act → World → Prop} (hgd : o.guard = none) (ho : o.op = .alloc 40)
    (h : ∀ w1, Clb w.heap.size cl0 w1 → Below w.heap.size w w1 → w1.heap.size = w.heap.size + 1 → wpList Tryz.prog ops Q rest (a.put o.dst (.pointer (some ⟨w.heap.size, 0, none⟩))) w1) : wpList Tryz.prog ops Q (o :: rest) a w :=
  wpList_alK hgd _ ho (clC cl0) zeroCl h
/-- 'c = ..', in block g. -/
theorem wpList_stC {ops : Array Oper} {rest : List Oper} {o : Oper} {a : Act} {w : World} {Q : Exit → Act → World → Prop} (hgd : o.guard = none) (x y : Operand) (ho : o.op = .store 40 x y)
    (g : Nat) (c c0 : Cl) (hx : a.eval x = .pointer (some ⟨g, 0, none⟩)) (hy : a.eval y = .agg (clC c)) (hg : Clb g c0 w)
    (h : ∀ w1, Clb g c w1 → Gb g w w1 → w1.heap.size = w.heap.size → wpList Tryz.prog ops Q rest (a.put o.dst undef) w1) : wpList Tryz.prog ops Q (o :: rest) a w :=
  wpList_stK hgd _ x y ho g (clC c) (clC c0) hx hy hg (clc_info c) rfl (clc_one c) h
/-- 'c', loaded whole. -/
theorem wpList_ldC {ops : Array Oper} {rest : List Oper} {o : Oper} {a : Act} {w : World} {Q : Exit → Act → World → Prop} (hgd : o.guard = none) (x : Operand) (ho : o.op = .load 40 x)
    (g : Nat) (c : Cl) (hx : a.eval x = .pointer (some ⟨g, 0, none⟩)) (hg : Clb g c w)
    (h : wpList Tryz.prog ops Q rest (a.put o.dst (.agg (clC c))) w) : wpList Tryz.prog ops Q (o :: rest) a w :=
  wpList_load_row hgd _ x ho g hx _ (clC c) (0, 0) _ hg Tryz.underlying40 rfl (clc_info c) h
/-- What a function that answers a class, and whether there is one, leaves. -/
def OutC (w : World) (r : Cl × Bool) (e : Ending) (w' : World) : Prop := e = .returned (.tuple #[.agg (clC r.1), .bool r.2]) ∧ Below w.heap.size w w'
theorem clb_end {w0 w : World} {fn : Func} {p u : Tmp} {a : Act} (h : fn.results = #[.cell p 40, .tmp u]) (g : Nat) (r R : Cl × Bool) (hp : a.tmps.getD p undef = .pointer (some ⟨g, 0, none⟩)) (hu : a.tmps.getD u undef = .bool r.2) (hd : a.defers = []) (hg : Clb g r.1 w) (hF : r = R) (hb : Below w0.heap.size w0 w) :
    bodyPost Tryz.prog fn (fun e w' => OutC w0 R e w') .ret a w := by
  subst hF
  refine bodyPost_ret (v := .tuple #[.agg (clC r.1), .bool r.2]) ?_ hd ⟨rfl, hb⟩
  rw [results_cell_tmp h, hp, hu]
  simp only [asAddr, Sem.run_pure, Result.andThen_ok, hg.run]
theorem cl_end {w0 w : World} {fn : Func} {p : Tmp} {a : Act} (h : fn.results = #[.cell p 40]) (g : Nat) (c C : Cl) (hp : a.tmps.getD p undef = .pointer (some ⟨g, 0, none⟩)) (hd : a.defers = []) (hg : Clb g c w) (hF : c = C) (hb : Below w0.heap.size w0 w) :
    bodyPost Tryz.prog fn (fun e w' => e = .returned (.agg (clC C)) ∧ Below w0.heap.size w0 w') .ret a w :=
  bodyPost_ret (results_cell_row h _ _ g _ (clC c) _ _ hp hg Tryz.underlying40 rfl (clc_info _)) hd ⟨by rw [hF], hb⟩

end Go.Proofs.YtddfbaaghjcbnaaGreatDoor
