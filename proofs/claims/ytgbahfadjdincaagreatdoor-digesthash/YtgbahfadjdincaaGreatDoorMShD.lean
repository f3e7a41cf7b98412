/-
  A hash in memory: one block that holds its kind, its words, what is no whole block, and how many bytes there were; and which blocks a call may have changed. Conditions: none.
  What the words behind a block are, and that they are words. No condition.
  What bytes that come in pieces leave: the words behind the whole blocks, and what is no whole block; and what the bytes with their end make. No program and no memory is named here.
  What endBlock of package sha does to a hash of the kind 1: the words behind the block that the rest is, and no rest. Conditions: the table of constants holds what the program's text says.
  What endBlock of package sha does to a hash of the kind 2: the words behind the block that the rest is, and no rest. Conditions: the table of constants holds what the program's text says.
-/
import Derived.Test.YtgbahfadjdincaaGreatDoorMShC
import Derived.Deep.DrawnRows
namespace Go.Proofs.YtgbahfadjdincaaGreatDoor.Sha
open Go.RowKit
set_option linter.unusedVariables false
set_option linter.unusedSimpArgs false

/-- Only block g has changed; there may be new ones. -/
structure Gb (g : Nat) (w w' : World) : Prop where
  os : w'.os = w.os
  tape : w'.tape = w.tape
  output : w'.output = w.output
  size : w.heap.size ≤ w'.heap.size
  block : ∀ k, k < w.heap.size → k ≠ g → w'.heap[k]? = w.heap[k]?
theorem Gb.refl (g : Nat) (w : World) : Gb g w w := ⟨rfl, rfl, rfl, Nat.le_refl _, fun _ _ _ => rfl⟩
theorem Gb.trans {g : Nat} {a b c : World} (h : Gb g a b) (k : Gb g b c) : Gb g a c :=
  ⟨k.os.trans h.os, k.tape.trans h.tape, k.output.trans h.output, Nat.le_trans h.size k.size, fun i hi hn => (k.block i (Nat.lt_of_lt_of_le hi h.size) hn).trans (h.block i hi hn)⟩
theorem Gb.of {g : Nat} {w w' : World} (h : Below w.heap.size w w') : Gb g w w' := ⟨h.os, h.tape, h.output, h.size, fun k hk _ => h.block k hk⟩
theorem Gb.drew {g : Nat} {w w' : World} (h : Gb g w w') : Gb g w w'.drew := ⟨h.os, h.tape, h.output, h.size, h.block⟩
theorem Gb.set {g : Nat} {w w' : World} (h : Gb g w w') (i : Nat) (u : Value) : Gb g w (w'.setCell ⟨g, i, none⟩ u) :=
  h.trans ⟨rfl, rfl, rfl, by simp, fun k _ hk => heap_setCell_other w' ⟨g, i, none⟩ k u hk⟩
theorem Gb.row {g : Nat} {w w' : World} (h : Gb g w w') (C : Array Value) : Gb g w (w'.setRow g C) :=
  h.trans ⟨rfl, rfl, rfl, by simp, fun k _ hk => setRow_other w' g k C hk⟩
theorem Gb.cell {g : Nat} {w w' : World} (h : Gb g w w') {a : Addr} (hk : a.block < w.heap.size) (hn : a.block ≠ g) : w'.cell? a = w.cell? a := World.cell?_of_block (w := w) (h.block a.block hk hn)
theorem Gb.below {g : Nat} {w w' : World} (h : Gb g w w') (hg : g ≤ w.heap.size) : Below g w w' := ⟨h.os, h.tape, h.output, h.size, fun k hk => h.block k (by omega) (by omega)⟩
theorem Vars.gb {g : Nat} {w w' : World} (h : Vars w) (hg : 1 ≤ g) (hb : Gb g w w') : Vars w' :=
  ⟨fun i hi => by rw [hb.cell (a := ⟨0, i, none⟩) (by have := h.size; simp; omega) (by simp; omega)]; exact h.roots i hi, Nat.le_trans h.size hb.size⟩
theorem Bs.gb {g : Nat} {w w' : World} {ao : Option Addr} {n c : Nat} {bs : List Int} (h : Bs w ao n c bs) (hb : Gb g w w') (hg : ∀ a, ao = some a → a.block ≠ g) : Bs w' ao n c bs := by
  refine ⟨h.len, h.le, h.max, h.nil, h.byt, ?_⟩
  rcases h.at' with h0 | ⟨b, off, e, hc⟩
  · exact .inl h0
  · refine .inr ⟨b, off, e, fun i hi => ?_⟩
    rw [hb.cell (a := ⟨b, off + i, none⟩) (World.block_lt_of_cell? w _ (hc i hi)) (show (⟨b, off + i, none⟩ : Addr).block ≠ g from hg ⟨b, off, none⟩ e)]
    exact hc i hi

/-- What a hash holds. -/
def hc (k : Int) (W R : List Int) (c : Int) : List Value := .int .i64 k :: (W.map (Value.int .u32) ++ (R.map (Value.int .u8) ++ [.int .i64 c]))
def hv (k : Int) (W R : List Int) (c : Int) : Array Value := (hc k W R c).toArray
theorem hc_len (k : Int) (W R : List Int) (c : Int) (hW : W.length = 8) (hR : R.length = 64) : (hc k W R c).length = 74 := by simp [hc, hW, hR]
theorem hv_size (k : Int) (W R : List Int) (c : Int) (hW : W.length = 8) (hR : R.length = 64) : (hv k W R c).size = 74 := by simp [hv, hc_len k W R c hW hR]
theorem hv_one (k : Int) (W R : List Int) (c : Int) : (hv k W R c).all (·.oneCell') = true := by
  rw [Array.all_eq_true_iff_forall_mem]
  intro v h
  simp [hv, hc] at h
  rcases h with rfl | ⟨x, _, rfl⟩ | ⟨x, _, rfl⟩ | rfl <;> rfl
theorem hc_word (k : Int) (W R : List Int) (c : Int) (hW : W.length = 8) {i : Nat} (hi : i < 8) : (hc k W R c)[1 + i]? = some (.int .u32 (ix W i)) := by
  unfold hc
  rw [Nat.add_comm, List.getElem?_cons_succ, List.getElem?_append_left (by simp [hW]; exact hi)]
  simp [ix, List.getElem?_eq_getElem (show i < W.length by omega)]
theorem hc_rest (k : Int) (W R : List Int) (c : Int) (hW : W.length = 8) (hR : R.length = 64) {i : Nat} (hi : i < 64) : (hc k W R c)[9 + i]? = some (.int .u8 (ix R i)) := by
  unfold hc
  rw [show 9 + i = (8 + i) + 1 by omega, List.getElem?_cons_succ, List.getElem?_append_right (by simp [hW]), List.getElem?_append_left (by simp [hW, hR]; omega)]
  simp [ix, hW, List.getElem?_eq_getElem (show i < R.length by omega)]
theorem hc_count (k : Int) (W R : List Int) (c : Int) (hW : W.length = 8) (hR : R.length = 64) : (hc k W R c)[73]? = some (.int .i64 c) := by
  unfold hc
  rw [show (73 : Nat) = 72 + 1 from rfl, List.getElem?_cons_succ, List.getElem?_append_right (by simp [hW]), List.getElem?_append_right (by simp [hW, hR])]
  simp [hW, hR]
theorem hc_setW (k : Int) (W R : List Int) (c : Int) (hW : W.length = 8) {i : Nat} (hi : i < 8) (v : Int) : (hc k W R c).set (1 + i) (.int .u32 v) = hc k (W.set i v) R c := by
  unfold hc
  rw [Nat.add_comm, List.set_cons_succ, List.set_append_left _ _ (by simp [hW]; exact hi), List.map_set]
theorem hc_setR (k : Int) (W R : List Int) (c : Int) (hW : W.length = 8) (hR : R.length = 64) {i : Nat} (hi : i < 64) (v : Int) : (hc k W R c).set (9 + i) (.int .u8 v) = hc k W (R.set i v) c := by
  unfold hc
  rw [show 9 + i = (8 + i) + 1 by omega, List.set_cons_succ, List.set_append_right _ _ (by simp [hW]), List.set_append_left _ _ (by simp [hW, hR]; omega)]
  simp [hW, List.map_set]
theorem hc_setC (k : Int) (W R : List Int) (c : Int) (hW : W.length = 8) (hR : R.length = 64) (v : Int) : (hc k W R c).set 73 (.int .i64 v) = hc k W R v := by
  unfold hc
  rw [show (73 : Nat) = 72 + 1 from rfl, List.set_cons_succ, List.set_append_right _ _ (by simp [hW]), List.set_append_right _ _ (by simp [hW, hR])]
  simp [hW, hR]
/-- A piece laid over the rest. -/
theorem hc_splice (k : Int) (W R : List Int) (c : Int) (hW : W.length = 8) (hR : R.length = 64) (o : Nat) (l : List Int) (h : o + l.length ≤ 64) : splice (hc k W R c) (9 + o) (l.map (Value.int .u8)) = hc k W (splice R o l) c := by
  unfold splice hc
  rw [show 9 + o = (8 + o) + 1 by omega, List.take_succ_cons, show 8 + o + 1 + (l.map (Value.int .u8)).length = (8 + o + l.length) + 1 by simp; omega, List.drop_succ_cons]
  rw [List.take_append, List.take_of_length_le (by simp [hW] <;> omega), List.drop_append, List.drop_of_length_le (by simp [hW] <;> omega)]
  simp only [List.length_map, hW, List.nil_append, List.cons_append, List.append_assoc]
  rw [show 8 + o - 8 = o by omega, show 8 + o + l.length - 8 = o + l.length by omega]
  rw [List.take_append_of_le_length (by simp [hR]; omega), List.drop_append_of_le_length (by simp [hR]; omega)]
  simp [List.map_append, List.map_take, List.map_drop]

/-- Block g is a hash. -/
structure Hs (w : World) (g : Nat) (k : Int) (W R : List Int) (c : Int) : Prop where
  at' : w.heap[g]? = some (.cells (hv k W R c) 80 (0, 0))
  wl : W.length = 8
  rl : R.length = 64
theorem Hs.lt {w : World} {g : Nat} {k : Int} {W R : List Int} {c : Int} (h : Hs w g k W R c) : g < w.heap.size := (Array.getElem?_eq_some_iff.1 h.at').1
theorem Hs.keep {w w' : World} {g : Nat} {k : Int} {W R : List Int} {c : Int} (h : Hs w g k W R c) (hb : w'.heap[g]? = w.heap[g]?) : Hs w' g k W R c := ⟨by rw [hb]; exact h.at', h.wl, h.rl⟩
theorem Hs.later {w w' : World} {g : Nat} {k : Int} {W R : List Int} {c : Int} (h : Hs w g k W R c) (hb : Below w.heap.size w w') : Hs w' g k W R c := h.keep (hb.block g h.lt)
theorem Hs.cellAt {w : World} {g : Nat} {k : Int} {W R : List Int} {c : Int} (h : Hs w g k W R c) (i : Nat) : w.cell? ⟨g, i, none⟩ = (hc k W R c)[i]? := by
  rw [cell_of_row w g i _ _ _ h.at']
  simp [hv]
theorem Hs.kind {w : World} {g : Nat} {k : Int} {W R : List Int} {c : Int} (h : Hs w g k W R c) : w.cell? ⟨g, 0, none⟩ = some (.int .i64 k) := by rw [h.cellAt]; rfl
theorem Hs.word {w : World} {g : Nat} {k : Int} {W R : List Int} {c : Int} (h : Hs w g k W R c) {i : Nat} (hi : i < 8) : w.cell? ⟨g, 1 + i, none⟩ = some (.int .u32 (ix W i)) := by rw [h.cellAt, hc_word k W R c h.wl hi]
theorem Hs.rest {w : World} {g : Nat} {k : Int} {W R : List Int} {c : Int} (h : Hs w g k W R c) {i : Nat} (hi : i < 64) : w.cell? ⟨g, 9 + i, none⟩ = some (.int .u8 (ix R i)) := by rw [h.cellAt, hc_rest k W R c h.wl h.rl hi]
theorem Hs.count {w : World} {g : Nat} {k : Int} {W R : List Int} {c : Int} (h : Hs w g k W R c) : w.cell? ⟨g, 73, none⟩ = some (.int .i64 c) := by rw [h.cellAt, hc_count k W R c h.wl h.rl]
theorem Hs.free {w : World} {g : Nat} {k : Int} {W R : List Int} {c : Int} (h : Hs w g k W R c) (i : Nat) : w.frozen? ⟨g, i, none⟩ = false := frozen_of_row w g i _ _ h.at'
theorem Hs.setW {w : World} {g : Nat} {k : Int} {W R : List Int} {c : Int} (h : Hs w g k W R c) {i : Nat} (hi : i < 8) (v : Int) : Hs (w.setCell ⟨g, 1 + i, none⟩ (.int .u32 v)) g k (W.set i v) R c := by
  refine ⟨?_, by simp [h.wl], h.rl⟩
  rw [heap_setCell_same w g _ _ _ _ h.at', ← show _ = hv k (W.set i v) R c from congrArg List.toArray (hc_setW k W R c h.wl hi v)]
  simp [hv]
theorem Hs.setR {w : World} {g : Nat} {k : Int} {W R : List Int} {c : Int} (h : Hs w g k W R c) {i : Nat} (hi : i < 64) (v : Int) : Hs (w.setCell ⟨g, 9 + i, none⟩ (.int .u8 v)) g k W (R.set i v) c := by
  refine ⟨?_, h.wl, by simp [h.rl]⟩
  rw [heap_setCell_same w g _ _ _ _ h.at', ← show _ = hv k W (R.set i v) c from congrArg List.toArray (hc_setR k W R c h.wl h.rl hi v)]
  simp [hv]
theorem Hs.setC {w : World} {g : Nat} {k : Int} {W R : List Int} {c : Int} (h : Hs w g k W R c) (v : Int) : Hs (w.setCell ⟨g, 73, none⟩ (.int .i64 v)) g k W R v := by
  refine ⟨?_, h.wl, h.rl⟩
  rw [heap_setCell_same w g _ _ _ _ h.at', ← show _ = hv k W R v from congrArg List.toArray (hc_setC k W R c h.wl h.rl v)]
  simp [hv]
theorem Hs.rangeR {w : World} {g : Nat} {k : Int} {W R : List Int} {c : Int} (h : Hs w g k W R c) : w.rangeAt g 9 (R.map (Value.int .u8)) := by
  intro j v hv
  have hj : j < 64 := by have := (List.getElem?_eq_some_iff.1 hv).1; simp [h.rl] at this; exact this
  rw [h.rest hj, ← hv]
  simp [ix, List.getElem?_eq_getElem (show j < R.length by have := h.rl; omega)]

theorem thSize : (Tryz.prog.info? 80).map (·.size) = some 74 := by kernel_rfl
theorem thZero : (Tryz.prog.info? 80).map (fun i => (i.zero, i.size)) = some (some (.agg (hv 0 (zs 8) (zs 64) 0)), 74) := by kernel_rfl
theorem hBuilt8 (k a0 a1 a2 a3 a4 a5 a6 a7 : Int) : Tryz.prog.built 80 [(0, .int .i64 k), (1, .agg (vk .u32 [a0, a1, a2, a3, a4, a5, a6, a7]))] = some (hv k [a0, a1, a2, a3, a4, a5, a6, a7] (zs 64) 0) := by kernel_rfl
theorem hBuilt (k : Int) (W : List Int) (h : W.length = 8) : Tryz.prog.built 80 [(0, .int .i64 k), (1, .agg (vk .u32 W))] = some (hv k W (zs 64) 0) := by
  obtain ⟨a0, a1, a2, a3, a4, a5, a6, a7, rfl⟩ := list8 h
  exact hBuilt8 k a0 a1 a2 a3 a4 a5 a6 a7
theorem hBuilt0 : Tryz.prog.built 80 [] = some (hv 0 (zs 8) (zs 64) 0) := by kernel_rfl

theorem wpList_hAlloc {ops : Array Oper} {rest : List Oper} {o : Oper} {a : Act} {w : World} {Q : Exit → Act → World → Prop} (hgd : o.guard = none) (ho : o.op = .alloc 80)
    (h : ∀ w1, Hs w1 w.heap.size 0 (zs 8) (zs 64) 0 → Below w.heap.size w w1 → w1.heap.size = w.heap.size + 1 → wpList Tryz.prog ops Q rest (a.put o.dst (.pointer (some ⟨w.heap.size, 0, none⟩))) w1) : wpList Tryz.prog ops Q (o :: rest) a w := by
  refine wpList_plain hgd fun K hK' => ?_
  have hz := (zero_of_info thZero).1
  unfold Oper.wp
  simp [execOp, ho, Instr.alloc, hz, Result.andThen]
  exact hK' _ _ (h _ ⟨heap_alloc_new w _, zs_len 8, zs_len 64⟩ (below_alloc w _) (by simp))
theorem wpList_hBox {ops : Array Oper} {rest : List Oper} {o : Oper} {a : Act} {w : World} {Q : Exit → Act → World → Prop} (hgd : o.guard = none) (x : Operand) (ho : o.op = .box 80 x)
    (k : Int) (W R : List Int) (c : Int) (hW : W.length = 8) (hR : R.length = 64) (hx : a.eval x = .agg (hv k W R c))
    (h : ∀ w1, Hs w1 w.heap.size k W R c → Below w.heap.size w w1 → w1.heap.size = w.heap.size + 1 → wpList Tryz.prog ops Q rest (a.put o.dst (.pointer (some ⟨w.heap.size, 0, none⟩))) w1) : wpList Tryz.prog ops Q (o :: rest) a w := by
  refine wpList_plain hgd fun K hK' => ?_
  unfold Oper.wp
  simp [execOp, ho, Instr.box, hx, Result.andThen]
  exact hK' _ _ (h _ ⟨heap_alloc_new w _, hW, hR⟩ (below_alloc w _) (by simp))
theorem wpList_hLoad {ops : Array Oper} {rest : List Oper} {o : Oper} {a : Act} {w : World} {Q : Exit → Act → World → Prop} (hgd : o.guard = none) (x : Operand) (ho : o.op = .load 80 x)
    (g : Nat) (hx : a.eval x = .pointer (some ⟨g, 0, none⟩)) (k : Int) (W R : List Int) (c : Int) (hg : Hs w g k W R c)
    (h : wpList Tryz.prog ops Q rest (a.put o.dst (.agg (hv k W R c))) w) : wpList Tryz.prog ops Q (o :: rest) a w := by
  exact wpList_load_row hgd _ x ho g hx _ (hv k W R c) (0, 0) _ hg.at' Tryz.underlying80 rfl (by rw [hv_size _ _ _ _ hg.wl hg.rl]; exact thSize) h
theorem wpList_hStore {ops : Array Oper} {rest : List Oper} {o : Oper} {a : Act} {w : World} {Q : Exit → Act → World → Prop} (hgd : o.guard = none) (x y : Operand) (ho : o.op = .store 80 x y)
    (g : Nat) (k k' : Int) (W R W' R' : List Int) (c c' : Int) (hx : a.eval x = .pointer (some ⟨g, 0, none⟩)) (hy : a.eval y = .agg (hv k W R c)) (hg : Hs w g k' W' R' c') (hW : W.length = 8) (hR : R.length = 64)
    (h : ∀ w1, Hs w1 g k W R c → Gb g w w1 → w1.heap.size = w.heap.size → wpList Tryz.prog ops Q rest (a.put o.dst undef) w1) : wpList Tryz.prog ops Q (o :: rest) a w := by
  refine wpList_store_row hgd _ x y ho g (hv k W R c) hx hy _ (hv k' W' R' c') hg.at' (by rw [hv_size _ _ _ _ hW hR]; exact thSize) (by rw [hv_size _ _ _ _ hW hR, hv_size _ _ _ _ hg.wl hg.rl]) (hv_one _ _ _ _) ?_
  exact h _ ⟨setRow_heap w g _ _ _ _ hg.at', hW, hR⟩ ((Gb.refl g w).row _) (by simp)
/-- What is no whole block is read. -/
theorem wpList_rLoad {ops : Array Oper} {rest : List Oper} {o : Oper} {a : Act} {w : World} {Q : Exit → Act → World → Prop} (hgd : o.guard = none) (x : Operand) (ho : o.op = .load 78 x)
    (g : Nat) (hx : a.eval x = .pointer (some ⟨g, 9, none⟩)) (k : Int) (W R : List Int) (c : Int) (hg : Hs w g k W R c)
    (h : wpList Tryz.prog ops Q rest (a.put o.dst (.agg (vk .u8 R))) w) : wpList Tryz.prog ops Q (o :: rest) a w :=
  wpList_load_mid hgd _ x ho g 9 hx _ _ hg.rangeR tb64.und rfl (by rw [List.length_map, hg.rl]; exact tb64.size) h
theorem setCells_row {w : World} {g o : Nat} {t : TypeId} {cur : List Value} {vs : List Value} (hg : w.heap[g]? = some (.cells cur.toArray t (0, 0))) (hfit : o + vs.length ≤ cur.length) (h1 : ∀ v ∈ vs, v.oneCell' = true) :
    w.setCells g o vs = w.setRow g (splice cur o vs).toArray := by
  have e1 := run_storeCells_at Tryz.prog g o t vs 0 cur.toArray w hg (by simpa using hfit) h1
  have e2 := run_storeCells_cells (P := Tryz.prog) g o vs 0 w (fun j hj => by
      rw [Nat.add_zero, cell_of_row w g (o + j) _ _ _ hg]
      simp [List.getElem?_eq_getElem (show o + j < cur.length by omega)]) (fun j hj => frozen_of_row w g _ _ _ hg) h1
  rw [e1] at e2
  have := (Result.ok.inj e2).2
  simp only [Nat.add_zero] at this
  rw [← this]
  simp [splice]
theorem Hs.setRest {w : World} {g : Nat} {k : Int} {W R : List Int} {c : Int} (h : Hs w g k W R c) (R' : List Int) (hR : R'.length = 64) : Hs (w.setCells g 9 (R'.map (Value.int .u8))) g k W R' c := by
  rw [setCells_row h.at' (by rw [hc_len _ _ _ _ h.wl h.rl]; simp [hR]) (ints_oneCell _ _)]
  refine ⟨?_, h.wl, hR⟩
  rw [setRow_heap w g _ _ _ _ h.at', show (9 : Nat) = 9 + 0 from rfl, hc_splice k W R c h.wl h.rl 0 R' (by omega)]
  unfold hv
  rw [show splice R 0 R' = R' by simp [splice]; rw [h.rl]; omega]
theorem wpList_rStore {ops : Array Oper} {rest : List Oper} {o : Oper} {a : Act} {w : World} {Q : Exit → Act → World → Prop} (hgd : o.guard = none) (x y : Operand) (ho : o.op = .store 78 x y)
    (g : Nat) (hx : a.eval x = .pointer (some ⟨g, 9, none⟩)) (k : Int) (W R : List Int) (c : Int) (hg : Hs w g k W R c) (R' : List Int) (hy : a.eval y = .agg (vk .u8 R')) (hR : R'.length = 64)
    (h : ∀ w1, Hs w1 g k W R' c → Gb g w w1 → wpList Tryz.prog ops Q rest (a.put o.dst undef) w1) : wpList Tryz.prog ops Q (o :: rest) a w := by
  refine wpList_store_mid hgd _ x y ho g 9 (vk .u8 R') hx hy (fun j hj => ?_) (by rw [vk_size, hR]; exact tb64.size) (vk_one _ _) ?_
  · rw [vk_size, hR] at hj
    rw [hg.rest hj]
    exact ⟨rfl, hg.free _⟩
  · have e := hg.setRest R' hR
    rw [show (vk .u8 R').toList = R'.map (Value.int .u8) by simp [vk]]
    refine h _ e ?_
    rw [setCells_row hg.at' (by rw [hc_len _ _ _ _ hg.wl hg.rl]; simp [hR]) (ints_oneCell _ _)]
    exact (Gb.refl g w).row _

end Go.Proofs.YtgbahfadjdincaaGreatDoor.Sha

namespace Go.Proofs.YtgbahfadjdincaaGreatDoor.Sha
open Go.RowKit
set_option linter.unusedVariables false
set_option linter.unusedSimpArgs false

theorem be4_wd {a b c d : Int} (ha : 0 ≤ a ∧ a ≤ 255) (hb : 0 ≤ b ∧ b ≤ 255) (hc : 0 ≤ c ∧ c ≤ 255) (hd : 0 ≤ d ∧ d ≤ 255) : Wd (be4 a b c d) := by unfold Wd be4; omega
theorem wds_wds {B : List Int} (hB : Byt B) : Wds (wds B) := by
  refine wds_mem fun x hx => ?_
  simp only [wds, List.mem_map] at hx
  obtain ⟨i, _, rfl⟩ := hx
  exact be4_wd (hB.at _) (hB.at _) (hB.at _) (hB.at _)
theorem zs_byt (n : Nat) : Byt (zs n) := fun x hx => by have := List.eq_of_mem_replicate hx; omega
theorem rBuilt0 : Tryz.prog.built 78 [] = some (vk .u8 (zs 64)) := by kernel_rfl
theorem mix1_wds (W b : List Int) (h : Wds W) : Wds (mix1 W b) := by
  refine wds_mem fun x hx => ?_
  simp only [mix1, List.mem_cons, List.not_mem_nil, or_false] at hx
  rcases hx with rfl | rfl | rfl | rfl | rfl | rfl | rfl | rfl
  · exact mod_wd _
  · exact mod_wd _
  · exact mod_wd _
  · exact mod_wd _
  · exact mod_wd _
  · exact h 5
  · exact h 6
  · exact h 7
theorem mix2_wds (W b : List Int) : Wds (mix2 W b) := by
  refine wds_mem fun x hx => ?_
  simp only [mix2, List.mem_cons, List.not_mem_nil, or_false] at hx
  rcases hx with rfl | rfl | rfl | rfl | rfl | rfl | rfl | rfl <;> exact mod_wd _
theorem mixk_wds (k : Int) (W b : List Int) (h : Wds W) : Wds (mixk k W b) := by
  unfold mixk
  split
  · exact mix1_wds W b h
  · exact mix2_wds W b
theorem list16 {l : List Int} (h : l.length = 16) : ∃ a0 a1 a2 a3 a4 a5 a6 a7 a8 a9 a10 a11 a12 a13 a14 a15, l = [a0, a1, a2, a3, a4, a5, a6, a7, a8, a9, a10, a11, a12, a13, a14, a15] := by
  match l, h with
  | [a0, a1, a2, a3, a4, a5, a6, a7, a8, a9, a10, a11, a12, a13, a14, a15], _ => exact ⟨a0, a1, a2, a3, a4, a5, a6, a7, a8, a9, a10, a11, a12, a13, a14, a15, rfl⟩
theorem mixk_len (k : Int) (W b : List Int) : (mixk k W b).length = 8 := by unfold mixk; split <;> rfl

end Go.Proofs.YtgbahfadjdincaaGreatDoor.Sha

namespace Go.Proofs.YtgbahfadjdincaaGreatDoor.Sha
open Go
set_option linter.unusedVariables false
set_option linter.unusedSimpArgs false

/-- The words behind the whole blocks of xs; what is no whole block, and noughts behind it. -/
def wst (k : Int) (xs : List Int) : List Int := wf k xs (xs.length / 64)
def tls (xs : List Int) : List Int := xs.drop (64 * (xs.length / 64))
def rst (xs : List Int) : List Int := tls xs ++ zs (64 - xs.length % 64)
theorem tls_len (xs : List Int) : (tls xs).length = xs.length % 64 := by unfold tls; rw [List.length_drop]; omega
theorem rst_len (xs : List Int) : (rst xs).length = 64 := by unfold rst; rw [List.length_append, tls_len, zs_len]; omega
theorem rst_byt {xs : List Int} (h : Byt xs) : Byt (rst xs) := (h.drop _).app (zs_byt _)

theorem wf_len (k : Int) (xs : List Int) : ∀ n, (wf k xs n).length = 8
  | 0 => fwk_len k
  | n + 1 => mixk_len _ _ _
theorem fwk_wds (k : Int) : Wds (fwk k) := by
  refine wds_mem fun x hx => ?_
  unfold fwk at hx
  split at hx
  · simp only [List.mem_cons, List.not_mem_nil, or_false] at hx
    unfold Wd
    omega
  · simp only [List.mem_cons, List.not_mem_nil, or_false] at hx
    unfold Wd
    omega
theorem wf_wds (k : Int) (xs : List Int) : ∀ n, Wds (wf k xs n)
  | 0 => fwk_wds k
  | n + 1 => mixk_wds _ _ _ (wf_wds k xs n)

theorem blk_app (xs ys : List Int) (n : Nat) (h : 64 * (n + 1) ≤ xs.length) : blk (xs ++ ys) n = blk xs n := by
  unfold blk
  rw [List.drop_append_of_le_length (by omega), List.take_append_of_le_length (by rw [List.length_drop]; omega)]
theorem wf_app (k : Int) (xs ys : List Int) : ∀ n, 64 * n ≤ xs.length → wf k (xs ++ ys) n = wf k xs n
  | 0, _ => rfl
  | n + 1, h => by simp only [wf]; rw [wf_app k xs ys n (by omega), blk_app xs ys n h]

theorem splice_rst (xs ys : List Int) (h : xs.length % 64 + ys.length ≤ 64) : splice (rst xs) (xs.length % 64) ys = tls xs ++ (ys ++ zs (64 - xs.length % 64 - ys.length)) := by
  have ht := tls_len xs
  unfold splice rst
  rw [List.take_append_of_le_length (by omega), List.take_of_length_le (by omega), List.drop_append, List.drop_of_length_le (by omega), List.nil_append]
  unfold zs
  rw [List.drop_replicate, ht, show 64 - xs.length % 64 - (xs.length % 64 + ys.length - xs.length % 64) = 64 - xs.length % 64 - ys.length by omega]
theorem tls_app (xs ys : List Int) : (xs ++ ys).drop (64 * (xs.length / 64)) = tls xs ++ ys := by
  unfold tls
  rw [List.drop_append_of_le_length (by omega)]
/-- A piece that does not fill the block. -/
theorem rst_part (xs ys : List Int) (h : xs.length % 64 + ys.length < 64) : splice (rst xs) (xs.length % 64) ys = rst (xs ++ ys) := by
  rw [splice_rst xs ys (by omega)]
  unfold rst
  rw [show tls (xs ++ ys) = tls xs ++ ys by
    rw [← tls_app xs ys]; unfold tls; rw [List.length_append, show (xs.length + ys.length) / 64 = xs.length / 64 by omega], List.length_append, List.append_assoc]
  congr 3
  omega
theorem wst_part (k : Int) (xs ys : List Int) (h : xs.length % 64 + ys.length < 64) : wst k (xs ++ ys) = wst k xs := by
  unfold wst
  rw [List.length_append, show (xs.length + ys.length) / 64 = xs.length / 64 by omega, wf_app k xs ys _ (by omega)]
/-- A piece that fills it. -/
theorem rst_full (xs ys : List Int) (h : xs.length % 64 + ys.length = 64) : splice (rst xs) (xs.length % 64) ys = blk (xs ++ ys) (xs.length / 64) ∧ rst (xs ++ ys) = zs 64 := by
  have ht := tls_len xs
  constructor
  · rw [splice_rst xs ys (by omega), show 64 - xs.length % 64 - ys.length = 0 by omega]
    unfold blk
    rw [tls_app, List.take_of_length_le (by rw [List.length_append]; omega)]
    simp [zs]
  · unfold rst tls
    rw [List.length_append, show (xs.length + ys.length) % 64 = 0 by omega, List.drop_of_length_le (by rw [List.length_append]; omega)]
    rfl
theorem wst_full (k : Int) (xs ys : List Int) (h : xs.length % 64 + ys.length = 64) : wst k (xs ++ ys) = mixk k (wst k xs) (wds (blk (xs ++ ys) (xs.length / 64))) := by
  unfold wst
  rw [List.length_append, show (xs.length + ys.length) / 64 = xs.length / 64 + 1 by omega]
  simp only [wf]
  rw [wf_app k xs ys _ (by omega)]
theorem wst_nil (k : Int) : wst k [] = fwk k := rfl
theorem rst_nil : rst [] = zs 64 := rfl

/-- The last j of eight bytes, noughts ahead of them. -/
def bp (N : Int) (j : Nat) : List Int := zs (8 - j) ++ (be8 N).drop (8 - j)
theorem be8_len (N : Int) : (be8 N).length = 8 := by simp [be8]
theorem bp_zero (N : Int) : bp N 0 = zs 8 := by unfold bp; rw [List.drop_of_length_le (by rw [be8_len]; omega)]; simp
theorem bp_all (N : Int) : bp N 8 = be8 N := by simp [bp, zs]
theorem bp_step (N : Int) (j : Nat) (h : j < 8) : (bp N j).set (7 - j) (N / 256 ^ j % 256) = bp N (j + 1) := by
  match j, h with
  | 0, _ => rfl
  | 1, _ => rfl
  | 2, _ => rfl
  | 3, _ => rfl
  | 4, _ => rfl
  | 5, _ => rfl
  | 6, _ => rfl
  | 7, _ => rfl
theorem be8_byt (N : Int) : Byt (be8 N) := by
  intro x hx
  simp only [be8, List.mem_map] at hx
  obtain ⟨i, _, rfl⟩ := hx
  omega
theorem bp_byt (N : Int) (j : Nat) : Byt (bp N j) := (zs_byt _).app ((be8_byt N).drop _)
theorem bp_len (N : Int) (j : Nat) (h : j ≤ 8) : (bp N j).length = 8 := by unfold bp; rw [List.length_append, zs_len, List.length_drop, be8_len]; omega
theorem pow_next (N : Int) (j : Nat) : N / 256 ^ j / 256 = N / 256 ^ (j + 1) := by rw [Int.ediv_ediv_of_nonneg (by exact Int.pow_nonneg (by decide)), Int.pow_succ]

/-- The end put behind what is no whole block. -/
theorem rst_mark (xs : List Int) : (rst xs).set (xs.length % 64) 128 = tls xs ++ (128 :: zs (63 - xs.length % 64)) := by
  have ht := tls_len xs
  unfold rst
  rw [List.set_append_right _ _ (by omega), ht, Nat.sub_self, show 64 - xs.length % 64 = (63 - xs.length % 64) + 1 by omega]
  rfl
theorem pd_len (xs : List Int) : (pd xs).length = xs.length + 1 + pdz xs.length + 8 := by simp [pd, be8_len]; omega
theorem zs_app (a b : Nat) : zs a ++ zs b = zs (a + b) := by simp [zs]
/-- There is room for the length. -/
theorem pd_one (xs : List Int) (h : xs.length % 64 < 56) : tls xs ++ (128 :: zs (55 - xs.length % 64)) ++ be8 (8 * xs.length) = blk (pd xs) (xs.length / 64) ∧ (pd xs).length / 64 = xs.length / 64 + 1 := by
  have ht := tls_len xs
  have hz : pdz xs.length = 55 - xs.length % 64 := by unfold pdz; omega
  constructor
  · unfold blk pd
    rw [tls_app, hz, List.take_of_length_le (by simp [ht, be8_len]; omega)]
    simp [zs]
  · rw [pd_len, hz]; omega
theorem pd_two (xs : List Int) (h : 56 ≤ xs.length % 64) : tls xs ++ (128 :: zs (63 - xs.length % 64)) = blk (pd xs) (xs.length / 64) ∧ zs 56 ++ be8 (8 * xs.length) = blk (pd xs) (xs.length / 64 + 1) ∧ (pd xs).length / 64 = xs.length / 64 + 2 := by
  have ht := tls_len xs
  have hz : pdz xs.length = (63 - xs.length % 64) + 56 := by unfold pdz; omega
  have e : (pd xs).drop (64 * (xs.length / 64)) = (tls xs ++ (128 :: zs (63 - xs.length % 64))) ++ (zs 56 ++ be8 (8 * xs.length)) := by
    unfold pd
    rw [tls_app, hz, show List.replicate (63 - xs.length % 64 + 56) (0 : Int) = zs (63 - xs.length % 64) ++ zs 56 by rw [zs_app]; rfl]
    simp
  have el : (tls xs ++ (128 :: zs (63 - xs.length % 64))).length = 64 := by simp [ht, zs_len]; omega
  refine ⟨?_, ?_, ?_⟩
  · unfold blk
    rw [e, List.take_append_of_le_length (by omega), List.take_of_length_le (by omega)]
  · unfold blk
    rw [show 64 * (xs.length / 64 + 1) = 64 * (xs.length / 64) + 64 by omega, ← List.drop_drop, e, List.drop_append_of_le_length (by omega), List.drop_of_length_le (by omega), List.nil_append, List.take_of_length_le (by simp [be8_len, zs_len])]
  · rw [pd_len, hz]; omega
theorem wf_pd (k : Int) (xs : List Int) : wf k (pd xs) (xs.length / 64) = wst k xs := by
  unfold wst pd
  exact wf_app k xs _ _ (by omega)
theorem pd_byt {xs : List Int} (h : Byt xs) : Byt (pd xs) := h.app (Byt.cons (by decide) (by decide) ((zs_byt _).app (be8_byt _)))
theorem blk_byt {xs : List Int} (h : Byt xs) (n : Nat) : Byt (blk xs n) := (h.drop _).take _

end Go.Proofs.YtgbahfadjdincaaGreatDoor.Sha

namespace Go.Proofs.YtgbahfadjdincaaGreatDoor.Sha
open Go.RowKit
set_option linter.unusedVariables false
set_option linter.unusedSimpArgs false
attribute [local go_sem ↓] Go.wp_at_zero Go.wp_at_succ

set_option maxHeartbeats 4000000 in
set_option maxRecDepth 4000 in
theorem endBlock1_any (g : Nat) (W R : List Int) (c : Int) (w : World) (h : Hs w g 1 W R c) (hWw : Wds W) (hR : Byt R) (hg : 1 ≤ g) (hv : Vars w) :
    Calls Tryz.prog 103 #[.pointer (some ⟨g, 0, none⟩)] w fun e w' => e = .returned (.tuple #[]) ∧ Hs w' g 1 (mix1 W (wds R)) (zs 64) c ∧ Gb g w w' := by
  have H := hide h
  have HV := hide hv
  have HWw := hide hWw
  have HR := hide hR
  have hlt := h.lt
  have wc := hide (wordsOf_any R w h.rl hR)
  clear h hv hWw hR
  go_enter Tryz.func103, Tryz.ntmps103
  go_wp2_with (first
    | (with_reducible show wpList Tryz.prog _ _ (Oper.mk _ (Op.load 78 _) _ _ _ none :: _) _ _; refine wpList_rLoad rfl (.tmp 5) rfl g rfl 1 W R c (unhide H) ?_))
  refine (unhide wc).mono ?_
  rintro e w1 ⟨rfl, b1⟩
  have H1 := hide ((unhide H).later b1)
  have hs1 := b1.size
  have B1 := hide b1
  clear b1 wc
  go_wp2_with (first
    | (with_reducible show wpList Tryz.prog _ _ (Oper.mk _ (Op.alloc 114) _ _ _ none :: _) _ _; refine wpList_aAlloc ta16 rfl rfl ?_; intro w2 a2 b2 s2; have S2 := hide s2; clear s2)
    | (with_reducible show wpList Tryz.prog _ _ (Oper.mk _ (Op.store 114 _ _) _ _ _ none :: _) _ _; refine wpList_aStore ta16 rfl (.tmp 2) (.tmp 7) rfl w1.heap.size (wds R) (zs 16) rfl rfl a2 (wds_len R) (zs_len 16) ?_; intro w3 a3 o3 s3 b3; have A3 := hide a3; have H3 := hide (((unhide H1).later b2).keep (o3 g (by omega))); have B3 := hide (((unhide B1).trans (b2.mono hs1)).trans (b3.mono hs1)); have S3 := hide s3; have kc := (unhide H3).kind; clear a2 b2 a3 o3 b3 s3))
  have hgb : g < w1.heap.size := by omega
  have hs3 : w1.heap.size < w3.heap.size := by have := unhide S2; have := unhide S3; omega
  have mc := hide (fun (wx : World) (hv : Vars wx) => mixed1_any W (wds R) wx (unhide H3).wl (unhide HWw) (wds_len R) (wds_wds (unhide HR)))
  obtain ⟨W0, W1, W2, W3, W4, W5, W6, W7, hW8⟩ := list8 (unhide H3).wl
  obtain ⟨b0, b1, b2, b3, b4, b5, b6, b7, b8, b9, b10, b11, b12, b13, b14, b15, hB16⟩ := list16 (wds_len R)
  obtain ⟨m0, m1, m2, m3, m4, m5, m6, m7, hM8⟩ := list8 (mix1_len W (wds R))
  rw [hM8] at mc
  rw [hB16] at mc A3
  have HM := hide (show mix1 W (wds R) = [m0, m1, m2, m3, m4, m5, m6, m7] from hM8)
  rw [hW8] at mc H3
  have hvW : (#[Value.int .u32 W0, Value.int .u32 W1, Value.int .u32 W2, Value.int .u32 W3, Value.int .u32 W4, Value.int .u32 W5, Value.int .u32 W6, Value.int .u32 W7] : Array Value) = vk .u32 [W0, W1, W2, W3, W4, W5, W6, W7] := rfl
  have hvB : (#[Value.int .u32 b0, Value.int .u32 b1, Value.int .u32 b2, Value.int .u32 b3, Value.int .u32 b4, Value.int .u32 b5, Value.int .u32 b6, Value.int .u32 b7, Value.int .u32 b8, Value.int .u32 b9, Value.int .u32 b10, Value.int .u32 b11, Value.int .u32 b12, Value.int .u32 b13, Value.int .u32 b14, Value.int .u32 b15] : Array Value) = vk .u32 [b0, b1, b2, b3, b4, b5, b6, b7, b8, b9, b10, b11, b12, b13, b14, b15] := rfl
  have hvM := hide (show vk .u32 [m0, m1, m2, m3, m4, m5, m6, m7] = (#[Value.int .u32 m0, Value.int .u32 m1, Value.int .u32 m2, Value.int .u32 m3, Value.int .u32 m4, Value.int .u32 m5, Value.int .u32 m6, Value.int .u32 m7] : Array Value) from rfl)
  rw [unhide hvM] at mc
  have p0 : w3.cell? ⟨g, 1, none⟩ = some (.int .u32 W0) := (unhide H3).word (i := 0) (by omega)
  have p1 : w3.cell? ⟨g, 2, none⟩ = some (.int .u32 W1) := (unhide H3).word (i := 1) (by omega)
  have p2 : w3.cell? ⟨g, 3, none⟩ = some (.int .u32 W2) := (unhide H3).word (i := 2) (by omega)
  have p3 : w3.cell? ⟨g, 4, none⟩ = some (.int .u32 W3) := (unhide H3).word (i := 3) (by omega)
  have p4 : w3.cell? ⟨g, 5, none⟩ = some (.int .u32 W4) := (unhide H3).word (i := 4) (by omega)
  have p5 : w3.cell? ⟨g, 6, none⟩ = some (.int .u32 W5) := (unhide H3).word (i := 5) (by omega)
  have p6 : w3.cell? ⟨g, 7, none⟩ = some (.int .u32 W6) := (unhide H3).word (i := 6) (by omega)
  have p7 : w3.cell? ⟨g, 8, none⟩ = some (.int .u32 W7) := (unhide H3).word (i := 7) (by omega)
  have d0 : w3.cell? ⟨w1.heap.size, 0, none⟩ = some (.int .u32 b0) := (unhide A3).cell (i := 0) (by simp)
  have d1 : w3.cell? ⟨w1.heap.size, 1, none⟩ = some (.int .u32 b1) := (unhide A3).cell (i := 1) (by simp)
  have d2 : w3.cell? ⟨w1.heap.size, 2, none⟩ = some (.int .u32 b2) := (unhide A3).cell (i := 2) (by simp)
  have d3 : w3.cell? ⟨w1.heap.size, 3, none⟩ = some (.int .u32 b3) := (unhide A3).cell (i := 3) (by simp)
  have d4 : w3.cell? ⟨w1.heap.size, 4, none⟩ = some (.int .u32 b4) := (unhide A3).cell (i := 4) (by simp)
  have d5 : w3.cell? ⟨w1.heap.size, 5, none⟩ = some (.int .u32 b5) := (unhide A3).cell (i := 5) (by simp)
  have d6 : w3.cell? ⟨w1.heap.size, 6, none⟩ = some (.int .u32 b6) := (unhide A3).cell (i := 6) (by simp)
  have d7 : w3.cell? ⟨w1.heap.size, 7, none⟩ = some (.int .u32 b7) := (unhide A3).cell (i := 7) (by simp)
  have d8 : w3.cell? ⟨w1.heap.size, 8, none⟩ = some (.int .u32 b8) := (unhide A3).cell (i := 8) (by simp)
  have d9 : w3.cell? ⟨w1.heap.size, 9, none⟩ = some (.int .u32 b9) := (unhide A3).cell (i := 9) (by simp)
  have d10 : w3.cell? ⟨w1.heap.size, 10, none⟩ = some (.int .u32 b10) := (unhide A3).cell (i := 10) (by simp)
  have d11 : w3.cell? ⟨w1.heap.size, 11, none⟩ = some (.int .u32 b11) := (unhide A3).cell (i := 11) (by simp)
  have d12 : w3.cell? ⟨w1.heap.size, 12, none⟩ = some (.int .u32 b12) := (unhide A3).cell (i := 12) (by simp)
  have d13 : w3.cell? ⟨w1.heap.size, 13, none⟩ = some (.int .u32 b13) := (unhide A3).cell (i := 13) (by simp)
  have d14 : w3.cell? ⟨w1.heap.size, 14, none⟩ = some (.int .u32 b14) := (unhide A3).cell (i := 14) (by simp)
  have d15 : w3.cell? ⟨w1.heap.size, 15, none⟩ = some (.int .u32 b15) := (unhide A3).cell (i := 15) (by simp)
  have KS := hide (fun (w5 : World) (b5 : Below w3.heap.size w3.drew w5) => (show Hs w5 g 1 [W0, W1, W2, W3, W4, W5, W6, W7] R c from (unhide H3).keep ((b5.block g (by omega)))))
  have VD := hide (show Vars w3.drew from (unhide HV).later (unhide HV).size ((unhide B3).trans ⟨rfl, rfl, rfl, Nat.le_refl _, fun _ _ => rfl⟩))
  clear hM8 hB16 hW8
  go_region_with (go_at_call 126; refine (unhide mc _ (unhide VD)).mono ?_; rintro e w5 ⟨rfl, b5⟩; have H5 := hide (unhide KS w5 b5); have q0 : w5.cell? ⟨g, 1, none⟩ = some (.int .u32 W0) := (unhide H5).word (i := 0) (by omega); have r0 := (unhide H5).free 1; have q1 : w5.cell? ⟨g, 2, none⟩ = some (.int .u32 W1) := (unhide H5).word (i := 1) (by omega); have r1 := (unhide H5).free 2; have q2 : w5.cell? ⟨g, 3, none⟩ = some (.int .u32 W2) := (unhide H5).word (i := 2) (by omega); have r2 := (unhide H5).free 3; have q3 : w5.cell? ⟨g, 4, none⟩ = some (.int .u32 W3) := (unhide H5).word (i := 3) (by omega); have r3 := (unhide H5).free 4; have q4 : w5.cell? ⟨g, 5, none⟩ = some (.int .u32 W4) := (unhide H5).word (i := 4) (by omega); have r4 := (unhide H5).free 5; have q5 : w5.cell? ⟨g, 6, none⟩ = some (.int .u32 W5) := (unhide H5).word (i := 5) (by omega); have r5 := (unhide H5).free 6; have q6 : w5.cell? ⟨g, 7, none⟩ = some (.int .u32 W6) := (unhide H5).word (i := 6) (by omega); have r6 := (unhide H5).free 7; have q7 : w5.cell? ⟨g, 8, none⟩ = some (.int .u32 W7) := (unhide H5).word (i := 7) (by omega); have r7 := (unhide H5).free 8; have B5 := hide b5; clear b5)
  all_goals have H6 := hide (show Hs ((((((((w5.setCell ⟨g, 1, none⟩ (.int .u32 m0)).setCell ⟨g, 2, none⟩ (.int .u32 m1)).setCell ⟨g, 3, none⟩ (.int .u32 m2)).setCell ⟨g, 4, none⟩ (.int .u32 m3)).setCell ⟨g, 5, none⟩ (.int .u32 m4)).setCell ⟨g, 6, none⟩ (.int .u32 m5)).setCell ⟨g, 7, none⟩ (.int .u32 m6)).setCell ⟨g, 8, none⟩ (.int .u32 m7)) g 1 [m0, m1, m2, m3, m4, m5, m6, m7] R c from (Hs.setW (Hs.setW (Hs.setW (Hs.setW (Hs.setW (Hs.setW (Hs.setW (Hs.setW (unhide H5) (i := 0) (by omega) m0) (i := 1) (by omega) m1) (i := 2) (by omega) m2) (i := 3) (by omega) m3) (i := 4) (by omega) m4) (i := 5) (by omega) m5) (i := 6) (by omega) m6) (i := 7) (by omega) m7))
  all_goals have G6 := hide (show Gb g w ((((((((w5.setCell ⟨g, 1, none⟩ (.int .u32 m0)).setCell ⟨g, 2, none⟩ (.int .u32 m1)).setCell ⟨g, 3, none⟩ (.int .u32 m2)).setCell ⟨g, 4, none⟩ (.int .u32 m3)).setCell ⟨g, 5, none⟩ (.int .u32 m4)).setCell ⟨g, 6, none⟩ (.int .u32 m5)).setCell ⟨g, 7, none⟩ (.int .u32 m6)).setCell ⟨g, 8, none⟩ (.int .u32 m7)) from (Gb.set (Gb.set (Gb.set (Gb.set (Gb.set (Gb.set (Gb.set (Gb.set (((Gb.of (g := g) (unhide B3)).drew).trans (Gb.of (w := w3.drew) (unhide B5))) 1 (.int .u32 m0)) 2 (.int .u32 m1)) 3 (.int .u32 m2)) 4 (.int .u32 m3)) 5 (.int .u32 m4)) 6 (.int .u32 m5)) 7 (.int .u32 m6)) 8 (.int .u32 m7)))
  all_goals clear p0 q0 r0 p1 q1 r1 p2 q2 r2 p3 q3 r3 p4 q4 r4 p5 q5 r5 p6 q6 r6 p7 q7 r7 d0 d1 d2 d3 d4 d5 d6 d7 d8 d9 d10 d11 d12 d13 d14 d15 hvW hvB
  all_goals obtain ⟨w6, hw6⟩ : ∃ w6, ((((((((w5.setCell ⟨g, 1, none⟩ (.int .u32 m0)).setCell ⟨g, 2, none⟩ (.int .u32 m1)).setCell ⟨g, 3, none⟩ (.int .u32 m2)).setCell ⟨g, 4, none⟩ (.int .u32 m3)).setCell ⟨g, 5, none⟩ (.int .u32 m4)).setCell ⟨g, 6, none⟩ (.int .u32 m5)).setCell ⟨g, 7, none⟩ (.int .u32 m6)).setCell ⟨g, 8, none⟩ (.int .u32 m7)) = w6 := ⟨_, rfl⟩
  all_goals rw [hw6] at H6 G6 ⊢
  all_goals clear hw6
  all_goals go_wp2_with (first
    | (with_reducible show wpList Tryz.prog _ _ (Oper.mk _ (Op.build 78 _) _ _ _ none :: _) _ _; refine wpList_bld rfl _ _ rfl _ rBuilt0 ?_)
    | (with_reducible show wpList Tryz.prog _ _ (Oper.mk _ (Op.store 78 _ _) _ _ _ none :: _) _ _; refine wpList_rStore rfl (.tmp 34) (.tmp 32) rfl g rfl 1 _ R c (unhide H6) (zs 64) rfl (zs_len 64) ?_; intro w7 h7 g7))
  all_goals refine bodyPost_end (results_none rfl _ _ _) rfl ?_
  all_goals exact ⟨rfl, by rw [unhide HM]; exact h7, (unhide G6).trans g7⟩

end Go.Proofs.YtgbahfadjdincaaGreatDoor.Sha

namespace Go.Proofs.YtgbahfadjdincaaGreatDoor.Sha
open Go.RowKit
set_option linter.unusedVariables false
set_option linter.unusedSimpArgs false
attribute [local go_sem ↓] Go.wp_at_zero Go.wp_at_succ

set_option maxHeartbeats 4000000 in
set_option maxRecDepth 4000 in
theorem endBlock2_any (g : Nat) (W R : List Int) (c : Int) (w : World) (h : Hs w g 2 W R c) (hWw : Wds W) (hR : Byt R) (hg : 1 ≤ g) (hv : Vars w) :
    Calls Tryz.prog 103 #[.pointer (some ⟨g, 0, none⟩)] w fun e w' => e = .returned (.tuple #[]) ∧ Hs w' g 2 (mix2 W (wds R)) (zs 64) c ∧ Gb g w w' := by
  have H := hide h
  have HV := hide hv
  have HWw := hide hWw
  have HR := hide hR
  have hlt := h.lt
  have wc := hide (wordsOf_any R w h.rl hR)
  clear h hv hWw hR
  go_enter Tryz.func103, Tryz.ntmps103
  go_wp2_with (first
    | (with_reducible show wpList Tryz.prog _ _ (Oper.mk _ (Op.load 78 _) _ _ _ none :: _) _ _; refine wpList_rLoad rfl (.tmp 5) rfl g rfl 2 W R c (unhide H) ?_))
  refine (unhide wc).mono ?_
  rintro e w1 ⟨rfl, b1⟩
  have H1 := hide ((unhide H).later b1)
  have hs1 := b1.size
  have B1 := hide b1
  clear b1 wc
  go_wp2_with (first
    | (with_reducible show wpList Tryz.prog _ _ (Oper.mk _ (Op.alloc 114) _ _ _ none :: _) _ _; refine wpList_aAlloc ta16 rfl rfl ?_; intro w2 a2 b2 s2; have S2 := hide s2; clear s2)
    | (with_reducible show wpList Tryz.prog _ _ (Oper.mk _ (Op.store 114 _ _) _ _ _ none :: _) _ _; refine wpList_aStore ta16 rfl (.tmp 2) (.tmp 7) rfl w1.heap.size (wds R) (zs 16) rfl rfl a2 (wds_len R) (zs_len 16) ?_; intro w3 a3 o3 s3 b3; have A3 := hide a3; have H3 := hide (((unhide H1).later b2).keep (o3 g (by omega))); have B3 := hide (((unhide B1).trans (b2.mono hs1)).trans (b3.mono hs1)); have S3 := hide s3; have kc := (unhide H3).kind; clear a2 b2 a3 o3 b3 s3))
  have hgb : g < w1.heap.size := by omega
  have hs3 : w1.heap.size < w3.heap.size := by have := unhide S2; have := unhide S3; omega
  have mc := hide (fun (wx : World) (hv : Vars wx) => mixed256_any W (wds R) wx hv (unhide H3).wl (unhide HWw) (wds_len R) (wds_wds (unhide HR)))
  obtain ⟨W0, W1, W2, W3, W4, W5, W6, W7, hW8⟩ := list8 (unhide H3).wl
  obtain ⟨b0, b1, b2, b3, b4, b5, b6, b7, b8, b9, b10, b11, b12, b13, b14, b15, hB16⟩ := list16 (wds_len R)
  obtain ⟨m0, m1, m2, m3, m4, m5, m6, m7, hM8⟩ := list8 (mix2_len W (wds R))
  rw [hM8] at mc
  rw [hB16] at mc A3
  have HM := hide (show mix2 W (wds R) = [m0, m1, m2, m3, m4, m5, m6, m7] from hM8)
  rw [hW8] at mc H3
  have hvW : (#[Value.int .u32 W0, Value.int .u32 W1, Value.int .u32 W2, Value.int .u32 W3, Value.int .u32 W4, Value.int .u32 W5, Value.int .u32 W6, Value.int .u32 W7] : Array Value) = vk .u32 [W0, W1, W2, W3, W4, W5, W6, W7] := rfl
  have hvB : (#[Value.int .u32 b0, Value.int .u32 b1, Value.int .u32 b2, Value.int .u32 b3, Value.int .u32 b4, Value.int .u32 b5, Value.int .u32 b6, Value.int .u32 b7, Value.int .u32 b8, Value.int .u32 b9, Value.int .u32 b10, Value.int .u32 b11, Value.int .u32 b12, Value.int .u32 b13, Value.int .u32 b14, Value.int .u32 b15] : Array Value) = vk .u32 [b0, b1, b2, b3, b4, b5, b6, b7, b8, b9, b10, b11, b12, b13, b14, b15] := rfl
  have hvM := hide (show vk .u32 [m0, m1, m2, m3, m4, m5, m6, m7] = (#[Value.int .u32 m0, Value.int .u32 m1, Value.int .u32 m2, Value.int .u32 m3, Value.int .u32 m4, Value.int .u32 m5, Value.int .u32 m6, Value.int .u32 m7] : Array Value) from rfl)
  rw [unhide hvM] at mc
  have p0 : w3.cell? ⟨g, 1, none⟩ = some (.int .u32 W0) := (unhide H3).word (i := 0) (by omega)
  have p1 : w3.cell? ⟨g, 2, none⟩ = some (.int .u32 W1) := (unhide H3).word (i := 1) (by omega)
  have p2 : w3.cell? ⟨g, 3, none⟩ = some (.int .u32 W2) := (unhide H3).word (i := 2) (by omega)
  have p3 : w3.cell? ⟨g, 4, none⟩ = some (.int .u32 W3) := (unhide H3).word (i := 3) (by omega)
  have p4 : w3.cell? ⟨g, 5, none⟩ = some (.int .u32 W4) := (unhide H3).word (i := 4) (by omega)
  have p5 : w3.cell? ⟨g, 6, none⟩ = some (.int .u32 W5) := (unhide H3).word (i := 5) (by omega)
  have p6 : w3.cell? ⟨g, 7, none⟩ = some (.int .u32 W6) := (unhide H3).word (i := 6) (by omega)
  have p7 : w3.cell? ⟨g, 8, none⟩ = some (.int .u32 W7) := (unhide H3).word (i := 7) (by omega)
  have d0 : w3.cell? ⟨w1.heap.size, 0, none⟩ = some (.int .u32 b0) := (unhide A3).cell (i := 0) (by simp)
  have d1 : w3.cell? ⟨w1.heap.size, 1, none⟩ = some (.int .u32 b1) := (unhide A3).cell (i := 1) (by simp)
  have d2 : w3.cell? ⟨w1.heap.size, 2, none⟩ = some (.int .u32 b2) := (unhide A3).cell (i := 2) (by simp)
  have d3 : w3.cell? ⟨w1.heap.size, 3, none⟩ = some (.int .u32 b3) := (unhide A3).cell (i := 3) (by simp)
  have d4 : w3.cell? ⟨w1.heap.size, 4, none⟩ = some (.int .u32 b4) := (unhide A3).cell (i := 4) (by simp)
  have d5 : w3.cell? ⟨w1.heap.size, 5, none⟩ = some (.int .u32 b5) := (unhide A3).cell (i := 5) (by simp)
  have d6 : w3.cell? ⟨w1.heap.size, 6, none⟩ = some (.int .u32 b6) := (unhide A3).cell (i := 6) (by simp)
  have d7 : w3.cell? ⟨w1.heap.size, 7, none⟩ = some (.int .u32 b7) := (unhide A3).cell (i := 7) (by simp)
  have d8 : w3.cell? ⟨w1.heap.size, 8, none⟩ = some (.int .u32 b8) := (unhide A3).cell (i := 8) (by simp)
  have d9 : w3.cell? ⟨w1.heap.size, 9, none⟩ = some (.int .u32 b9) := (unhide A3).cell (i := 9) (by simp)
  have d10 : w3.cell? ⟨w1.heap.size, 10, none⟩ = some (.int .u32 b10) := (unhide A3).cell (i := 10) (by simp)
  have d11 : w3.cell? ⟨w1.heap.size, 11, none⟩ = some (.int .u32 b11) := (unhide A3).cell (i := 11) (by simp)
  have d12 : w3.cell? ⟨w1.heap.size, 12, none⟩ = some (.int .u32 b12) := (unhide A3).cell (i := 12) (by simp)
  have d13 : w3.cell? ⟨w1.heap.size, 13, none⟩ = some (.int .u32 b13) := (unhide A3).cell (i := 13) (by simp)
  have d14 : w3.cell? ⟨w1.heap.size, 14, none⟩ = some (.int .u32 b14) := (unhide A3).cell (i := 14) (by simp)
  have d15 : w3.cell? ⟨w1.heap.size, 15, none⟩ = some (.int .u32 b15) := (unhide A3).cell (i := 15) (by simp)
  have KS := hide (fun (w5 : World) (b5 : Below w3.heap.size w3.drew w5) => (show Hs w5 g 2 [W0, W1, W2, W3, W4, W5, W6, W7] R c from (unhide H3).keep ((b5.block g (by omega)))))
  have VD := hide (show Vars w3.drew from (unhide HV).later (unhide HV).size ((unhide B3).trans ⟨rfl, rfl, rfl, Nat.le_refl _, fun _ _ => rfl⟩))
  clear hM8 hB16 hW8
  go_region_with (go_at_call 127; refine (unhide mc _ (unhide VD)).mono ?_; rintro e w5 ⟨rfl, b5⟩; have H5 := hide (unhide KS w5 b5); have q0 : w5.cell? ⟨g, 1, none⟩ = some (.int .u32 W0) := (unhide H5).word (i := 0) (by omega); have r0 := (unhide H5).free 1; have q1 : w5.cell? ⟨g, 2, none⟩ = some (.int .u32 W1) := (unhide H5).word (i := 1) (by omega); have r1 := (unhide H5).free 2; have q2 : w5.cell? ⟨g, 3, none⟩ = some (.int .u32 W2) := (unhide H5).word (i := 2) (by omega); have r2 := (unhide H5).free 3; have q3 : w5.cell? ⟨g, 4, none⟩ = some (.int .u32 W3) := (unhide H5).word (i := 3) (by omega); have r3 := (unhide H5).free 4; have q4 : w5.cell? ⟨g, 5, none⟩ = some (.int .u32 W4) := (unhide H5).word (i := 4) (by omega); have r4 := (unhide H5).free 5; have q5 : w5.cell? ⟨g, 6, none⟩ = some (.int .u32 W5) := (unhide H5).word (i := 5) (by omega); have r5 := (unhide H5).free 6; have q6 : w5.cell? ⟨g, 7, none⟩ = some (.int .u32 W6) := (unhide H5).word (i := 6) (by omega); have r6 := (unhide H5).free 7; have q7 : w5.cell? ⟨g, 8, none⟩ = some (.int .u32 W7) := (unhide H5).word (i := 7) (by omega); have r7 := (unhide H5).free 8; have B5 := hide b5; clear b5)
  all_goals have H6 := hide (show Hs ((((((((w5.setCell ⟨g, 1, none⟩ (.int .u32 m0)).setCell ⟨g, 2, none⟩ (.int .u32 m1)).setCell ⟨g, 3, none⟩ (.int .u32 m2)).setCell ⟨g, 4, none⟩ (.int .u32 m3)).setCell ⟨g, 5, none⟩ (.int .u32 m4)).setCell ⟨g, 6, none⟩ (.int .u32 m5)).setCell ⟨g, 7, none⟩ (.int .u32 m6)).setCell ⟨g, 8, none⟩ (.int .u32 m7)) g 2 [m0, m1, m2, m3, m4, m5, m6, m7] R c from (Hs.setW (Hs.setW (Hs.setW (Hs.setW (Hs.setW (Hs.setW (Hs.setW (Hs.setW (unhide H5) (i := 0) (by omega) m0) (i := 1) (by omega) m1) (i := 2) (by omega) m2) (i := 3) (by omega) m3) (i := 4) (by omega) m4) (i := 5) (by omega) m5) (i := 6) (by omega) m6) (i := 7) (by omega) m7))
  all_goals have G6 := hide (show Gb g w ((((((((w5.setCell ⟨g, 1, none⟩ (.int .u32 m0)).setCell ⟨g, 2, none⟩ (.int .u32 m1)).setCell ⟨g, 3, none⟩ (.int .u32 m2)).setCell ⟨g, 4, none⟩ (.int .u32 m3)).setCell ⟨g, 5, none⟩ (.int .u32 m4)).setCell ⟨g, 6, none⟩ (.int .u32 m5)).setCell ⟨g, 7, none⟩ (.int .u32 m6)).setCell ⟨g, 8, none⟩ (.int .u32 m7)) from (Gb.set (Gb.set (Gb.set (Gb.set (Gb.set (Gb.set (Gb.set (Gb.set (((Gb.of (g := g) (unhide B3)).drew).trans (Gb.of (w := w3.drew) (unhide B5))) 1 (.int .u32 m0)) 2 (.int .u32 m1)) 3 (.int .u32 m2)) 4 (.int .u32 m3)) 5 (.int .u32 m4)) 6 (.int .u32 m5)) 7 (.int .u32 m6)) 8 (.int .u32 m7)))
  all_goals clear p0 q0 r0 p1 q1 r1 p2 q2 r2 p3 q3 r3 p4 q4 r4 p5 q5 r5 p6 q6 r6 p7 q7 r7 d0 d1 d2 d3 d4 d5 d6 d7 d8 d9 d10 d11 d12 d13 d14 d15 hvW hvB
  all_goals obtain ⟨w6, hw6⟩ : ∃ w6, ((((((((w5.setCell ⟨g, 1, none⟩ (.int .u32 m0)).setCell ⟨g, 2, none⟩ (.int .u32 m1)).setCell ⟨g, 3, none⟩ (.int .u32 m2)).setCell ⟨g, 4, none⟩ (.int .u32 m3)).setCell ⟨g, 5, none⟩ (.int .u32 m4)).setCell ⟨g, 6, none⟩ (.int .u32 m5)).setCell ⟨g, 7, none⟩ (.int .u32 m6)).setCell ⟨g, 8, none⟩ (.int .u32 m7)) = w6 := ⟨_, rfl⟩
  all_goals rw [hw6] at H6 G6 ⊢
  all_goals clear hw6
  all_goals go_wp2_with (first
    | (with_reducible show wpList Tryz.prog _ _ (Oper.mk _ (Op.build 78 _) _ _ _ none :: _) _ _; refine wpList_bld rfl _ _ rfl _ rBuilt0 ?_)
    | (with_reducible show wpList Tryz.prog _ _ (Oper.mk _ (Op.store 78 _ _) _ _ _ none :: _) _ _; refine wpList_rStore rfl (.tmp 34) (.tmp 32) rfl g rfl 2 _ R c (unhide H6) (zs 64) rfl (zs_len 64) ?_; intro w7 h7 g7))
  all_goals refine bodyPost_end (results_none rfl _ _ _) rfl ?_
  all_goals exact ⟨rfl, by rw [unhide HM]; exact h7, (unhide G6).trans g7⟩

end Go.Proofs.YtgbahfadjdincaaGreatDoor.Sha
