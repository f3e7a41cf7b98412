/-
  A hash in memory: one block that holds its kind, its words, what is no whole block, and how many bytes there were; and which blocks a call may have changed. Conditions: none.
-/
import Derived.Test.YtfnnafhifpolmaaDoorShaMix2
namespace Go.Proofs.YtfnnafhifpolmaaDoor
open Go.RowKit
set_option linter.unusedVariables false
set_option linter.unusedSimpArgs false

/-- Only block g has changed; there may be new ones. -/
structure Gb (g : Nat) (w w' : World) : Prop where
  os : w'.os = w.os
  tape : w'.tape = w.tape
  output : w'.output = w.output
  size : w.heap.size ≤ w'.heap.size
  block : ∀ k, k < w.heap.size → k ≠ g → w'.heap[k]? = w.heap[k]?
theorem Gb.refl (g : Nat) (w : World) : Gb g w w := ⟨rfl, rfl, rfl, Nat.le_refl _, fun _ _ _ => rfl⟩
theorem Gb.trans {g : Nat} {a b c : World} (h : Gb g a b) (k : Gb g b c) : Gb g a c :=
  ⟨k.os.trans h.os, k.tape.trans h.tape, k.output.trans h.output, Nat.le_trans h.size k.size, fun i hi hn => (k.block i (Nat.lt_of_lt_of_le hi h.size) hn).trans (h.block i hi hn)⟩
theorem Gb.of {g : Nat} {w w' : World} (h : Below w.heap.size w w') : Gb g w w' := ⟨h.os, h.tape, h.output, h.size, fun k hk _ => h.block k hk⟩
theorem Gb.drew {g : Nat} {w w' : World} (h : Gb g w w') : Gb g w w'.drew := ⟨h.os, h.tape, h.output, h.size, h.block⟩
theorem Gb.set {g : Nat} {w w' : World} (h : Gb g w w') (i : Nat) (u : Value) : Gb g w (w'.setCell ⟨g, i, none⟩ u) :=
  h.trans ⟨rfl, rfl, rfl, by simp, fun k _ hk => heap_setCell_other w' ⟨g, i, none⟩ k u hk⟩
theorem Gb.row {g : Nat} {w w' : World} (h : Gb g w w') (C : Array Value) : Gb g w (w'.setRow g C) :=
  h.trans ⟨rfl, rfl, rfl, by simp, fun k _ hk => setRow_other w' g k C hk⟩
theorem Gb.cell {g : Nat} {w w' : World} (h : Gb g w w') {a : Addr} (hk : a.block < w.heap.size) (hn : a.block ≠ g) : w'.cell? a = w.cell? a := World.cell?_of_block (w := w) (h.block a.block hk hn)
theorem Gb.below {g : Nat} {w w' : World} (h : Gb g w w') (hg : g ≤ w.heap.size) : Below g w w' := ⟨h.os, h.tape, h.output, h.size, fun k hk => h.block k (by omega) (by omega)⟩
theorem Vars.gb {g : Nat} {w w' : World} (h : Vars w) (hg : 1 ≤ g) (hb : Gb g w w') : Vars w' :=
  ⟨fun i hi => by rw [hb.cell (a := ⟨0, i, none⟩) (by have := h.size; simp; omega) (by simp; omega)]; exact h.roots i hi, Nat.le_trans h.size hb.size⟩
theorem Bs.gb {g : Nat} {w w' : World} {ao : Option Addr} {n c : Nat} {bs : List Int} (h : Bs w ao n c bs) (hb : Gb g w w') (hg : ∀ a, ao = some a → a.block ≠ g) : Bs w' ao n c bs := by
  refine ⟨h.len, h.le, h.max, h.nil, h.byt, ?_⟩
  rcases h.at' with h0 | ⟨b, off, e, hc⟩
  · exact .inl h0
  · refine .inr ⟨b, off, e, fun i hi => ?_⟩
    rw [hb.cell (a := ⟨b, off + i, none⟩) (World.block_lt_of_cell? w _ (hc i hi)) (show (⟨b, off + i, none⟩ : Addr).block ≠ g from hg ⟨b, off, none⟩ e)]
    exact hc i hi

/-- What a hash holds. -/
def hc (k : Int) (W R : List Int) (c : Int) : List Value := .int .i64 k :: (W.map (Value.int .u32) ++ (R.map (Value.int .u8) ++ [.int .i64 c]))
def hv (k : Int) (W R : List Int) (c : Int) : Array Value := (hc k W R c).toArray
theorem hc_len (k : Int) (W R : List Int) (c : Int) (hW : W.length = 8) (hR : R.length = 64) : (hc k W R c).length = 74 := by simp [hc, hW, hR]
theorem hv_size (k : Int) (W R : List Int) (c : Int) (hW : W.length = 8) (hR : R.length = 64) : (hv k W R c).size = 74 := by simp [hv, hc_len k W R c hW hR]
theorem hv_one (k : Int) (W R : List Int) (c : Int) : (hv k W R c).all (·.oneCell') = true := by
  rw [Array.all_eq_true_iff_forall_mem]
  intro v h
  simp [hv, hc] at h
  rcases h with rfl | ⟨x, _, rfl⟩ | ⟨x, _, rfl⟩ | rfl <;> rfl
theorem hc_word (k : Int) (W R : List Int) (c : Int) (hW : W.length = 8) {i : Nat} (hi : i < 8) : (hc k W R c)[1 + i]? = some (.int .u32 (ix W i)) := by
  unfold hc
  rw [Nat.add_comm, List.getElem?_cons_succ, List.getElem?_append_left (by simp [hW]; exact hi)]
  simp [ix, List.getElem?_eq_getElem (show i < W.length by omega)]
theorem hc_rest (k : Int) (W R : List Int) (c : Int) (hW : W.length = 8) (hR : R.length = 64) {i : Nat} (hi : i < 64) : (hc k W R c)[9 + i]? = some (.int .u8 (ix R i)) := by
  unfold hc
  rw [show 9 + i = (8 + i) + 1 by omega, List.getElem?_cons_succ, List.getElem?_append_right (by simp [hW]), List.getElem?_append_left (by simp [hW, hR]; omega)]
  simp [ix, hW, List.getElem?_eq_getElem (show i < R.length by omega)]
theorem hc_count (k : Int) (W R : List Int) (c : Int) (hW : W.length = 8) (hR : R.length = 64) : (hc k W R c)[73]? = some (.int .i64 c) := by
  unfold hc
  rw [show (73 : Nat) = 72 + 1 from rfl, List.getElem?_cons_succ, List.getElem?_append_right (by simp [hW]), List.getElem?_append_right (by simp [hW, hR])]
  simp [hW, hR]
theorem hc_setW (k : Int) (W R : List Int) (c : Int) (hW : W.length = 8) {i : Nat} (hi : i < 8) (v : Int) : (hc k W R c).set (1 + i) (.int .u32 v) = hc k (W.set i v) R c := by
  unfold hc
  rw [Nat.add_comm, List.set_cons_succ, List.set_append_left _ _ (by simp [hW]; exact hi), List.map_set]
theorem hc_setR (k : Int) (W R : List Int) (c : Int) (hW : W.length = 8) (hR : R.length = 64) {i : Nat} (hi : i < 64) (v : Int) : (hc k W R c).set (9 + i) (.int .u8 v) = hc k W (R.set i v) c := by
  unfold hc
  rw [show 9 + i = (8 + i) + 1 by omega, List.set_cons_succ, List.set_append_right _ _ (by simp [hW]), List.set_append_left _ _ (by simp [hW, hR]; omega)]
  simp [hW, List.map_set]
theorem hc_setC (k : Int) (W R : List Int) (c : Int) (hW : W.length = 8) (hR : R.length = 64) (v : Int) : (hc k W R c).set 73 (.int .i64 v) = hc k W R v := by
  unfold hc
  rw [show (73 : Nat) = 72 + 1 from rfl, List.set_cons_succ, List.set_append_right _ _ (by simp [hW]), List.set_append_right _ _ (by simp [hW, hR])]
  simp [hW, hR]
/-- A piece laid over the rest. -/
theorem hc_splice (k : Int) (W R : List Int) (c : Int) (hW : W.length = 8) (hR : R.length = 64) (o : Nat) (l : List Int) (h : o + l.length ≤ 64) : splice (hc k W R c) (9 + o) (l.map (Value.int .u8)) = hc k W (splice R o l) c := by
  unfold splice hc
  rw [show 9 + o = (8 + o) + 1 by omega, List.take_succ_cons, show 8 + o + 1 + (l.map (Value.int .u8)).length = (8 + o + l.length) + 1 by simp; omega, List.drop_succ_cons]
  rw [List.take_append, List.take_of_length_le (by simp [hW] <;> omega), List.drop_append, List.drop_of_length_le (by simp [hW] <;> omega)]
  simp only [List.length_map, hW, List.nil_append, List.cons_append, List.append_assoc]
  rw [show 8 + o - 8 = o by omega, show 8 + o + l.length - 8 = o + l.length by omega]
  rw [List.take_append_of_le_length (by simp [hR]; omega), List.drop_append_of_le_length (by simp [hR]; omega)]
  simp [List.map_append, List.map_take, List.map_drop]

/-- Block g is a hash. -/
structure Hs (w : World) (g : Nat) (k : Int) (W R : List Int) (c : Int) : Prop where
  at' : w.heap[g]? = some (.cells (hv k W R c) 52 (0, 0))
  wl : W.length = 8
  rl : R.length = 64
theorem Hs.lt {w : World} {g : Nat} {k : Int} {W R : List Int} {c : Int} (h : Hs w g k W R c) : g < w.heap.size := (Array.getElem?_eq_some_iff.1 h.at').1
theorem Hs.keep {w w' : World} {g : Nat} {k : Int} {W R : List Int} {c : Int} (h : Hs w g k W R c) (hb : w'.heap[g]? = w.heap[g]?) : Hs w' g k W R c := ⟨by rw [hb]; exact h.at', h.wl, h.rl⟩
theorem Hs.later {w w' : World} {g : Nat} {k : Int} {W R : List Int} {c : Int} (h : Hs w g k W R c) (hb : Below w.heap.size w w') : Hs w' g k W R c := h.keep (hb.block g h.lt)
theorem Hs.cellAt {w : World} {g : Nat} {k : Int} {W R : List Int} {c : Int} (h : Hs w g k W R c) (i : Nat) : w.cell? ⟨g, i, none⟩ = (hc k W R c)[i]? := by
  rw [cell_of_row w g i _ _ _ h.at']
  simp [hv]
theorem Hs.kind {w : World} {g : Nat} {k : Int} {W R : List Int} {c : Int} (h : Hs w g k W R c) : w.cell? ⟨g, 0, none⟩ = some (.int .i64 k) := by rw [h.cellAt]; rfl
theorem Hs.word {w : World} {g : Nat} {k : Int} {W R : List Int} {c : Int} (h : Hs w g k W R c) {i : Nat} (hi : i < 8) : w.cell? ⟨g, 1 + i, none⟩ = some (.int .u32 (ix W i)) := by rw [h.cellAt, hc_word k W R c h.wl hi]
theorem Hs.rest {w : World} {g : Nat} {k : Int} {W R : List Int} {c : Int} (h : Hs w g k W R c) {i : Nat} (hi : i < 64) : w.cell? ⟨g, 9 + i, none⟩ = some (.int .u8 (ix R i)) := by rw [h.cellAt, hc_rest k W R c h.wl h.rl hi]
theorem Hs.count {w : World} {g : Nat} {k : Int} {W R : List Int} {c : Int} (h : Hs w g k W R c) : w.cell? ⟨g, 73, none⟩ = some (.int .i64 c) := by rw [h.cellAt, hc_count k W R c h.wl h.rl]
theorem Hs.free {w : World} {g : Nat} {k : Int} {W R : List Int} {c : Int} (h : Hs w g k W R c) (i : Nat) : w.frozen? ⟨g, i, none⟩ = false := frozen_of_row w g i _ _ h.at'
theorem Hs.setW {w : World} {g : Nat} {k : Int} {W R : List Int} {c : Int} (h : Hs w g k W R c) {i : Nat} (hi : i < 8) (v : Int) : Hs (w.setCell ⟨g, 1 + i, none⟩ (.int .u32 v)) g k (W.set i v) R c := by
  refine ⟨?_, by simp [h.wl], h.rl⟩
  rw [heap_setCell_same w g _ _ _ _ h.at', ← show _ = hv k (W.set i v) R c from congrArg List.toArray (hc_setW k W R c h.wl hi v)]
  simp [hv]
theorem Hs.setR {w : World} {g : Nat} {k : Int} {W R : List Int} {c : Int} (h : Hs w g k W R c) {i : Nat} (hi : i < 64) (v : Int) : Hs (w.setCell ⟨g, 9 + i, none⟩ (.int .u8 v)) g k W (R.set i v) c := by
  refine ⟨?_, h.wl, by simp [h.rl]⟩
  rw [heap_setCell_same w g _ _ _ _ h.at', ← show _ = hv k W (R.set i v) c from congrArg List.toArray (hc_setR k W R c h.wl h.rl hi v)]
  simp [hv]
theorem Hs.setC {w : World} {g : Nat} {k : Int} {W R : List Int} {c : Int} (h : Hs w g k W R c) (v : Int) : Hs (w.setCell ⟨g, 73, none⟩ (.int .i64 v)) g k W R v := by
  refine ⟨?_, h.wl, h.rl⟩
  rw [heap_setCell_same w g _ _ _ _ h.at', ← show _ = hv k W R v from congrArg List.toArray (hc_setC k W R c h.wl h.rl v)]
  simp [hv]
theorem Hs.rangeR {w : World} {g : Nat} {k : Int} {W R : List Int} {c : Int} (h : Hs w g k W R c) : w.rangeAt g 9 (R.map (Value.int .u8)) := by
  intro j v hv
  have hj : j < 64 := by have := (List.getElem?_eq_some_iff.1 hv).1; simp [h.rl] at this; exact this
  rw [h.rest hj, ← hv]
  simp [ix, List.getElem?_eq_getElem (show j < R.length by have := h.rl; omega)]

theorem thSize : (Tryd.prog.info? 52).map (·.size) = some 74 := by kernel_rfl
theorem thZero : (Tryd.prog.info? 52).map (fun i => (i.zero, i.size)) = some (some (.agg (hv 0 (zs 8) (zs 64) 0)), 74) := by kernel_rfl
theorem hBuilt8 (k a0 a1 a2 a3 a4 a5 a6 a7 : Int) : Tryd.prog.built 52 [(0, .int .i64 k), (1, .agg (vk .u32 [a0, a1, a2, a3, a4, a5, a6, a7]))] = some (hv k [a0, a1, a2, a3, a4, a5, a6, a7] (zs 64) 0) := by kernel_rfl
theorem hBuilt (k : Int) (W : List Int) (h : W.length = 8) : Tryd.prog.built 52 [(0, .int .i64 k), (1, .agg (vk .u32 W))] = some (hv k W (zs 64) 0) := by
  obtain ⟨a0, a1, a2, a3, a4, a5, a6, a7, rfl⟩ := list8 h
  exact hBuilt8 k a0 a1 a2 a3 a4 a5 a6 a7
theorem hBuilt0 : Tryd.prog.built 52 [] = some (hv 0 (zs 8) (zs 64) 0) := by kernel_rfl

theorem wpList_hAlloc {ops : Array Oper} {rest : List Oper} {o : Oper} {a : Act} {w : World} {Q : Exit → Act → World → Prop} (hgd : o.guard = none) (ho : o.op = .alloc 52)
    (h : ∀ w1, Hs w1 w.heap.size 0 (zs 8) (zs 64) 0 → Below w.heap.size w w1 → w1.heap.size = w.heap.size + 1 → wpList Tryd.prog ops Q rest (a.put o.dst (.pointer (some ⟨w.heap.size, 0, none⟩))) w1) : wpList Tryd.prog ops Q (o :: rest) a w := by
  refine wpList_plain hgd fun K hK' => ?_
  have hz := (zero_of_info thZero).1
  unfold Oper.wp
  simp [execOp, ho, Instr.alloc, hz, Result.andThen]
  exact hK' _ _ (h _ ⟨heap_alloc_new w _, zs_len 8, zs_len 64⟩ (below_alloc w _) (by simp))
theorem wpList_hBox {ops : Array Oper} {rest : List Oper} {o : Oper} {a : Act} {w : World} {Q : Exit → Act → World → Prop} (hgd : o.guard = none) (x : Operand) (ho : o.op = .box 52 x)
    (k : Int) (W R : List Int) (c : Int) (hW : W.length = 8) (hR : R.length = 64) (hx : a.eval x = .agg (hv k W R c))
    (h : ∀ w1, Hs w1 w.heap.size k W R c → Below w.heap.size w w1 → w1.heap.size = w.heap.size + 1 → wpList Tryd.prog ops Q rest (a.put o.dst (.pointer (some ⟨w.heap.size, 0, none⟩))) w1) : wpList Tryd.prog ops Q (o :: rest) a w := by
  refine wpList_plain hgd fun K hK' => ?_
  unfold Oper.wp
  simp [execOp, ho, Instr.box, hx, Result.andThen]
  exact hK' _ _ (h _ ⟨heap_alloc_new w _, hW, hR⟩ (below_alloc w _) (by simp))
theorem wpList_hLoad {ops : Array Oper} {rest : List Oper} {o : Oper} {a : Act} {w : World} {Q : Exit → Act → World → Prop} (hgd : o.guard = none) (x : Operand) (ho : o.op = .load 52 x)
    (g : Nat) (hx : a.eval x = .pointer (some ⟨g, 0, none⟩)) (k : Int) (W R : List Int) (c : Int) (hg : Hs w g k W R c)
    (h : wpList Tryd.prog ops Q rest (a.put o.dst (.agg (hv k W R c))) w) : wpList Tryd.prog ops Q (o :: rest) a w := by
  exact wpList_load_row hgd _ x ho g hx _ (hv k W R c) (0, 0) _ hg.at' Tryd.underlying52 rfl (by rw [hv_size _ _ _ _ hg.wl hg.rl]; exact thSize) h
theorem wpList_hStore {ops : Array Oper} {rest : List Oper} {o : Oper} {a : Act} {w : World} {Q : Exit → Act → World → Prop} (hgd : o.guard = none) (x y : Operand) (ho : o.op = .store 52 x y)
    (g : Nat) (k k' : Int) (W R W' R' : List Int) (c c' : Int) (hx : a.eval x = .pointer (some ⟨g, 0, none⟩)) (hy : a.eval y = .agg (hv k W R c)) (hg : Hs w g k' W' R' c') (hW : W.length = 8) (hR : R.length = 64)
    (h : ∀ w1, Hs w1 g k W R c → Gb g w w1 → w1.heap.size = w.heap.size → wpList Tryd.prog ops Q rest (a.put o.dst undef) w1) : wpList Tryd.prog ops Q (o :: rest) a w := by
  refine wpList_store_row hgd _ x y ho g (hv k W R c) hx hy _ (hv k' W' R' c') hg.at' (by rw [hv_size _ _ _ _ hW hR]; exact thSize) (by rw [hv_size _ _ _ _ hW hR, hv_size _ _ _ _ hg.wl hg.rl]) (hv_one _ _ _ _) ?_
  exact h _ ⟨setRow_heap w g _ _ _ _ hg.at', hW, hR⟩ ((Gb.refl g w).row _) (by simp)
/-- What is no whole block is read. -/
theorem wpList_rLoad {ops : Array Oper} {rest : List Oper} {o : Oper} {a : Act} {w : World} {Q : Exit → Act → World → Prop} (hgd : o.guard = none) (x : Operand) (ho : o.op = .load 50 x)
    (g : Nat) (hx : a.eval x = .pointer (some ⟨g, 9, none⟩)) (k : Int) (W R : List Int) (c : Int) (hg : Hs w g k W R c)
    (h : wpList Tryd.prog ops Q rest (a.put o.dst (.agg (vk .u8 R))) w) : wpList Tryd.prog ops Q (o :: rest) a w :=
  wpList_load_mid hgd _ x ho g 9 hx _ _ hg.rangeR tb64.und rfl (by rw [List.length_map, hg.rl]; exact tb64.size) h
theorem setCells_row {w : World} {g o : Nat} {t : TypeId} {cur : List Value} {vs : List Value} (hg : w.heap[g]? = some (.cells cur.toArray t (0, 0))) (hfit : o + vs.length ≤ cur.length) (h1 : ∀ v ∈ vs, v.oneCell' = true) :
    w.setCells g o vs = w.setRow g (splice cur o vs).toArray := by
  have e1 := run_storeCells_at Tryd.prog g o t vs 0 cur.toArray w hg (by simpa using hfit) h1
  have e2 := run_storeCells_cells (P := Tryd.prog) g o vs 0 w (fun j hj => by
      rw [Nat.add_zero, cell_of_row w g (o + j) _ _ _ hg]
      simp [List.getElem?_eq_getElem (show o + j < cur.length by omega)]) (fun j hj => frozen_of_row w g _ _ _ hg) h1
  rw [e1] at e2
  have := (Result.ok.inj e2).2
  simp only [Nat.add_zero] at this
  rw [← this]
  simp [splice]
theorem Hs.setRest {w : World} {g : Nat} {k : Int} {W R : List Int} {c : Int} (h : Hs w g k W R c) (R' : List Int) (hR : R'.length = 64) : Hs (w.setCells g 9 (R'.map (Value.int .u8))) g k W R' c := by
  rw [setCells_row h.at' (by rw [hc_len _ _ _ _ h.wl h.rl]; simp [hR]) (ints_oneCell _ _)]
  refine ⟨?_, h.wl, hR⟩
  rw [setRow_heap w g _ _ _ _ h.at', show (9 : Nat) = 9 + 0 from rfl, hc_splice k W R c h.wl h.rl 0 R' (by omega)]
  unfold hv
  rw [show splice R 0 R' = R' by simp [splice]; rw [h.rl]; omega]
theorem wpList_rStore {ops : Array Oper} {rest : List Oper} {o : Oper} {a : Act} {w : World} {Q : Exit → Act → World → Prop} (hgd : o.guard = none) (x y : Operand) (ho : o.op = .store 50 x y)
    (g : Nat) (hx : a.eval x = .pointer (some ⟨g, 9, none⟩)) (k : Int) (W R : List Int) (c : Int) (hg : Hs w g k W R c) (R' : List Int) (hy : a.eval y = .agg (vk .u8 R')) (hR : R'.length = 64)
    (h : ∀ w1, Hs w1 g k W R' c → Gb g w w1 → wpList Tryd.prog ops Q rest (a.put o.dst undef) w1) : wpList Tryd.prog ops Q (o :: rest) a w := by
  refine wpList_store_mid hgd _ x y ho g 9 (vk .u8 R') hx hy (fun j hj => ?_) (by rw [vk_size, hR]; exact tb64.size) (vk_one _ _) ?_
  · rw [vk_size, hR] at hj
    rw [hg.rest hj]
    exact ⟨rfl, hg.free _⟩
  · have e := hg.setRest R' hR
    rw [show (vk .u8 R').toList = R'.map (Value.int .u8) by simp [vk]]
    refine h _ e ?_
    rw [setCells_row hg.at' (by rw [hc_len _ _ _ _ hg.wl hg.rl]; simp [hR]) (ints_oneCell _ _)]
    exact (Gb.refl g w).row _

end Go.Proofs.YtfnnafhifpolmaaDoor
