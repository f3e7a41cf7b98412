/-
  A struct of one-cell fields in a block: made, stored whole, loaded whole; what a function with such a result returns. Conditions: none but the row's size.
-/
import Derived.Test.YtddfbaaghjcbnaaGreatDoorScLow
import Derived.Test.YtddfbaaghjcbnaaGreatDoorGpFs
import Derived.Deep.WholeRow
import Derived.BigRegion
namespace Go.Proofs.YtddfbaaghjcbnaaGreatDoor
open Go.RowKit
set_option linter.unusedVariables false
set_option linter.unusedSimpArgs false

/-- 'x = T{..}', in block g. -/
theorem wpList_stG {ops : Array Oper} {rest : List Oper} {o : Oper} {a : Act} {w : World} {Q : Exit → Act → World → Prop} (hgd : o.guard = none) (T : TypeId) (x y : Operand) (ho : o.op = .store T x y)
    (g : Nat) (cs c0 : Array Value) (hx : a.eval x = .pointer (some ⟨g, 0, none⟩)) (hy : a.eval y = .agg cs) (hg : w.heap[g]? = some (.cells c0 T (0, 0))) (hi : (Tryz.prog.info? T).map (·.size) = some cs.size) (h8 : c0.size = cs.size) (h1 : cs.all (·.oneCell') = true)
    (h : ∀ w1, w1.heap[g]? = some (.cells cs T (0, 0)) → Gb g w w1 → w1.heap.size = w.heap.size → wpList Tryz.prog ops Q rest (a.put o.dst undef) w1) : wpList Tryz.prog ops Q (o :: rest) a w := by
  refine wpList_store_row hgd _ x y ho g cs hx hy _ c0 hg hi h8 h1 ?_
  exact h _ (setRow_heap w g _ _ _ _ hg) ⟨rfl, rfl, rfl, by simp, fun j _ hj => setRow_other w g j _ hj⟩ (by simp)
/-- 'var x T'. -/
theorem wpList_alN {ops : Array Oper} {rest : List Oper} {o : Oper} {a : Act} {w : World} {Q : Exit → Act → World → Prop} (hgd : o.guard = none) (T : TypeId) (ho : o.op = .alloc T) (Z : Array Value) (hz : ∀ w, (zeroValue T).run Tryz.prog w = .ok (.agg Z) w)
    (h : ∀ w1, w1.heap[w.heap.size]? = some (.cells Z T (0, 0)) → Below w.heap.size w w1 → w1.heap.size = w.heap.size + 1 → wpList Tryz.prog ops Q rest (a.put o.dst (.pointer (some ⟨w.heap.size, 0, none⟩))) w1) : wpList Tryz.prog ops Q (o :: rest) a w := by
  refine wpList_plain hgd fun K hK' => ?_
  unfold Oper.wp
  simp [execOp, ho, Instr.alloc, hz, Result.andThen]
  exact hK' _ _ (h _ (heap_alloc_new w _) (below_alloc w _) (by simp))

def fdC (f : Fd) : Array Value := #[.int .i64 f.k, .string f.tx, .int .i64 0, .int .i64 (f.n : Int), .int .i64 f.e]
def fd0 : Array Value := #[.int .i64 0, .string ⟨#[]⟩, .int .i64 0, .int .i64 0, .int .i64 0]
theorem fd0_eq : fd0 = fdC nil0 := rfl
theorem fdc_sz (f : Fd) : (fdC f).size = 5 := rfl
theorem fdc_one (f : Fd) : (fdC f).all (·.oneCell') = true := by simp [fdC, Value.oneCell']
theorem fdc_info (f : Fd) : (Tryz.prog.info? 43).map (·.size) = some (fdC f).size := by
  rw [fdc_sz]
  kernel_rfl
/-- A block that holds what was found. -/
def Fb (g : Nat) (f : Fd) (w : World) : Prop := w.heap[g]? = some (.cells (fdC f) 43 (0, 0))
theorem Fb.lt {g : Nat} {f : Fd} {w : World} (h : Fb g f w) : g < w.heap.size := (Array.getElem?_eq_some_iff.1 h).1
theorem Fb.later {g : Nat} {f : Fd} {w w' : World} (h : Fb g f w) (hb : Below w.heap.size w w') : Fb g f w' := by
  unfold Fb
  rw [hb.block g h.lt]
  exact h
theorem Fb.gb {g k : Nat} {f : Fd} {w w' : World} (h : Fb g f w) (hb : Gb k w w') (hk : g ≠ k) : Fb g f w' := by
  unfold Fb
  rw [hb.block g h.lt hk]
  exact h
theorem Fb.cell {g : Nat} {f : Fd} {w : World} (h : Fb g f w) (j : Nat) : w.cell? ⟨g, j, none⟩ = (fdC f)[j]? := cell_of_row w g j _ _ _ h
theorem fb_k {g : Nat} {k : Int} {tx : ByteArray} {n : Nat} {e : Int} {w : World} (h : Fb g ⟨k, tx, n, e⟩ w) : w.cell? ⟨g, 0, none⟩ = some (.int .i64 k) := h.cell 0
theorem fb_t {g : Nat} {k : Int} {tx : ByteArray} {n : Nat} {e : Int} {w : World} (h : Fb g ⟨k, tx, n, e⟩ w) : w.cell? ⟨g, 1, none⟩ = some (.string tx) := h.cell 1
theorem fb_n {g : Nat} {k : Int} {tx : ByteArray} {n : Nat} {e : Int} {w : World} (h : Fb g ⟨k, tx, n, e⟩ w) : w.cell? ⟨g, 3, none⟩ = some (.int .i64 (n : Int)) := h.cell 3
theorem fb_e {g : Nat} {k : Int} {tx : ByteArray} {n : Nat} {e : Int} {w : World} (h : Fb g ⟨k, tx, n, e⟩ w) : w.cell? ⟨g, 4, none⟩ = some (.int .i64 e) := h.cell 4
/-- 'var f found'. -/
theorem wpList_alF {ops : Array Oper} {rest : List Oper} {o : Oper} {a : Act} {w : World} {Q : Exit → Act → World → Prop} (hgd : o.guard = none) (ho : o.op = .alloc 43)
    (h : ∀ w1, Fb w.heap.size nil0 w1 → Below w.heap.size w w1 → w1.heap.size = w.heap.size + 1 → wpList Tryz.prog ops Q rest (a.put o.dst (.pointer (some ⟨w.heap.size, 0, none⟩))) w1) : wpList Tryz.prog ops Q (o :: rest) a w :=
  wpList_alN hgd _ ho fd0 Tryz.zeroValue43 h
/-- 'f = ..'. -/
theorem wpList_stF {ops : Array Oper} {rest : List Oper} {o : Oper} {a : Act} {w : World} {Q : Exit → Act → World → Prop} (hgd : o.guard = none) (x y : Operand) (ho : o.op = .store 43 x y)
    (g : Nat) (f f0 : Fd) (hx : a.eval x = .pointer (some ⟨g, 0, none⟩)) (hy : a.eval y = .agg (fdC f)) (hg : Fb g f0 w)
    (h : ∀ w1, Fb g f w1 → Gb g w w1 → w1.heap.size = w.heap.size → wpList Tryz.prog ops Q rest (a.put o.dst undef) w1) : wpList Tryz.prog ops Q (o :: rest) a w :=
  wpList_stG hgd _ x y ho g (fdC f) (fdC f0) hx hy hg (fdc_info f) rfl (fdc_one f) h
/-- 'f', loaded whole. -/
theorem wpList_ldF {ops : Array Oper} {rest : List Oper} {o : Oper} {a : Act} {w : World} {Q : Exit → Act → World → Prop} (hgd : o.guard = none) (x : Operand) (ho : o.op = .load 43 x)
    (g : Nat) (f : Fd) (hx : a.eval x = .pointer (some ⟨g, 0, none⟩)) (hg : Fb g f w)
    (h : wpList Tryz.prog ops Q rest (a.put o.dst (.agg (fdC f))) w) : wpList Tryz.prog ops Q (o :: rest) a w :=
  wpList_load_row hgd _ x ho g hx _ (fdC f) (0, 0) _ hg Tryz.underlying43 rfl (fdc_info f) h
theorem below_gb {w0 w w' : World} {g : Nat} (hb : Below w0.heap.size w0 w) (h : Gb g w w') (hg : w0.heap.size ≤ g) : Below w0.heap.size w0 w' :=
  hb.trans ⟨h.os, h.tape, h.output, h.size, fun k hk => h.block k (Nat.lt_of_lt_of_le hk hb.size) (by omega)⟩
theorem bt {w0 w1 w2 : World} (hb : Below w0.heap.size w0 w1) (h : Below w1.heap.size w1 w2) : Below w0.heap.size w0 w2 := hb.trans (h.mono hb.size)
theorem Vr.up {w0 w1 : World} (h : Vr w0) (hb : Below w0.heap.size w0 w1) : Vr w1 := h.later hb
/-- A function whose result is such a struct, in block g. -/
theorem fd_end {w0 w : World} {fn : Func} {p : Tmp} {a : Act} (h : fn.results = #[.cell p 43]) (g : Nat) (f F : Fd) (hp : a.tmps.getD p undef = .pointer (some ⟨g, 0, none⟩)) (hd : a.defers = []) (hg : Fb g f w) (hF : f = F) (hb : Below w0.heap.size w0 w) :
    bodyPost Tryz.prog fn (fun e w' => e = .returned (.agg (fdC F)) ∧ Below w0.heap.size w0 w') .ret a w :=
  bodyPost_ret (results_cell_row h _ _ g _ (fdC f) _ _ hp hg Tryz.underlying43 rfl (fdc_info _)) hd ⟨by rw [hF], hb⟩

theorem run_stringsClone (s : ByteArray) (w : World) (h : s.size ≤ 281474976710656) : Calls Tryz.prog 101 #[.string s] w fun e w' => e = .returned (.string s) ∧ Below w.heap.size w w' := by
  have c := hide (Tryz.stringslite_Clone s w h)
  go_enter Tryz.func101, Tryz.ntmps101
  go_wp2_with (go_at_call 119; refine (unhide c).mono ?_; rintro e w1 ⟨rfl, hb⟩)
  go_ret
  exact ⟨rfl, hb⟩

set_option maxHeartbeats 1000000 in
theorem itself_any (k : Int) (s : ByteArray) (w : World) (hs : s.size ≤ 281474976710656) :
    Calls Tryz.prog 64 #[.int .i64 k, .string s] w fun e w' => e = .returned (.agg (fdC (its k (bl s)))) ∧ Below w.heap.size w w' := by
  have c := fun w => hide (run_stringsClone s w hs)
  have hz := hide (bl_len s)
  go_enter Tryz.func64, Tryz.ntmps64
  go_wp2_with (first | (with_reducible show wpList Tryz.prog _ _ (Oper.mk _ (Op.alloc 43) _ _ _ none :: _) _ _; refine wpList_alF rfl rfl ?_; intro w1 r1 b1 s1) | (go_at_call 101; refine (unhide (c _)).mono ?_; rintro e w2 ⟨rfl, b2⟩; have r2 := r1.later b2; have bz := bt b1 b2) | (with_reducible show wpList Tryz.prog _ _ (Oper.mk _ (Op.store 43 _ _) _ _ _ none :: _) _ _; refine wpList_stF rfl (.tmp 4) (.tmp 11) rfl w.heap.size (its k (bl s)) nil0 (by simp [Act.eval, Act.put]) (by simp [Act.eval, Act.put, fdC, its, unhide hz, ba_bl]) r2 ?_; intro w3 r3 g3 s3))
  exact fd_end rfl w.heap.size _ _ rfl rfl r3 rfl (below_gb bz g3 (Nat.le_refl _))

end Go.Proofs.YtddfbaaghjcbnaaGreatDoor
