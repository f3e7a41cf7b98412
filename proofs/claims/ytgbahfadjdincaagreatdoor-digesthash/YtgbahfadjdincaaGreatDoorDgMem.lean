/-
  Words in memory, further: a slice of them that is cut, a word stored into a row of the call's own, such a row cut at its end, made; a literal row of texts. Conditions: at most 10 to the 8 words.
-/
import Derived.Test.YtgbahfadjdincaaGreatDoorDgPlain
import Derived.Test.YtgbahfadjdincaaGreatDoorGpFs
import Derived.Deep.WholeRow
import Derived.BigRegion
import Derived.Test.YtgbahfadjdincaaGreatDoorWdMem
import Derived.Test.YtgbahfadjdincaaGreatDoorTMem
import Derived.Laws.ResultCell
namespace Go.Proofs.YtgbahfadjdincaaGreatDoor
open Go.RowKit
set_option linter.unusedVariables false
set_option linter.unusedSimpArgs false

/-- 'x = T{..}', in block g. -/
theorem wpList_stK {ops : Array Oper} {rest : List Oper} {o : Oper} {a : Act} {w : World} {Q : Exit → Act → World → Prop} (hgd : o.guard = none) (T : TypeId) (x y : Operand) (ho : o.op = .store T x y)
    (g : Nat) (cs c0 : Array Value) (hx : a.eval x = .pointer (some ⟨g, 0, none⟩)) (hy : a.eval y = .agg cs) (hg : w.heap[g]? = some (.cells c0 T (0, 0))) (hi : (Tryz.prog.info? T).map (·.size) = some cs.size) (h8 : c0.size = cs.size) (h1 : cs.all (·.oneCell') = true)
    (h : ∀ w1, w1.heap[g]? = some (.cells cs T (0, 0)) → Gb g w w1 → w1.heap.size = w.heap.size → wpList Tryz.prog ops Q rest (a.put o.dst undef) w1) : wpList Tryz.prog ops Q (o :: rest) a w := by
  refine wpList_store_row hgd _ x y ho g cs hx hy _ c0 hg hi h8 h1 ?_
  exact h _ (setRow_heap w g _ _ _ _ hg) ⟨rfl, rfl, rfl, by simp, fun j _ hj => setRow_other w g j _ hj⟩ (by simp)
/-- 'var x T'. -/
theorem wpList_alK {ops : Array Oper} {rest : List Oper} {o : Oper} {a : Act} {w : World} {Q : Exit → Act → World → Prop} (hgd : o.guard = none) (T : TypeId) (ho : o.op = .alloc T) (Z : Array Value) (hz : ∀ w, (zeroValue T).run Tryz.prog w = .ok (.agg Z) w)
    (h : ∀ w1, w1.heap[w.heap.size]? = some (.cells Z T (0, 0)) → Below w.heap.size w w1 → w1.heap.size = w.heap.size + 1 → wpList Tryz.prog ops Q rest (a.put o.dst (.pointer (some ⟨w.heap.size, 0, none⟩))) w1) : wpList Tryz.prog ops Q (o :: rest) a w := by
  refine wpList_plain hgd fun K hK' => ?_
  unfold Oper.wp
  simp [execOp, ho, Instr.alloc, hz, Result.andThen]
  exact hK' _ _ (h _ (heap_alloc_new w _) (below_alloc w _) (by simp))
/-- Below a block all is as it was, where one block above it changes. -/
theorem belowG {B g : Nat} {w0 w w' : World} (hb : Below B w0 w) (h : Gb g w w') (hg : B ≤ g) (hB : B ≤ w.heap.size) : Below B w0 w' :=
  hb.trans ⟨h.os, h.tape, h.output, h.size, fun k hk => h.block k (Nat.lt_of_lt_of_le hk hB) (by omega)⟩
theorem belT {w0 w1 w2 : World} (hb : Below w0.heap.size w0 w1) (h : Below w1.heap.size w1 w2) : Below w0.heap.size w0 w2 := hb.trans (h.mono hb.size)

/-- The address of 'l[lo:..]', of words. -/
def cutW (ao : Option Addr) (c lo : Nat) : Option Addr := if c = lo then ao else ao.map (·.add (lo * 3))
theorem Tryz.sizeWd (w : World) : (sizeOf (Tryz.prog.elem 29)).run Tryz.prog w = .ok 3 w := by kernel_rfl
theorem run_cutW_l (ao : Option Addr) (n c lo : Nat) (h1 : lo ≤ n) (L : Int) (hL : L = lo) (w : World) :
    (Instr.slice 29 (.slice ao n c) (some (.int .i64 L)) none none).run Tryz.prog w = .ok (.slice (cutW ao c lo) (n - lo) (c - lo)) w := by
  subst hL
  rw [run_slice_l w 29 ao n c elemW .i64 lo (by omega) (by omega), Tryz.sizeWd]
  rfl
theorem run_cutW_h (ao : Option Addr) (n c hi : Nat) (h2 : hi ≤ c) (H : Int) (hH : H = hi) (w : World) :
    (Instr.slice 29 (.slice ao n c) none (some (.int .i64 H)) none).run Tryz.prog w = .ok (.slice (cutW ao c 0) (hi - 0) (c - 0)) w := by
  subst hH
  rw [run_slice_h w 29 ao n c elemW .i64 hi (by omega) (by omega), Tryz.sizeWd]
  rfl
theorem Wds.cut {w : World} {ao : Option Addr} {n c : Nat} {l : List Wd} (h : Wds w ao n c l) {lo hi : Nat} (h1 : lo ≤ hi) (h2 : hi ≤ n) : Wds w (cutW ao c lo) (hi - lo) (c - lo) ((l.drop lo).take (hi - lo)) := by
  have hl := h.len
  have hle := h.le
  refine ⟨by simp [hl]; omega, by omega, by have := h.max; omega, fun e => ?_, ?_⟩
  · have : ao = none := by
      unfold cutW at e
      split at e
      · exact e
      · simpa using e
    have := h.nil this
    omega
  · by_cases hz : hi - lo = 0
    · exact .inl hz
    · right
      rcases h.at' with h0 | ⟨b, off, rfl, hc⟩
      · omega
      · refine ⟨b, off + lo * 3, by unfold cutW; rw [if_neg (by omega)]; simp [Addr.add_lit], fun i p hp => ?_⟩
        have hi2 : i < hi - lo := by
          have := (List.getElem?_eq_some_iff.1 hp).1
          rw [List.length_take] at this
          omega
        rw [List.getElem?_take_of_lt hi2, List.getElem?_drop] at hp
        have := hc (lo + i) p hp
        rw [show off + lo * 3 + i * 3 = off + (lo + i) * 3 by omega]
        exact this
theorem Wds.cut_l {w : World} {ao : Option Addr} {n c : Nat} {l : List Wd} (h : Wds w ao n c l) {lo : Nat} (h1 : lo ≤ n) : Wds w (cutW ao c lo) (n - lo) (c - lo) (l.drop lo) := by
  have := h.cut h1 (Nat.le_refl n)
  rwa [List.take_of_length_le (by simp [h.len])] at this
theorem ob_cutW {ao : Option Addr} {c lo k : Nat} (h : ob (cutW ao c lo) k) : ob ao k := by
  obtain ⟨a, e, hk⟩ := h
  unfold cutW at e
  split at e
  · exact ⟨a, e, hk⟩
  · cases ao with
    | none => simp at e
    | some z =>
      simp only [Option.map_some, Option.some.injEq] at e
      subst e
      refine ⟨z, rfl, ?_⟩
      simp only [Addr.add] at hk
      split at hk <;> exact hk

theorem Wds.keepZ {w w' : World} {ao : Option Addr} {n c : Nat} {l : List Wd} (h : Wds w ao n c l) (hk : n = 0 ∨ ∀ k, ob ao k → w'.heap[k]? = w.heap[k]?) : Wds w' ao n c l := by
  rcases hk with h0 | hk
  · exact ⟨h.len, h.le, h.max, h.nil, .inl h0⟩
  · exact h.keepB fun k h1 _ => hk k h1
/-- Where there are words, their block lies below. -/
theorem Wds.low {w : World} {ao : Option Addr} {n c : Nat} {l : List Wd} (h : Wds w ao n c l) : n = 0 ∨ ∀ k, ob ao k → k < w.heap.size := by
  rcases h.at' with h0 | ⟨b, off, rfl, hc⟩
  · exact .inl h0
  · cases l with
    | nil => exact .inl (by have := h.len; simpa using this.symm)
    | cons p r =>
      refine .inr fun k hk => ?_
      obtain ⟨a, ha, rfl⟩ := hk
      cases ha
      exact (hc 0 p rfl).lt
theorem low_cut {ao : Option Addr} {n c lo g : Nat} (h : n = 0 ∨ ∀ k, ob ao k → k < g) : n - lo = 0 ∨ ∀ k, ob (cutW ao c lo) k → k < g := by
  rcases h with h | h
  · exact .inl (by omega)
  · exact .inr fun k hk => h k (ob_cutW hk)
theorem low_keep {ao : Option Addr} {n g B : Nat} {w w' : World} (h : n = 0 ∨ ∀ k, ob ao k → k < g) (hb : Below B w w') (hg : g ≤ B) : n = 0 ∨ ∀ k, ob ao k → w'.heap[k]? = w.heap[k]? := by
  rcases h with h | h
  · exact .inl h
  · exact .inr fun k hk => hb.block k (Nat.lt_of_lt_of_le (h k hk) hg)
theorem set_parts {α : Type} {xs : List α} {k r : Nat} {v : α} (h : k < xs.length) (vs : List α) : (xs.set k v).take (k + 1) ++ (vs ++ (xs.set k v).drop (k + 1 + r)) = xs.take k ++ (v :: vs ++ xs.drop (k + (r + 1))) := by
  have hs : xs.set k v = xs.take k ++ v :: xs.drop (k + 1) := by rw [List.set_eq_take_append_cons_drop, if_pos h]
  have ht : (xs.take k).length = k := by rw [List.length_take]; omega
  have e1 : (xs.take k ++ v :: xs.drop (k + 1)).take (k + 1) = xs.take k ++ [v] := by
    rw [List.take_append, ht, List.take_of_length_le (by omega), show k + 1 - k = 1 by omega]
    rfl
  have e2 : (xs.take k ++ v :: xs.drop (k + 1)).drop (k + 1 + r) = xs.drop (k + (r + 1)) := by
    rw [List.drop_append, ht, List.drop_eq_nil_of_le (by omega), List.nil_append, show k + 1 + r - k = r + 1 by omega, List.drop_succ_cons, List.drop_drop]
    congr 1
    omega
  rw [hs, e1, e2]
  simp
theorem store_own {B : Nat} {T : TypeId} {sz g n cap off : Nat} : ∀ (vs : List Value) (i : Nat) (xs : List Value) (w : World), w.ownsRow B T sz (.slice (some ⟨g, 0, none⟩) n cap) n xs → off + i + vs.length ≤ xs.length → (∀ v ∈ vs, v.oneCell' = true) →
    ∃ w', (storeCells ⟨g, off, none⟩ vs i).run Tryz.prog w = .ok () w' ∧ w'.ownsRow B T sz (.slice (some ⟨g, 0, none⟩) n cap) n (xs.take (off + i) ++ (vs ++ xs.drop (off + i + vs.length))) ∧ Gb g w w'
  | [], i, xs, w, h, hl, _ => ⟨w, rfl, by simpa using h, Gb.refl _ _⟩
  | v :: rest, i, xs, w, h, hl, h1 => by
    have hk : off + i < xs.length := by simp at hl; omega
    have hadd : (⟨g, off, none⟩ : Addr).add i = ⟨g, off + i, none⟩ := Addr.add_lit _ _ _
    have hcell : w.cell? ⟨g, off + i, none⟩ = some xs[off + i] := by
      have := h.cells (g := g) rfl (off + i) _ (List.getElem?_eq_getElem hk)
      rw [Addr.add_lit, Nat.zero_add] at this
      exact this
    have hfro := h.frozenAt (off + i)
    have hst : (store ((⟨g, off, none⟩ : Addr).add i) v).run Tryz.prog w = .ok () (w.setCell ⟨g, off + i, none⟩ v) := by
      rw [hadd, run_store Tryz.prog w _ v _ (h1 v (by simp)), hcell]
      simp [hfro]
    obtain ⟨w', e1, e2, e3⟩ := store_own (off := off) rest (i + 1) (xs.set (off + i) v) (w.setCell ⟨g, off + i, none⟩ v) (h.stored (off + i) v).1 (by rw [List.length_set]; rw [List.length_cons] at hl; omega) (fun x hx => h1 x (by simp [hx]))
    refine ⟨w', ?_, ?_, ?_⟩
    · simp only [storeCells, Sem.run_bind, hst, Result.andThen_ok, e1]
    · have := set_parts (r := rest.length) (v := v) hk rest
      rw [show off + (i + 1) = off + i + 1 by omega, this] at e2
      exact e2
    · refine ⟨e3.os, e3.tape, e3.output, Nat.le_trans (by simp) e3.size, fun k hk hq => ?_⟩
      exact (e3.block k (by simpa using hk) hq).trans (heap_setCell_other _ _ _ _ hq)
theorem flatW_set : ∀ (l : List Wd) (j : Nat) (v : Wd), j < l.length → flatW (l.set j v) = (flatW l).take (j * 3) ++ ((wdC v).toList ++ (flatW l).drop (j * 3 + 3))
  | [], j, v, h => by simp at h
  | y :: l, 0, v, h => by
    have hs : ((wdC y).toList).length = 3 := rfl
    show (wdC v).toList ++ flatW l = ((wdC y).toList ++ flatW l).take 0 ++ ((wdC v).toList ++ ((wdC y).toList ++ flatW l).drop 3)
    rw [List.take_zero, List.nil_append, List.drop_append, List.drop_eq_nil_of_le (by rw [hs]; omega), hs, List.nil_append, Nat.sub_self, List.drop_zero]
  | y :: l, j + 1, v, h => by
    have ih := flatW_set l j v (by simp at h; omega)
    have hs : ((wdC y).toList).length = 3 := rfl
    have e1 : ((wdC y).toList ++ flatW l).take ((j + 1) * 3) = (wdC y).toList ++ (flatW l).take (j * 3) := by
      rw [List.take_append, List.take_of_length_le (by rw [hs]; omega), hs, show (j + 1) * 3 - 3 = j * 3 by omega]
    have e2 : ((wdC y).toList ++ flatW l).drop ((j + 1) * 3 + 3) = (flatW l).drop (j * 3 + 3) := by
      rw [List.drop_append, List.drop_eq_nil_of_le (by rw [hs]; omega), hs, List.nil_append, show (j + 1) * 3 + 3 - 3 = j * 3 + 3 by omega]
    show (wdC y).toList ++ flatW (l.set j v) = ((wdC y).toList ++ flatW l).take ((j + 1) * 3) ++ ((wdC v).toList ++ ((wdC y).toList ++ flatW l).drop ((j + 1) * 3 + 3))
    rw [ih, e1, e2, List.append_assoc]
/-- 'l[j]', l of the call's own: its address, what lies there. -/
theorem WdMine.idx {B : Nat} {w : World} {ao : Option Addr} {n c : Nat} {l : List Wd} (h : WdMine B w ao n c l) {j : Nat} {p : Wd} (hj : l[j]? = some p) (I : Int) (hI : I = j) :
    ∃ g, ao = some ⟨g, 0, none⟩ ∧ B ≤ g ∧ g < w.heap.size ∧ (∀ wx, (Instr.indexAt 29 (.slice ao n c) (.int .i64 I)).run Tryz.prog wx = .ok (.pointer (some ⟨g, j * 3, none⟩)) wx) ∧ AtW w g (j * 3) p := by
  subst hI
  have hln := h.len
  have hl : j < n := by rw [← hln]; exact (List.getElem?_eq_some_iff.1 hj).1
  rcases h.own.2 with ⟨hv, h0⟩ | ⟨g, cap, cur, hv, hg, hh, hle, hmax, hsz, htake⟩
  · omega
  · simp only [Value.slice.injEq] at hv
    obtain ⟨rfl, _, rfl⟩ := hv
    refine ⟨g, rfl, hg, (Array.getElem?_eq_some_iff.1 hh).1, fun wx => ?_, ?_⟩
    · have hs : ∀ w : World, (sizeOf (Tryz.prog.elem 29)).run Tryz.prog w = .ok 3 w := by intro w; kernel_rfl
      rw [run_indexAt_slice wx 29 _ n _ .i64 (j : Int) elemW]
      simp [hs, hl, Addr.add_lit, Result.andThen]
    · intro q hq
      have h1 := flatW_at l j q p hj hq
      rw [wdc_at p hq] at h1 ⊢
      have := h.own.cells (g := g) rfl (j * 3 + q) _ h1
      rw [Addr.add_lit, Nat.zero_add] at this
      exact this
theorem WdMine.put {B : Nat} {w : World} {g n c : Nat} {l : List Wd} (h : WdMine B w (some ⟨g, 0, none⟩) n c l) {j : Nat} (hj : j < n) (v : Wd) :
    ∃ w', (storeVar 34 ⟨g, j * 3, none⟩ (.agg (wdC v))).run Tryz.prog w = .ok () w' ∧ WdMine B w' (some ⟨g, 0, none⟩) n c (l.set j v) ∧ Gb g w w' := by
  have hln := h.len
  obtain ⟨w', e1, e2, e3⟩ := store_own (off := j * 3) (wdC v).toList 0 (flatW l) w h.own (by rw [flatW_len, show ((wdC v).toList).length = 3 from rfl]; omega) (fun u hu => (Array.all_eq_true_iff_forall_mem.1 (wdc_one v)) u (by simpa using hu))
  refine ⟨w', ?_, ⟨by simp [hln], ?_⟩, e3⟩
  · have hq := wdc_info v
    cases hp : Tryz.prog.info? 34 with
    | none => simp [hp] at hq
    | some i =>
      have hs : (wdC v).size = i.size := by simp [hp] at hq; omega
      simp [storeVar, sizeOf, typeInfo, hp, Value.cells, hs, e1]
  · rw [flatW_set l j v (by omega)]
    exact e2
/-- 'l[j] = v', l of the call's own. -/
theorem wpList_putW {ops : Array Oper} {rest : List Oper} {o : Oper} {a : Act} {w : World} {Q : Exit → Act → World → Prop} (hgd : o.guard = none) (x y : Operand) (ho : o.op = .store 34 x y)
    (B g n c : Nat) (l : List Wd) (j : Nat) (v : Wd) (CS : Array Value) (hCS : CS = wdC v) (hx : a.eval x = .pointer (some ⟨g, j * 3, none⟩)) (hy : a.eval y = .agg CS) (h : WdMine B w (some ⟨g, 0, none⟩) n c l) (hj : j < n)
    (k : ∀ w1, WdMine B w1 (some ⟨g, 0, none⟩) n c (l.set j v) → Gb g w w1 → wpList Tryz.prog ops Q rest (a.put o.dst undef) w1) : wpList Tryz.prog ops Q (o :: rest) a w := by
  subst hCS
  refine wpList_plain hgd fun _ hK => ?_
  obtain ⟨w', e1, e2, e3⟩ := h.put hj v
  unfold Oper.wp execOp
  simp only [ho, hx, hy, Instr.storeAt, Instr.sureAddr, Sem.run_bind, Sem.run_pure, Result.andThen_ok, e1]
  exact hK _ _ (k w' e2 e3)

/-- The first m of a row of the call's own. -/
theorem WdMine.first {B : Nat} {w : World} {g n c : Nat} {l : List Wd} (h : WdMine B w (some ⟨g, 0, none⟩) n c l) {m : Nat} (hm : m ≤ n) : WdMine B w (some ⟨g, 0, none⟩) m c (l.take m) := by
  have hl := h.len
  rcases h.own.2 with ⟨hv, h0⟩ | ⟨q, cap, cur, hv, hg, hh, hle, hmax, hsz, htake⟩
  · cases hv
  · simp only [Value.slice.injEq, Option.some.injEq, Addr.mk.injEq, and_true, true_and] at hv
    obtain ⟨rfl, rfl⟩ := hv
    have e : ∀ (l : List Wd) (m : Nat), flatW (l.take m) = (flatW l).take (m * 3) := by
      intro l
      induction l with
      | nil => intro m; simp [flatW]
      | cons x r ih =>
        intro m
        cases m with
        | zero => simp [flatW]
        | succ m =>
          have h2 := ih m
          have hs : ((wdC x).toList).length = 3 := rfl
          show (wdC x).toList ++ flatW (r.take m) = ((wdC x).toList ++ flatW r).take ((m + 1) * 3)
          rw [h2, List.take_append, List.take_of_length_le (l := (wdC x).toList) (by rw [hs]; omega), hs, show (m + 1) * 3 - 3 = m * 3 by omega]
    refine ⟨by rw [List.length_take]; omega, ?_, .inr ⟨_, _, cur, rfl, hg, hh, by omega, hmax, hsz, ?_⟩⟩
    · rw [flatW_len, List.length_take, Nat.min_eq_left (by omega)]
    · rw [e, ← htake, List.take_take, Nat.min_eq_left (by omega)]
theorem cutW0 (g c : Nat) : cutW (some ⟨g, 0, none⟩) c 0 = some ⟨g, 0, none⟩ := by
  unfold cutW
  split
  · rfl
  · simp [Addr.add_lit]
theorem flatW_rep : ∀ n : Nat, flatW (List.replicate n wd0) = (madeCells (wdC wd0) (n * 3)).toList := by
  intro n
  apply List.ext_getElem?
  intro j
  have hl : (flatW (List.replicate n wd0)).length = n * 3 := by rw [flatW_len, List.length_replicate]
  by_cases hj : j < n * 3
  · have h1 := flatW_at (List.replicate n wd0) (j / 3) (j % 3) wd0 (by rw [List.getElem?_replicate, if_pos (by omega)]) (Nat.mod_lt _ (by decide))
    rw [show j / 3 * 3 + j % 3 = j by omega] at h1
    rw [h1]
    have h2 : (madeCells (wdC wd0) (n * 3)).toList[j]? = some ((wdC wd0)[j % 3]!) := by
      simp [madeCells, hj, wdc_sz]
    rw [h2, wdc_at wd0 (Nat.mod_lt _ (by decide))]
    congr 1
    rw [getElem!_pos (wdC wd0) (j % 3) (by rw [wdc_sz]; exact Nat.mod_lt _ (by decide))]
  · rw [List.getElem?_eq_none (by omega), List.getElem?_eq_none (by rw [Array.length_toList, size_madeCells]; omega)]
/-- 'make([]api.Word, n)'. -/
theorem wpList_mkW {ops : Array Oper} {rest : List Oper} {o : Oper} {a : Act} {w : World} {Q : Exit → Act → World → Prop} (hgd : o.guard = none) (l c : Operand)
    (ho : o.op = Op.makeSlice 29 l c) (kl kc : IntKind) (L C : Int) (n : Nat) (hl : a.eval l = .int kl L) (hc : a.eval c = .int kc C) (hL : L = (n : Int)) (hC : C = (n : Int)) (hbound : n ≤ 1000000000)
    (h : ∀ w1, WdMine w.heap.size w1 (some ⟨w.heap.size, 0, none⟩) n n (List.replicate n wd0) → Below w.heap.size w w1 → w.heap.size < w1.heap.size → wpList Tryz.prog ops Q rest (a.put o.dst (.slice (some ⟨w.heap.size, 0, none⟩) n n)) w1) :
    wpList Tryz.prog ops Q (o :: rest) a w := by
  obtain ⟨i0, hi, hz0, hz1, hz2⟩ := info_parts infoW
  refine wpList_make_full w hgd l c 29 ho w.heap.size 34 i0 (.agg (wdC wd0)) 3 Tryz.underlying29 hi hz0 hz1 kl kc L C n hl hc hL hC (by rw [hz2]; omega) (by unfold maxLen; omega) (Nat.le_refl _) ?_
  intro w1 hown hgrow
  rw [show (Value.agg (wdC wd0)).cells = wdC wd0 from rfl, ← flatW_rep] at hown
  have hm : WdMine w.heap.size w1 (some ⟨w.heap.size, 0, none⟩) n n (List.replicate n wd0) := ⟨by simp, hown⟩
  have hlt : w.heap.size < w1.heap.size := (hown.lt w.heap.size rfl).2
  exact h w1 hm ((Below.refl _ w).grown hgrow (Nat.le_refl _) (fun k hk => by cases hk)) hlt
def OutB (w : World) (b : Bool) (e : Ending) (w' : World) : Prop := e = .returned (.bool b) ∧ Below w.heap.size w w'
theorem OutB.low {w w1 w2 : World} {b : Bool} {e : Ending} (h : OutB w1 b e w2) (hb : Below w.heap.size w w1) : OutB w b e w2 := ⟨h.1, belT hb h.2⟩
def lits (ss : List ByteArray) : Bool := ss.all (fun s => decide (s.size ≤ 100)) && decide (ss.length ≤ 10)
theorem lits_ss {ss : List ByteArray} (h : lits ss = true) (w : World) : Ss (w.alloc (.cells (ss.map Value.string).toArray 9)) (some ⟨w.heap.size, 0, none⟩) ss.length ss.length ss := by
  simp only [lits, Bool.and_eq_true, List.all_eq_true, decide_eq_true_eq] at h
  exact Ss.lit w ss (fun s hs => by have := h.1 s hs; omega) (by omega)
theorem AtW.k {w : World} {b o : Nat} {p : Wd} (h : AtW w b o p) : w.cell? ⟨b, o, none⟩ = some (.int .i64 p.k) := h 0 (by decide)
theorem AtW.t {w : World} {b o : Nat} {p : Wd} (h : AtW w b o p) : w.cell? ⟨b, o + 1, none⟩ = some (.string p.tx) := h 1 (by decide)
theorem AtW.a {w : World} {b o : Nat} {p : Wd} (h : AtW w b o p) : w.cell? ⟨b, o + 2, none⟩ = some (.int .i64 p.at') := h 2 (by decide)
theorem Ss.get {w : World} {ao : Option Addr} {n c : Nat} {ss : List ByteArray} (h : Ss w ao n c ss) {i : Nat} (hi : i < n) : ss[i]? = some (ss.getD i ByteArray.empty) := by
  have hl := h.len
  rw [List.getD_eq_getElem?_getD, List.getElem?_eq_getElem (by omega), Option.getD_some]
theorem str_neK {x y : ByteArray} (h : x ≠ y) : (x.toList == y.toList) = false := by
  rw [beq_eq_false_iff_ne]
  intro e
  apply h
  apply ByteArray.ext
  apply Array.ext'
  rwa [ByteArray.toList_eq, ByteArray.toList_eq] at e
theorem str_self (x : ByteArray) : (x.toList == x.toList) = true := beq_self_eq_true _
theorem str_eqK (x y : ByteArray) : (x.toList == y.toList) = decide (x = y) := by
  by_cases h : x = y
  · subst h; rw [str_self]; exact (decide_eq_true rfl).symm
  · rw [str_neK h]; exact (decide_eq_false h).symm
theorem kdrop_cons {α : Type} {l : List α} {j : Nat} {p : α} (h : l[j]? = some p) : l.drop j = p :: l.drop (j + 1) := by
  obtain ⟨h1, rfl⟩ := List.getElem?_eq_some_iff.1 h
  exact List.drop_eq_getElem_cons h1

end Go.Proofs.YtgbahfadjdincaaGreatDoor
