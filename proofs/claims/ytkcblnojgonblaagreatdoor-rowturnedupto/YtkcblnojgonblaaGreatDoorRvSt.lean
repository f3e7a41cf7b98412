/-
  A value stored into a row of values of the call's own: where it lies, what then lies there. Conditions: the place is one of the row's.
-/
import Derived.Test.YtkcblnojgonblaaGreatDoorMTm
namespace Go.Proofs.YtkcblnojgonblaaGreatDoor
open Go.RowKit
set_option linter.unusedVariables false
set_option linter.unusedSimpArgs false

theorem set_parts {α : Type} {xs : List α} {k r : Nat} {v : α} (h : k < xs.length) (vs : List α) : (xs.set k v).take (k + 1) ++ (vs ++ (xs.set k v).drop (k + 1 + r)) = xs.take k ++ (v :: vs ++ xs.drop (k + (r + 1))) := by
  have hs : xs.set k v = xs.take k ++ v :: xs.drop (k + 1) := by rw [List.set_eq_take_append_cons_drop, if_pos h]
  have ht : (xs.take k).length = k := by rw [List.length_take]; omega
  have e1 : (xs.take k ++ v :: xs.drop (k + 1)).take (k + 1) = xs.take k ++ [v] := by
    rw [List.take_append, ht, List.take_of_length_le (by omega), show k + 1 - k = 1 by omega]
    rfl
  have e2 : (xs.take k ++ v :: xs.drop (k + 1)).drop (k + 1 + r) = xs.drop (k + (r + 1)) := by
    rw [List.drop_append, ht, List.drop_eq_nil_of_le (by omega), List.nil_append, show k + 1 + r - k = r + 1 by omega, List.drop_succ_cons, List.drop_drop]
    congr 1
    omega
  rw [hs, e1, e2]
  simp
theorem store_own {B : Nat} {T : TypeId} {sz g n cap off : Nat} : ∀ (vs : List Value) (i : Nat) (xs : List Value) (w : World), w.ownsRow B T sz (.slice (some ⟨g, 0, none⟩) n cap) n xs → off + i + vs.length ≤ xs.length → (∀ v ∈ vs, v.oneCell' = true) →
    ∃ w', (storeCells ⟨g, off, none⟩ vs i).run Tryz.prog w = .ok () w' ∧ w'.ownsRow B T sz (.slice (some ⟨g, 0, none⟩) n cap) n (xs.take (off + i) ++ (vs ++ xs.drop (off + i + vs.length))) ∧ Gb g w w'
  | [], i, xs, w, h, hl, _ => ⟨w, rfl, by simpa using h, Gb.refl _ _⟩
  | v :: rest, i, xs, w, h, hl, h1 => by
    have hk : off + i < xs.length := by simp at hl; omega
    have hadd : (⟨g, off, none⟩ : Addr).add i = ⟨g, off + i, none⟩ := Addr.add_lit _ _ _
    have hcell : w.cell? ⟨g, off + i, none⟩ = some xs[off + i] := by
      have := h.cells (g := g) rfl (off + i) _ (List.getElem?_eq_getElem hk)
      rw [Addr.add_lit, Nat.zero_add] at this
      exact this
    have hfro := h.frozenAt (off + i)
    have hst : (store ((⟨g, off, none⟩ : Addr).add i) v).run Tryz.prog w = .ok () (w.setCell ⟨g, off + i, none⟩ v) := by
      rw [hadd, run_store Tryz.prog w _ v _ (h1 v (by simp)), hcell]
      simp [hfro]
    obtain ⟨w', e1, e2, e3⟩ := store_own (off := off) rest (i + 1) (xs.set (off + i) v) (w.setCell ⟨g, off + i, none⟩ v) (h.stored (off + i) v).1 (by rw [List.length_set]; rw [List.length_cons] at hl; omega) (fun x hx => h1 x (by simp [hx]))
    refine ⟨w', ?_, ?_, ?_⟩
    · simp only [storeCells, Sem.run_bind, hst, Result.andThen_ok, e1]
    · have := set_parts (r := rest.length) (v := v) hk rest
      rw [show off + (i + 1) = off + i + 1 by omega, this] at e2
      exact e2
    · refine ⟨e3.os, e3.tape, e3.output, Nat.le_trans (by simp) e3.size, fun k hk hq => ?_⟩
      exact (e3.block k (by simpa using hk) hq).trans (heap_setCell_other _ _ _ _ hq)
theorem flatV_set : ∀ (l : List Va) (j : Nat) (v : Va), j < l.length → flatV (l.set j v) = (flatV l).take (j * 12) ++ ((vaC v).toList ++ (flatV l).drop (j * 12 + 12))
  | [], j, v, h => by simp at h
  | y :: l, 0, v, h => by
    have hs : ((vaC y).toList).length = 12 := rfl
    show (vaC v).toList ++ flatV l = ((vaC y).toList ++ flatV l).take 0 ++ ((vaC v).toList ++ ((vaC y).toList ++ flatV l).drop 12)
    rw [List.take_zero, List.nil_append, List.drop_append, List.drop_eq_nil_of_le (by rw [hs]; omega), hs, List.nil_append, Nat.sub_self, List.drop_zero]
  | y :: l, j + 1, v, h => by
    have ih := flatV_set l j v (by simp at h; omega)
    have hs : ((vaC y).toList).length = 12 := rfl
    have e1 : ((vaC y).toList ++ flatV l).take ((j + 1) * 12) = (vaC y).toList ++ (flatV l).take (j * 12) := by
      rw [List.take_append, List.take_of_length_le (by rw [hs]; omega), hs, show (j + 1) * 12 - 12 = j * 12 by omega]
    have e2 : ((vaC y).toList ++ flatV l).drop ((j + 1) * 12 + 12) = (flatV l).drop (j * 12 + 12) := by
      rw [List.drop_append, List.drop_eq_nil_of_le (by rw [hs]; omega), hs, List.nil_append, show (j + 1) * 12 + 12 - 12 = j * 12 + 12 by omega]
    show (vaC y).toList ++ flatV (l.set j v) = ((vaC y).toList ++ flatV l).take ((j + 1) * 12) ++ ((vaC v).toList ++ ((vaC y).toList ++ flatV l).drop ((j + 1) * 12 + 12))
    rw [ih, e1, e2, List.append_assoc]
/-- 'l[j]', l of the call's own: its address, what lies there. -/
theorem VMine.idx {B : Nat} {w : World} {ao : Option Addr} {n c : Nat} {l : List Va} (h : VMine B w ao n c l) {j : Nat} {p : Va} (hj : l[j]? = some p) (I : Int) (hI : I = j) :
    ∃ g, ao = some ⟨g, 0, none⟩ ∧ B ≤ g ∧ g < w.heap.size ∧ (∀ wx, (Instr.indexAt 25 (.slice ao n c) (.int .i64 I)).run Tryz.prog wx = .ok (.pointer (some ⟨g, j * 12, none⟩)) wx) ∧ AtV w g (j * 12) p := by
  subst hI
  have hln := h.len
  have hl : j < n := by rw [← hln]; exact (List.getElem?_eq_some_iff.1 hj).1
  rcases h.own.2 with ⟨hv, h0⟩ | ⟨g, cap, cur, hv, hg, hh, hle, hmax, hsz, htake⟩
  · omega
  · simp only [Value.slice.injEq] at hv
    obtain ⟨rfl, _, rfl⟩ := hv
    refine ⟨g, rfl, hg, (Array.getElem?_eq_some_iff.1 hh).1, fun wx => ?_, ?_⟩
    · have hs : ∀ w : World, (sizeOf (Tryz.prog.elem 25)).run Tryz.prog w = .ok 12 w := by intro w; kernel_rfl
      rw [run_indexAt_slice wx 25 _ n _ .i64 (j : Int) elemV]
      simp [hs, hl, Addr.add_lit, Result.andThen]
    · intro q hq
      have h1 := flatV_at l j q p hj hq
      rw [vac_at p hq] at h1 ⊢
      have := h.own.cells (g := g) rfl (j * 12 + q) _ h1
      rw [Addr.add_lit, Nat.zero_add] at this
      exact this
theorem VMine.put {B : Nat} {w : World} {g n c : Nat} {l : List Va} (h : VMine B w (some ⟨g, 0, none⟩) n c l) {j : Nat} (hj : j < n) (v : Va) :
    ∃ w', (storeVar 38 ⟨g, j * 12, none⟩ (.agg (vaC v))).run Tryz.prog w = .ok () w' ∧ VMine B w' (some ⟨g, 0, none⟩) n c (l.set j v) ∧ Gb g w w' := by
  have hln := h.len
  obtain ⟨w', e1, e2, e3⟩ := store_own (off := j * 12) (vaC v).toList 0 (flatV l) w h.own (by rw [flatV_len, show ((vaC v).toList).length = 12 from rfl]; omega) (fun u hu => (Array.all_eq_true_iff_forall_mem.1 (vac_one v)) u (by simpa using hu))
  refine ⟨w', ?_, ⟨by simp [hln], ?_⟩, e3⟩
  · have hq := vac_info v
    cases hp : Tryz.prog.info? 38 with
    | none => simp [hp] at hq
    | some i =>
      have hs : (vaC v).size = i.size := by simp [hp] at hq; omega
      simp [storeVar, sizeOf, typeInfo, hp, Value.cells, hs, e1]
  · rw [flatV_set l j v (by omega)]
    exact e2
/-- 'l[j] = v', l of the call's own. -/
theorem wpList_putV {ops : Array Oper} {rest : List Oper} {o : Oper} {a : Act} {w : World} {Q : Exit → Act → World → Prop} (hgd : o.guard = none) (x y : Operand) (ho : o.op = .store 38 x y)
    (B g n c : Nat) (l : List Va) (j : Nat) (v : Va) (CS : Array Value) (hCS : CS = vaC v) (hx : a.eval x = .pointer (some ⟨g, j * 12, none⟩)) (hy : a.eval y = .agg CS) (h : VMine B w (some ⟨g, 0, none⟩) n c l) (hj : j < n)
    (k : ∀ w1, VMine B w1 (some ⟨g, 0, none⟩) n c (l.set j v) → Gb g w w1 → wpList Tryz.prog ops Q rest (a.put o.dst undef) w1) : wpList Tryz.prog ops Q (o :: rest) a w := by
  subst hCS
  refine wpList_plain hgd fun _ hK => ?_
  obtain ⟨w', e1, e2, e3⟩ := h.put hj v
  unfold Oper.wp execOp
  simp only [ho, hx, hy, Instr.storeAt, Instr.sureAddr, Sem.run_bind, Sem.run_pure, Result.andThen_ok, e1]
  exact hK _ _ (k w' e2 e3)

end Go.Proofs.YtkcblnojgonblaaGreatDoor
