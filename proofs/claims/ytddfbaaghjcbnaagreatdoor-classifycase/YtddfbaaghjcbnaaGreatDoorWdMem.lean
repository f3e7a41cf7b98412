/-
  Words in memory: where one lies, a slice of them, a row of the call's own, append. Conditions: at most 10 to the 8 of them.
-/
import Derived.Test.YtddfbaaghjcbnaaGreatDoorScPlain
import Derived.Test.YtddfbaaghjcbnaaGreatDoorGpFs
import Derived.Deep.WholeRow
import Derived.Laws.Rows
namespace Go.Proofs.YtddfbaaghjcbnaaGreatDoor
open Go.RowKit
set_option linter.unusedVariables false
set_option linter.unusedSimpArgs false

def wdC (p : Wd) : Array Value := #[.int .i64 p.k, .string p.tx, .int .i64 p.at']

theorem wdc_one (p : Wd) : (wdC p).all (·.oneCell') = true := by simp [wdC, Value.oneCell']
theorem wdc_sz (p : Wd) : (wdC p).size = 3 := rfl
theorem wdc_info (p : Wd) : (Tryz.prog.info? 35).map (·.size) = some (wdC p).size := by
  rw [show (wdC p).size = 3 from rfl]
  kernel_rfl
theorem wdc_at (p : Wd) {j : Nat} (hj : j < 3) : (wdC p)[j]? = some ((wdC p)[j]'(by rw [wdc_sz]; exact hj)) := Array.getElem?_eq_getElem _
/-- A row of them. -/
def flatW (l : List Wd) : List Value := l.flatMap fun x => (wdC x).toList
theorem flatW_len : ∀ l : List Wd, (flatW l).length = l.length * 3
  | [] => rfl
  | x :: l => by
    have h := flatW_len l
    have e : flatW (x :: l) = (wdC x).toList ++ flatW l := rfl
    rw [e, List.length_append, h, show ((wdC x).toList).length = 3 from rfl, List.length_cons]
    omega
theorem flatW_app (l : List Wd) (x : Wd) : flatW (l ++ [x]) = flatW l ++ (wdC x).toList := by simp [flatW]
theorem flatW_at : ∀ (l : List Wd) (i j : Nat) (x : Wd), l[i]? = some x → j < 3 → (flatW l)[i * 3 + j]? = (wdC x)[j]?
  | [], i, j, x, h, hj => by simp at h
  | y :: l, 0, j, x, h, hj => by
    simp at h
    subst h
    simp only [flatW, List.flatMap_cons, Nat.zero_mul, Nat.zero_add]
    rw [List.getElem?_append_left (by rw [show ((wdC y).toList).length = 3 from rfl]; exact hj)]
    simp
  | y :: l, i + 1, j, x, h, hj => by
    simp at h
    have ih := flatW_at l i j x h hj
    simp only [flatW, List.flatMap_cons] at ih ⊢
    have hs : ((wdC y).toList).length = 3 := rfl
    rw [List.getElem?_append_right (by rw [hs]; omega), hs, show (i + 1) * 3 + j - 3 = i * 3 + j by omega]
    exact ih
/-- At an address lie the cells of one. -/
def AtW (w : World) (b o : Nat) (p : Wd) : Prop := ∀ j, j < 3 → w.cell? ⟨b, o + j, none⟩ = (wdC p)[j]?
theorem AtW.lt {w : World} {b o : Nat} {p : Wd} (h : AtW w b o p) : b < w.heap.size := by
  have h0 := h 0 (by decide)
  rw [wdc_at p (by decide)] at h0
  exact World.block_lt_of_cell? w _ h0
theorem AtW.keep {w w' : World} {b o : Nat} {p : Wd} (h : AtW w b o p) (hb : w'.heap[b]? = w.heap[b]?) : AtW w' b o p := by
  intro j hj
  rw [World.cell?_of_block (w := w) (a := ⟨b, o + j, none⟩) hb]
  exact h j hj
theorem AtW.later {w w' : World} {b o : Nat} {p : Wd} (h : AtW w b o p) (hb : Below w.heap.size w w') : AtW w' b o p := h.keep (hb.block b h.lt)
theorem AtW.of_row {w : World} {q : Nat} {p : Wd} (h : w.heap[q]? = some (.cells (wdC p) 35 (0, 0))) : AtW w q 0 p := by
  intro j hj
  rw [Nat.zero_add, cell_of_row w q j _ _ _ h]
theorem infoW : (Tryz.prog.info? 35).map (fun i => (i.zero, i.size, i.bytes)) = some (some (.agg (wdC wd0)), 3, 32) := by kernel_rfl
theorem AtW.run {w : World} {b o : Nat} {p : Wd} (h : AtW w b o p) : (loadVar 35 ⟨b, o, none⟩).run Tryz.prog w = .ok (.agg (wdC p)) w := by
  have hl : (loadCells ⟨b, o, none⟩ (wdC p).toList.length).run Tryz.prog w = .ok (wdC p).toList.toArray w :=
    run_loadCells_list (P := Tryz.prog) w ⟨b, o, none⟩ (wdC p).toList (fun j v hv => by
      have hj : j < 3 := (List.getElem?_eq_some_iff.1 hv).1
      rw [Addr.add_lit, h j hj]
      simpa using hv)
  obtain ⟨i0, hi, hz0, hz1, hz2⟩ := info_parts infoW
  have hagg : (isAgg 35).run Tryz.prog w = .ok true w := by
    unfold isAgg
    rw [Sem.run_bind, run_underlying Tryz.underlying35 w]
    rfl
  simp only [Array.length_toList, Array.toArray_toList, wdc_sz] at hl
  simp [loadVar, Sem.run_bind, hagg, sizeOf, typeInfo, hi, hz1, hl]
/-- 'l[i]', loaded whole. -/
theorem wpList_ldW {ops : Array Oper} {rest : List Oper} {o : Oper} {a : Act} {w : World} {Q : Exit → Act → World → Prop} (hgd : o.guard = none) (x : Operand) (ho : o.op = .load 35 x)
    (b f : Nat) (hx : a.eval x = .pointer (some ⟨b, f, none⟩)) (p : Wd) (hp : AtW w b f p) (h : wpList Tryz.prog ops Q rest (a.put o.dst (.agg (wdC p))) w) : wpList Tryz.prog ops Q (o :: rest) a w := by
  refine wpList_plain hgd fun _ hK => ?_
  unfold Oper.wp execOp
  simp only [ho, hx, Instr.loadAt, Instr.sureAddr, Sem.run_bind, Sem.run_pure, Result.andThen_ok, hp.run]
  exact hK _ _ h
/-- The slice 'ao, n, c' holds l. -/
structure Wds (w : World) (ao : Option Addr) (n c : Nat) (l : List Wd) : Prop where
  len : l.length = n
  le : n ≤ c
  max : c ≤ 9223372036854775807
  nil : ao = none → c = 0
  at' : n = 0 ∨ ∃ b off, ao = some ⟨b, off, none⟩ ∧ ∀ i p, l[i]? = some p → AtW w b (off + i * 3) p
theorem Wds.nought (w : World) : Wds w .none 0 0 [] := ⟨rfl, Nat.le_refl _, by omega, fun _ => rfl, .inl rfl⟩
theorem Wds.later {w w' : World} {ao : Option Addr} {n c : Nat} {l : List Wd} (h : Wds w ao n c l) (hb : Below w.heap.size w w') : Wds w' ao n c l := by
  refine ⟨h.len, h.le, h.max, h.nil, ?_⟩
  rcases h.at' with h0 | ⟨b, off, e, hc⟩
  · exact .inl h0
  · exact .inr ⟨b, off, e, fun i p hi => (hc i p hi).later hb⟩
theorem Wds.keepB {w w' : World} {ao : Option Addr} {n c : Nat} {l : List Wd} (h : Wds w ao n c l) (hk : ∀ k, ob ao k → k < w.heap.size → w'.heap[k]? = w.heap[k]?) : Wds w' ao n c l := by
  refine ⟨h.len, h.le, h.max, h.nil, ?_⟩
  rcases h.at' with h0 | ⟨b, off, e, hc⟩
  · exact .inl h0
  · exact .inr ⟨b, off, e, fun i p hi => (hc i p hi).keep (hk b ⟨_, e, rfl⟩ (hc i p hi).lt)⟩
theorem Wds.lit (w : World) (l : List Wd) (hl : l.length ≤ 100000) : Wds (w.alloc (.cells (flatW l).toArray 35)) (some ⟨w.heap.size, 0, none⟩) l.length l.length l := by
  refine ⟨rfl, Nat.le_refl _, by omega, (fun e => by cases e), .inr ⟨w.heap.size, 0, rfl, fun i p hi => ?_⟩⟩
  intro j hj
  rw [cell_of_row _ _ _ _ _ _ (heap_alloc_new w _), Nat.zero_add]
  simpa using flatW_at l i j p hi hj
theorem elemW : Tryz.prog.underlying 23 = some (.slice (Tryz.prog.elem 23)) := by kernel_rfl
/-- 'l[i]' for the walk: its address, and what lies there. -/
theorem Wds.idx {w : World} {ao : Option Addr} {n c : Nat} {l : List Wd} (h : Wds w ao n c l) {i : Nat} {p : Wd} (hi : l[i]? = some p) (I : Int) (hI : I = i) :
    ∃ b o, (∀ wx, (Instr.indexAt 23 (.slice ao n c) (.int .i64 I)).run Tryz.prog wx = .ok (.pointer (some ⟨b, o, none⟩)) wx) ∧ AtW w b o p := by
  subst hI
  have hl : i < n := by rw [← h.len]; exact (List.getElem?_eq_some_iff.1 hi).1
  rcases h.at' with h0 | ⟨b, off, rfl, hc⟩
  · omega
  · refine ⟨b, off + i * 3, fun wx => ?_, hc i p hi⟩
    have hs : ∀ w : World, (sizeOf (Tryz.prog.elem 23)).run Tryz.prog w = .ok 3 w := by intro w; kernel_rfl
    rw [run_indexAt_slice wx 23 _ n c .i64 (i : Int) elemW]
    simp [hs, hl, Addr.add_lit, Result.andThen]
/-- l in a row of the call's own, from block B on. -/
structure WdMine (B : Nat) (w : World) (ao : Option Addr) (n c : Nat) (l : List Wd) : Prop where
  len : l.length = n
  own : w.ownsRow B 35 3 (.slice ao n c) n (flatW l)
theorem WdMine.nought (B : Nat) (w : World) : WdMine B w .none 0 0 [] := ⟨rfl, World.ownsRow_nil _ _ _ _⟩
theorem WdMine.ob {B : Nat} {w : World} {ao : Option Addr} {n c : Nat} {l : List Wd} (h : WdMine B w ao n c l) {k : Nat} (hk : ob ao k) : B ≤ k ∧ k < w.heap.size := by
  obtain ⟨a, rfl, rfl⟩ := hk
  rcases h.own.2 with ⟨hv, _⟩ | ⟨g, cap, cur, hv, hg, hh, _⟩
  · simp at hv
  · simp only [Value.slice.injEq, Option.some.injEq] at hv
    obtain ⟨rfl, _⟩ := hv
    exact ⟨hg, (Array.getElem?_eq_some_iff.1 hh).1⟩
theorem WdMine.keep {B : Nat} {w w' : World} {ao : Option Addr} {n c : Nat} {l : List Wd} (h : WdMine B w ao n c l) (hk : ∀ k, Proofs.YtddfbaaghjcbnaaGreatDoor.ob ao k → w'.heap[k]? = w.heap[k]?) : WdMine B w' ao n c l := by
  refine ⟨h.len, ⟨h.own.1, ?_⟩⟩
  rcases h.own.2 with hv | ⟨g, cap, cur, hv, hg, hh, r⟩
  · exact .inl hv
  · simp only [Value.slice.injEq] at hv
    obtain ⟨rfl, _, rfl⟩ := hv
    exact .inr ⟨g, _, cur, rfl, hg, by rw [hk g ⟨_, rfl, rfl⟩]; exact hh, r⟩
theorem WdMine.mono {B B' : Nat} {w : World} {ao : Option Addr} {n c : Nat} {l : List Wd} (h : WdMine B w ao n c l) (hB : B' ≤ B) : WdMine B' w ao n c l := by
  refine ⟨h.len, ⟨h.own.1, ?_⟩⟩
  rcases h.own.2 with hv | ⟨g, cap, cur, hv, hg, r⟩
  · exact .inl hv
  · exact .inr ⟨g, cap, cur, hv, by omega, r⟩
theorem WdMine.later {B : Nat} {w w' : World} {ao : Option Addr} {n c : Nat} {l : List Wd} (h : WdMine B w ao n c l) (hb : Below w.heap.size w w') : WdMine B w' ao n c l :=
  h.keep fun k hk => hb.block k (h.ob hk).2
theorem WdMine.gb {B g : Nat} {w w' : World} {ao : Option Addr} {n c : Nat} {l : List Wd} (h : WdMine B w ao n c l) (hg : g < B) (hb : Gb g w w') : WdMine B w' ao n c l :=
  h.keep fun k hk => hb.block k (h.ob hk).2 (by have := (h.ob hk).1; omega)
theorem WdMine.ss {B : Nat} {w : World} {ao : Option Addr} {n c : Nat} {l : List Wd} (h : WdMine B w ao n c l) : Wds w ao n c l := by
  have hl := h.len
  rcases h.own.2 with ⟨hv, h0⟩ | ⟨g, cap, cur, hv, hg, hh, hle, hmax, hsz, htake⟩
  · simp only [Value.slice.injEq] at hv
    obtain ⟨rfl, rfl, rfl⟩ := hv
    exact ⟨h.len, Nat.le_refl _, by omega, fun _ => rfl, .inl rfl⟩
  · simp only [Value.slice.injEq] at hv
    obtain ⟨rfl, _, rfl⟩ := hv
    refine ⟨h.len, hle, by unfold maxLen at hmax; omega, (fun hq => by cases hq), .inr ⟨g, 0, rfl, fun i p hi => ?_⟩⟩
    intro j hj
    have h1 := flatW_at l i j p hi hj
    rw [wdc_at p hj] at h1 ⊢
    have := h.own.cells (g := g) rfl (i * 3 + j) _ h1
    rw [Addr.add_lit] at this
    rw [← this, Nat.zero_add, Nat.zero_add]
/-- 'append(l, p)', l of the call's own. -/
theorem wpList_appW {ops : Array Oper} {rest : List Oper} {o : Oper} {a : Act} {w : World} {Q : Exit → Act → World → Prop} (hgd : o.guard = none) (s x : Operand)
    (ho : o.op = .call { callee := .builtin .append, args := #[s, x], argTypes := #[23, 23] })
    (B : Nat) (ao : Option Addr) (n c : Nat) (l : List Wd) (hs : a.eval s = .slice ao n c) (hm : WdMine B w ao n c l)
    (q : Nat) (y : Wd) (hx : a.eval x = .slice (some ⟨q, 0, none⟩) 1 1) (hb : AtW w q 0 y) (hbound : n ≤ 100000000) (hB : B ≤ w.heap.size)
    (h : ∀ ao1 c1 w1, WdMine B w1 ao1 (n + 1) c1 (l ++ [y]) → Below B w w1 → wpList Tryz.prog ops Q rest (a.put o.dst (.slice ao1 (n + 1) c1)) w1) :
    wpList Tryz.prog ops Q (o :: rest) a w := by
  obtain ⟨i0, hi, hz0, hz1, hz2⟩ := info_parts infoW
  have hlen := hm.len
  have hnews : ∀ j u, (wdC y).toList[j]? = some u → w.cell? ((⟨q, 0, none⟩ : Addr).add j) = some u := by
    intro j u hu
    have hj : j < 3 := (List.getElem?_eq_some_iff.1 hu).1
    have := hb j hj
    rw [Addr.add_lit, this]
    simpa using hu
  have hone : ∀ u ∈ (wdC y).toList, u.oneCell' = true := fun u hu => (Array.all_eq_true_iff_forall_mem.1 (wdc_one y)) u (by simpa using hu)
  refine wpList_append_own_at w hgd s x 23 ho B 35 i0 (.agg (wdC wd0)) 3 32 Tryz.underlying23 hi hz0 hz1 hz2 rfl (by decide) _ _ _ hs hm.own ⟨q, 0, none⟩ 1 1 (wdC y).toList hx rfl hnews hone (by unfold maxLen; omega) (by omega) hB ?_
  intro v' w' hown hgrow _ hsrc
  rw [← flatW_app] at hown
  have hex : ∃ ao1 c1, v' = .slice ao1 (n + 1) c1 := by
    rcases hown.2 with ⟨hv, h0⟩ | ⟨g, cap, cur, hv, _⟩
    · omega
    · exact ⟨_, _, hv⟩
  obtain ⟨ao1, c1, hv⟩ := hex
  subst hv
  exact h ao1 c1 w' ⟨by simp [hlen], hown⟩ ((Below.refl B w).grown hgrow hB (fun k hk => (hm.own.lt k hk).1))

end Go.Proofs.YtddfbaaghjcbnaaGreatDoor
