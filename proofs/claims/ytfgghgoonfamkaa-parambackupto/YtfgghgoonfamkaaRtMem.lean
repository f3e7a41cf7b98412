/-
  Types in memory: where one lies, a slice of them, a row of the call's own, append. Conditions: at most 10 to the 8 of them.
-/
import Derived.Test.YtfgghgoonfamkaaMPl
import Derived.Test.YtfgghgoonfamkaaMA
import Derived.Deep.WholeRow
import Derived.Laws.Rows
namespace Go.Proofs.Ytfgghgoonfamkaa
open Go.RowKit
set_option linter.unusedVariables false
set_option linter.unusedSimpArgs false

/-- A type, with a sign or without. -/
structure Ty where
  t : Int
  un : Bool
def tyC (p : Ty) : Array Value := #[.int .u8 p.t, .bool p.un]
def ty0 : Ty := ⟨0, false⟩

theorem tyc_one (p : Ty) : (tyC p).all (·.oneCell') = true := by simp [tyC, Value.oneCell']
theorem tyc_sz (p : Ty) : (tyC p).size = 2 := rfl
theorem tyc_info (p : Ty) : (Try.prog.info? 27).map (·.size) = some (tyC p).size := by
  rw [show (tyC p).size = 2 from rfl]
  kernel_rfl
theorem tyc_at (p : Ty) {j : Nat} (hj : j < 2) : (tyC p)[j]? = some ((tyC p)[j]'(by rw [tyc_sz]; exact hj)) := Array.getElem?_eq_getElem _
/-- A row of them. -/
def flatT (l : List Ty) : List Value := l.flatMap fun x => (tyC x).toList
theorem flatT_len : ∀ l : List Ty, (flatT l).length = l.length * 2
  | [] => rfl
  | x :: l => by
    have h := flatT_len l
    have e : flatT (x :: l) = (tyC x).toList ++ flatT l := rfl
    rw [e, List.length_append, h, show ((tyC x).toList).length = 2 from rfl, List.length_cons]
    omega
theorem flatT_app (l : List Ty) (x : Ty) : flatT (l ++ [x]) = flatT l ++ (tyC x).toList := by simp [flatT]
theorem flatT_at : ∀ (l : List Ty) (i j : Nat) (x : Ty), l[i]? = some x → j < 2 → (flatT l)[i * 2 + j]? = (tyC x)[j]?
  | [], i, j, x, h, hj => by simp at h
  | y :: l, 0, j, x, h, hj => by
    simp at h
    subst h
    simp only [flatT, List.flatMap_cons, Nat.zero_mul, Nat.zero_add]
    rw [List.getElem?_append_left (by rw [show ((tyC y).toList).length = 2 from rfl]; exact hj)]
    simp
  | y :: l, i + 1, j, x, h, hj => by
    simp at h
    have ih := flatT_at l i j x h hj
    simp only [flatT, List.flatMap_cons] at ih ⊢
    have hs : ((tyC y).toList).length = 2 := rfl
    rw [List.getElem?_append_right (by rw [hs]; omega), hs, show (i + 1) * 2 + j - 2 = i * 2 + j by omega]
    exact ih
/-- At an address lie the cells of one. -/
def AtT (w : World) (b o : Nat) (p : Ty) : Prop := ∀ j, j < 2 → w.cell? ⟨b, o + j, none⟩ = (tyC p)[j]?
theorem AtT.lt {w : World} {b o : Nat} {p : Ty} (h : AtT w b o p) : b < w.heap.size := by
  have h0 := h 0 (by decide)
  rw [tyc_at p (by decide)] at h0
  exact World.block_lt_of_cell? w _ h0
theorem AtT.keep {w w' : World} {b o : Nat} {p : Ty} (h : AtT w b o p) (hb : w'.heap[b]? = w.heap[b]?) : AtT w' b o p := by
  intro j hj
  rw [World.cell?_of_block (w := w) (a := ⟨b, o + j, none⟩) hb]
  exact h j hj
theorem AtT.later {w w' : World} {b o : Nat} {p : Ty} (h : AtT w b o p) (hb : Below w.heap.size w w') : AtT w' b o p := h.keep (hb.block b h.lt)
theorem AtT.of_row {w : World} {q : Nat} {p : Ty} (h : w.heap[q]? = some (.cells (tyC p) 27 (0, 0))) : AtT w q 0 p := by
  intro j hj
  rw [Nat.zero_add, cell_of_row w q j _ _ _ h]
theorem infoT : (Try.prog.info? 27).map (fun i => (i.zero, i.size, i.bytes)) = some (some (.agg (tyC ty0)), 2, 2) := by kernel_rfl
theorem AtT.run {w : World} {b o : Nat} {p : Ty} (h : AtT w b o p) : (loadVar 27 ⟨b, o, none⟩).run Try.prog w = .ok (.agg (tyC p)) w := by
  have hl : (loadCells ⟨b, o, none⟩ (tyC p).toList.length).run Try.prog w = .ok (tyC p).toList.toArray w :=
    run_loadCells_list (P := Try.prog) w ⟨b, o, none⟩ (tyC p).toList (fun j v hv => by
      have hj : j < 2 := (List.getElem?_eq_some_iff.1 hv).1
      rw [Addr.add_lit, h j hj]
      simpa using hv)
  obtain ⟨i0, hi, hz0, hz1, hz2⟩ := info_parts infoT
  have hagg : (isAgg 27).run Try.prog w = .ok true w := by
    unfold isAgg
    rw [Sem.run_bind, run_underlying Try.underlying27 w]
    rfl
  simp only [Array.length_toList, Array.toArray_toList, tyc_sz] at hl
  simp [loadVar, Sem.run_bind, hagg, sizeOf, typeInfo, hi, hz1, hl]
/-- 'l[i]', loaded whole. -/
theorem wpList_ldT {ops : Array Oper} {rest : List Oper} {o : Oper} {a : Act} {w : World} {Q : Exit → Act → World → Prop} (hgd : o.guard = none) (x : Operand) (ho : o.op = .load 27 x)
    (b f : Nat) (hx : a.eval x = .pointer (some ⟨b, f, none⟩)) (p : Ty) (hp : AtT w b f p) (h : wpList Try.prog ops Q rest (a.put o.dst (.agg (tyC p))) w) : wpList Try.prog ops Q (o :: rest) a w := by
  refine wpList_plain hgd fun _ hK => ?_
  unfold Oper.wp execOp
  simp only [ho, hx, Instr.loadAt, Instr.sureAddr, Sem.run_bind, Sem.run_pure, Result.andThen_ok, hp.run]
  exact hK _ _ h
/-- The slice 'ao, n, c' holds l. -/
structure Tys (w : World) (ao : Option Addr) (n c : Nat) (l : List Ty) : Prop where
  len : l.length = n
  le : n ≤ c
  max : c ≤ 9223372036854775807
  nil : ao = none → c = 0
  at' : n = 0 ∨ ∃ b off, ao = some ⟨b, off, none⟩ ∧ ∀ i p, l[i]? = some p → AtT w b (off + i * 2) p
theorem Tys.nought (w : World) : Tys w .none 0 0 [] := ⟨rfl, Nat.le_refl _, by omega, fun _ => rfl, .inl rfl⟩
theorem Tys.later {w w' : World} {ao : Option Addr} {n c : Nat} {l : List Ty} (h : Tys w ao n c l) (hb : Below w.heap.size w w') : Tys w' ao n c l := by
  refine ⟨h.len, h.le, h.max, h.nil, ?_⟩
  rcases h.at' with h0 | ⟨b, off, e, hc⟩
  · exact .inl h0
  · exact .inr ⟨b, off, e, fun i p hi => (hc i p hi).later hb⟩
theorem Tys.keepB {w w' : World} {ao : Option Addr} {n c : Nat} {l : List Ty} (h : Tys w ao n c l) (hk : ∀ k, ob ao k → k < w.heap.size → w'.heap[k]? = w.heap[k]?) : Tys w' ao n c l := by
  refine ⟨h.len, h.le, h.max, h.nil, ?_⟩
  rcases h.at' with h0 | ⟨b, off, e, hc⟩
  · exact .inl h0
  · exact .inr ⟨b, off, e, fun i p hi => (hc i p hi).keep (hk b ⟨_, e, rfl⟩ (hc i p hi).lt)⟩
theorem Tys.lit (w : World) (l : List Ty) (hl : l.length ≤ 100000) : Tys (w.alloc (.cells (flatT l).toArray 27)) (some ⟨w.heap.size, 0, none⟩) l.length l.length l := by
  refine ⟨rfl, Nat.le_refl _, by omega, (fun e => by cases e), .inr ⟨w.heap.size, 0, rfl, fun i p hi => ?_⟩⟩
  intro j hj
  rw [cell_of_row _ _ _ _ _ _ (heap_alloc_new w _), Nat.zero_add]
  simpa using flatT_at l i j p hi hj
theorem elemT : Try.prog.underlying 43 = some (.slice (Try.prog.elem 43)) := by kernel_rfl
/-- 'l[i]' for the walk: its address, and what lies there. -/
theorem Tys.idx {w : World} {ao : Option Addr} {n c : Nat} {l : List Ty} (h : Tys w ao n c l) {i : Nat} {p : Ty} (hi : l[i]? = some p) (I : Int) (hI : I = i) :
    ∃ b o, (∀ wx, (Instr.indexAt 43 (.slice ao n c) (.int .i64 I)).run Try.prog wx = .ok (.pointer (some ⟨b, o, none⟩)) wx) ∧ AtT w b o p := by
  subst hI
  have hl : i < n := by rw [← h.len]; exact (List.getElem?_eq_some_iff.1 hi).1
  rcases h.at' with h0 | ⟨b, off, rfl, hc⟩
  · omega
  · refine ⟨b, off + i * 2, fun wx => ?_, hc i p hi⟩
    have hs : ∀ w : World, (sizeOf (Try.prog.elem 43)).run Try.prog w = .ok 2 w := by intro w; kernel_rfl
    rw [run_indexAt_slice wx 43 _ n c .i64 (i : Int) elemT]
    simp [hs, hl, Addr.add_lit, Result.andThen]
/-- l in a row of the call's own, from block B on. -/
structure TyMine (B : Nat) (w : World) (ao : Option Addr) (n c : Nat) (l : List Ty) : Prop where
  len : l.length = n
  own : w.ownsRow B 27 2 (.slice ao n c) n (flatT l)
theorem TyMine.nought (B : Nat) (w : World) : TyMine B w .none 0 0 [] := ⟨rfl, World.ownsRow_nil _ _ _ _⟩
theorem TyMine.ob {B : Nat} {w : World} {ao : Option Addr} {n c : Nat} {l : List Ty} (h : TyMine B w ao n c l) {k : Nat} (hk : ob ao k) : B ≤ k ∧ k < w.heap.size := by
  obtain ⟨a, rfl, rfl⟩ := hk
  rcases h.own.2 with ⟨hv, _⟩ | ⟨g, cap, cur, hv, hg, hh, _⟩
  · simp at hv
  · simp only [Value.slice.injEq, Option.some.injEq] at hv
    obtain ⟨rfl, _⟩ := hv
    exact ⟨hg, (Array.getElem?_eq_some_iff.1 hh).1⟩
theorem TyMine.keep {B : Nat} {w w' : World} {ao : Option Addr} {n c : Nat} {l : List Ty} (h : TyMine B w ao n c l) (hk : ∀ k, Proofs.Ytfgghgoonfamkaa.ob ao k → w'.heap[k]? = w.heap[k]?) : TyMine B w' ao n c l := by
  refine ⟨h.len, ⟨h.own.1, ?_⟩⟩
  rcases h.own.2 with hv | ⟨g, cap, cur, hv, hg, hh, r⟩
  · exact .inl hv
  · simp only [Value.slice.injEq] at hv
    obtain ⟨rfl, _, rfl⟩ := hv
    exact .inr ⟨g, _, cur, rfl, hg, by rw [hk g ⟨_, rfl, rfl⟩]; exact hh, r⟩
theorem TyMine.mono {B B' : Nat} {w : World} {ao : Option Addr} {n c : Nat} {l : List Ty} (h : TyMine B w ao n c l) (hB : B' ≤ B) : TyMine B' w ao n c l := by
  refine ⟨h.len, ⟨h.own.1, ?_⟩⟩
  rcases h.own.2 with hv | ⟨g, cap, cur, hv, hg, r⟩
  · exact .inl hv
  · exact .inr ⟨g, cap, cur, hv, by omega, r⟩
theorem TyMine.later {B : Nat} {w w' : World} {ao : Option Addr} {n c : Nat} {l : List Ty} (h : TyMine B w ao n c l) (hb : Below w.heap.size w w') : TyMine B w' ao n c l :=
  h.keep fun k hk => hb.block k (h.ob hk).2
theorem TyMine.gb {B g : Nat} {w w' : World} {ao : Option Addr} {n c : Nat} {l : List Ty} (h : TyMine B w ao n c l) (hg : g < B) (hb : Gb g w w') : TyMine B w' ao n c l :=
  h.keep fun k hk => hb.block k (h.ob hk).2 (by have := (h.ob hk).1; omega)
theorem TyMine.ss {B : Nat} {w : World} {ao : Option Addr} {n c : Nat} {l : List Ty} (h : TyMine B w ao n c l) : Tys w ao n c l := by
  have hl := h.len
  rcases h.own.2 with ⟨hv, h0⟩ | ⟨g, cap, cur, hv, hg, hh, hle, hmax, hsz, htake⟩
  · simp only [Value.slice.injEq] at hv
    obtain ⟨rfl, rfl, rfl⟩ := hv
    exact ⟨h.len, Nat.le_refl _, by omega, fun _ => rfl, .inl rfl⟩
  · simp only [Value.slice.injEq] at hv
    obtain ⟨rfl, _, rfl⟩ := hv
    refine ⟨h.len, hle, by unfold maxLen at hmax; omega, (fun hq => by cases hq), .inr ⟨g, 0, rfl, fun i p hi => ?_⟩⟩
    intro j hj
    have h1 := flatT_at l i j p hi hj
    rw [tyc_at p hj] at h1 ⊢
    have := h.own.cells (g := g) rfl (i * 2 + j) _ h1
    rw [Addr.add_lit] at this
    rw [← this, Nat.zero_add, Nat.zero_add]
/-- 'append(l, p)', l of the call's own. -/
theorem wpList_appT {ops : Array Oper} {rest : List Oper} {o : Oper} {a : Act} {w : World} {Q : Exit → Act → World → Prop} (hgd : o.guard = none) (s x : Operand)
    (ho : o.op = .call { callee := .builtin .append, args := #[s, x], argTypes := #[43, 43] })
    (B : Nat) (ao : Option Addr) (n c : Nat) (l : List Ty) (hs : a.eval s = .slice ao n c) (hm : TyMine B w ao n c l)
    (q : Nat) (y : Ty) (hx : a.eval x = .slice (some ⟨q, 0, none⟩) 1 1) (hb : AtT w q 0 y) (hbound : n ≤ 100000000) (hB : B ≤ w.heap.size)
    (h : ∀ ao1 c1 w1, TyMine B w1 ao1 (n + 1) c1 (l ++ [y]) → Below B w w1 → wpList Try.prog ops Q rest (a.put o.dst (.slice ao1 (n + 1) c1)) w1) :
    wpList Try.prog ops Q (o :: rest) a w := by
  obtain ⟨i0, hi, hz0, hz1, hz2⟩ := info_parts infoT
  have hlen := hm.len
  have hnews : ∀ j u, (tyC y).toList[j]? = some u → w.cell? ((⟨q, 0, none⟩ : Addr).add j) = some u := by
    intro j u hu
    have hj : j < 2 := (List.getElem?_eq_some_iff.1 hu).1
    have := hb j hj
    rw [Addr.add_lit, this]
    simpa using hu
  have hone : ∀ u ∈ (tyC y).toList, u.oneCell' = true := fun u hu => (Array.all_eq_true_iff_forall_mem.1 (tyc_one y)) u (by simpa using hu)
  refine wpList_append_own_at w hgd s x 43 ho B 27 i0 (.agg (tyC ty0)) 2 2 Try.underlying43 hi hz0 hz1 hz2 rfl (by decide) _ _ _ hs hm.own ⟨q, 0, none⟩ 1 1 (tyC y).toList hx rfl hnews hone (by unfold maxLen; omega) (by omega) hB ?_
  intro v' w' hown hgrow _ hsrc
  rw [← flatT_app] at hown
  have hex : ∃ ao1 c1, v' = .slice ao1 (n + 1) c1 := by
    rcases hown.2 with ⟨hv, h0⟩ | ⟨g, cap, cur, hv, _⟩
    · omega
    · exact ⟨_, _, hv⟩
  obtain ⟨ao1, c1, hv⟩ := hex
  subst hv
  exact h ao1 c1 w' ⟨by simp [hlen], hown⟩ ((Below.refl B w).grown hgrow hB (fun k hk => (hm.own.lt k hk).1))

end Go.Proofs.Ytfgghgoonfamkaa
