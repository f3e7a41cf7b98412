/-
  Parameters in memory: where one lies, a slice of them, a row of the call's own, append. Conditions: at most 10 to the 8 of them.
  Truth values in memory: where one lies, a slice of them, a row of the call's own, append. Conditions: at most 10 to the 8 of them.
-/
import Derived.Test.YtfgghgoonfamkaaRtMem
import Derived.Test.YtfgghgoonfamkaaMPl
import Derived.Test.YtfgghgoonfamkaaMA
import Derived.Deep.WholeRow
import Derived.Laws.Rows
namespace Go.Proofs.Ytfgghgoonfamkaa
open Go.RowKit
set_option linter.unusedVariables false
set_option linter.unusedSimpArgs false

/-- A parameter: its type, long or not, its value. -/
structure Pa where
  t : Ty
  lo : Bool
  v : Va
def paC (p : Pa) : Array Value := #[.int .u8 p.t.t, .bool p.t.un, .bool p.lo, .int .i64 p.v.k, .int .i64 p.v.i, .int .u64 p.v.b, .string p.v.t, .bool p.v.w.ng, .int .i64 p.v.w.y, .int .i64 p.v.w.mo, .int .i64 p.v.w.d, .int .i64 p.v.w.h, .int .i64 p.v.w.mi, .int .i64 p.v.w.s, .int .i64 p.v.w.mc]
def pa0 : Pa := ⟨ty0, false, va0⟩

theorem pac_one (p : Pa) : (paC p).all (·.oneCell') = true := by simp [paC, Value.oneCell']
theorem pac_sz (p : Pa) : (paC p).size = 15 := rfl
theorem pac_info (p : Pa) : (Try.prog.info? 34).map (·.size) = some (paC p).size := by
  rw [show (paC p).size = 15 from rfl]
  kernel_rfl
theorem pac_at (p : Pa) {j : Nat} (hj : j < 15) : (paC p)[j]? = some ((paC p)[j]'(by rw [pac_sz]; exact hj)) := Array.getElem?_eq_getElem _
/-- A row of them. -/
def flatP (l : List Pa) : List Value := l.flatMap fun x => (paC x).toList
theorem flatP_len : ∀ l : List Pa, (flatP l).length = l.length * 15
  | [] => rfl
  | x :: l => by
    have h := flatP_len l
    have e : flatP (x :: l) = (paC x).toList ++ flatP l := rfl
    rw [e, List.length_append, h, show ((paC x).toList).length = 15 from rfl, List.length_cons]
    omega
theorem flatP_app (l : List Pa) (x : Pa) : flatP (l ++ [x]) = flatP l ++ (paC x).toList := by simp [flatP]
theorem flatP_at : ∀ (l : List Pa) (i j : Nat) (x : Pa), l[i]? = some x → j < 15 → (flatP l)[i * 15 + j]? = (paC x)[j]?
  | [], i, j, x, h, hj => by simp at h
  | y :: l, 0, j, x, h, hj => by
    simp at h
    subst h
    simp only [flatP, List.flatMap_cons, Nat.zero_mul, Nat.zero_add]
    rw [List.getElem?_append_left (by rw [show ((paC y).toList).length = 15 from rfl]; exact hj)]
    simp
  | y :: l, i + 1, j, x, h, hj => by
    simp at h
    have ih := flatP_at l i j x h hj
    simp only [flatP, List.flatMap_cons] at ih ⊢
    have hs : ((paC y).toList).length = 15 := rfl
    rw [List.getElem?_append_right (by rw [hs]; omega), hs, show (i + 1) * 15 + j - 15 = i * 15 + j by omega]
    exact ih
/-- At an address lie the cells of one. -/
def AtP (w : World) (b o : Nat) (p : Pa) : Prop := ∀ j, j < 15 → w.cell? ⟨b, o + j, none⟩ = (paC p)[j]?
theorem AtP.lt {w : World} {b o : Nat} {p : Pa} (h : AtP w b o p) : b < w.heap.size := by
  have h0 := h 0 (by decide)
  rw [pac_at p (by decide)] at h0
  exact World.block_lt_of_cell? w _ h0
theorem AtP.keep {w w' : World} {b o : Nat} {p : Pa} (h : AtP w b o p) (hb : w'.heap[b]? = w.heap[b]?) : AtP w' b o p := by
  intro j hj
  rw [World.cell?_of_block (w := w) (a := ⟨b, o + j, none⟩) hb]
  exact h j hj
theorem AtP.later {w w' : World} {b o : Nat} {p : Pa} (h : AtP w b o p) (hb : Below w.heap.size w w') : AtP w' b o p := h.keep (hb.block b h.lt)
theorem AtP.of_row {w : World} {q : Nat} {p : Pa} (h : w.heap[q]? = some (.cells (paC p) 34 (0, 0))) : AtP w q 0 p := by
  intro j hj
  rw [Nat.zero_add, cell_of_row w q j _ _ _ h]
theorem infoP : (Try.prog.info? 34).map (fun i => (i.zero, i.size, i.bytes)) = some (some (.agg (paC pa0)), 15, 112) := by kernel_rfl
theorem AtP.run {w : World} {b o : Nat} {p : Pa} (h : AtP w b o p) : (loadVar 34 ⟨b, o, none⟩).run Try.prog w = .ok (.agg (paC p)) w := by
  have hl : (loadCells ⟨b, o, none⟩ (paC p).toList.length).run Try.prog w = .ok (paC p).toList.toArray w :=
    run_loadCells_list (P := Try.prog) w ⟨b, o, none⟩ (paC p).toList (fun j v hv => by
      have hj : j < 15 := (List.getElem?_eq_some_iff.1 hv).1
      rw [Addr.add_lit, h j hj]
      simpa using hv)
  obtain ⟨i0, hi, hz0, hz1, hz2⟩ := info_parts infoP
  have hagg : (isAgg 34).run Try.prog w = .ok true w := by
    unfold isAgg
    rw [Sem.run_bind, run_underlying Try.underlying34 w]
    rfl
  simp only [Array.length_toList, Array.toArray_toList, pac_sz] at hl
  simp [loadVar, Sem.run_bind, hagg, sizeOf, typeInfo, hi, hz1, hl]
/-- 'l[i]', loaded whole. -/
theorem wpList_ldP {ops : Array Oper} {rest : List Oper} {o : Oper} {a : Act} {w : World} {Q : Exit → Act → World → Prop} (hgd : o.guard = none) (x : Operand) (ho : o.op = .load 34 x)
    (b f : Nat) (hx : a.eval x = .pointer (some ⟨b, f, none⟩)) (p : Pa) (hp : AtP w b f p) (h : wpList Try.prog ops Q rest (a.put o.dst (.agg (paC p))) w) : wpList Try.prog ops Q (o :: rest) a w := by
  refine wpList_plain hgd fun _ hK => ?_
  unfold Oper.wp execOp
  simp only [ho, hx, Instr.loadAt, Instr.sureAddr, Sem.run_bind, Sem.run_pure, Result.andThen_ok, hp.run]
  exact hK _ _ h
/-- The slice 'ao, n, c' holds l. -/
structure Pas (w : World) (ao : Option Addr) (n c : Nat) (l : List Pa) : Prop where
  len : l.length = n
  le : n ≤ c
  max : c ≤ 9223372036854775807
  nil : ao = none → c = 0
  at' : n = 0 ∨ ∃ b off, ao = some ⟨b, off, none⟩ ∧ ∀ i p, l[i]? = some p → AtP w b (off + i * 15) p
theorem Pas.nought (w : World) : Pas w .none 0 0 [] := ⟨rfl, Nat.le_refl _, by omega, fun _ => rfl, .inl rfl⟩
theorem Pas.later {w w' : World} {ao : Option Addr} {n c : Nat} {l : List Pa} (h : Pas w ao n c l) (hb : Below w.heap.size w w') : Pas w' ao n c l := by
  refine ⟨h.len, h.le, h.max, h.nil, ?_⟩
  rcases h.at' with h0 | ⟨b, off, e, hc⟩
  · exact .inl h0
  · exact .inr ⟨b, off, e, fun i p hi => (hc i p hi).later hb⟩
theorem Pas.keepB {w w' : World} {ao : Option Addr} {n c : Nat} {l : List Pa} (h : Pas w ao n c l) (hk : ∀ k, ob ao k → k < w.heap.size → w'.heap[k]? = w.heap[k]?) : Pas w' ao n c l := by
  refine ⟨h.len, h.le, h.max, h.nil, ?_⟩
  rcases h.at' with h0 | ⟨b, off, e, hc⟩
  · exact .inl h0
  · exact .inr ⟨b, off, e, fun i p hi => (hc i p hi).keep (hk b ⟨_, e, rfl⟩ (hc i p hi).lt)⟩
theorem Pas.lit (w : World) (l : List Pa) (hl : l.length ≤ 100000) : Pas (w.alloc (.cells (flatP l).toArray 34)) (some ⟨w.heap.size, 0, none⟩) l.length l.length l := by
  refine ⟨rfl, Nat.le_refl _, by omega, (fun e => by cases e), .inr ⟨w.heap.size, 0, rfl, fun i p hi => ?_⟩⟩
  intro j hj
  rw [cell_of_row _ _ _ _ _ _ (heap_alloc_new w _), Nat.zero_add]
  simpa using flatP_at l i j p hi hj
theorem elemP : Try.prog.underlying 35 = some (.slice (Try.prog.elem 35)) := by kernel_rfl
/-- 'l[i]' for the walk: its address, and what lies there. -/
theorem Pas.idx {w : World} {ao : Option Addr} {n c : Nat} {l : List Pa} (h : Pas w ao n c l) {i : Nat} {p : Pa} (hi : l[i]? = some p) (I : Int) (hI : I = i) :
    ∃ b o, (∀ wx, (Instr.indexAt 35 (.slice ao n c) (.int .i64 I)).run Try.prog wx = .ok (.pointer (some ⟨b, o, none⟩)) wx) ∧ AtP w b o p := by
  subst hI
  have hl : i < n := by rw [← h.len]; exact (List.getElem?_eq_some_iff.1 hi).1
  rcases h.at' with h0 | ⟨b, off, rfl, hc⟩
  · omega
  · refine ⟨b, off + i * 15, fun wx => ?_, hc i p hi⟩
    have hs : ∀ w : World, (sizeOf (Try.prog.elem 35)).run Try.prog w = .ok 15 w := by intro w; kernel_rfl
    rw [run_indexAt_slice wx 35 _ n c .i64 (i : Int) elemP]
    simp [hs, hl, Addr.add_lit, Result.andThen]
/-- l in a row of the call's own, from block B on. -/
structure PaMine (B : Nat) (w : World) (ao : Option Addr) (n c : Nat) (l : List Pa) : Prop where
  len : l.length = n
  own : w.ownsRow B 34 15 (.slice ao n c) n (flatP l)
theorem PaMine.nought (B : Nat) (w : World) : PaMine B w .none 0 0 [] := ⟨rfl, World.ownsRow_nil _ _ _ _⟩
theorem PaMine.ob {B : Nat} {w : World} {ao : Option Addr} {n c : Nat} {l : List Pa} (h : PaMine B w ao n c l) {k : Nat} (hk : ob ao k) : B ≤ k ∧ k < w.heap.size := by
  obtain ⟨a, rfl, rfl⟩ := hk
  rcases h.own.2 with ⟨hv, _⟩ | ⟨g, cap, cur, hv, hg, hh, _⟩
  · simp at hv
  · simp only [Value.slice.injEq, Option.some.injEq] at hv
    obtain ⟨rfl, _⟩ := hv
    exact ⟨hg, (Array.getElem?_eq_some_iff.1 hh).1⟩
theorem PaMine.keep {B : Nat} {w w' : World} {ao : Option Addr} {n c : Nat} {l : List Pa} (h : PaMine B w ao n c l) (hk : ∀ k, Proofs.Ytfgghgoonfamkaa.ob ao k → w'.heap[k]? = w.heap[k]?) : PaMine B w' ao n c l := by
  refine ⟨h.len, ⟨h.own.1, ?_⟩⟩
  rcases h.own.2 with hv | ⟨g, cap, cur, hv, hg, hh, r⟩
  · exact .inl hv
  · simp only [Value.slice.injEq] at hv
    obtain ⟨rfl, _, rfl⟩ := hv
    exact .inr ⟨g, _, cur, rfl, hg, by rw [hk g ⟨_, rfl, rfl⟩]; exact hh, r⟩
theorem PaMine.mono {B B' : Nat} {w : World} {ao : Option Addr} {n c : Nat} {l : List Pa} (h : PaMine B w ao n c l) (hB : B' ≤ B) : PaMine B' w ao n c l := by
  refine ⟨h.len, ⟨h.own.1, ?_⟩⟩
  rcases h.own.2 with hv | ⟨g, cap, cur, hv, hg, r⟩
  · exact .inl hv
  · exact .inr ⟨g, cap, cur, hv, by omega, r⟩
theorem PaMine.later {B : Nat} {w w' : World} {ao : Option Addr} {n c : Nat} {l : List Pa} (h : PaMine B w ao n c l) (hb : Below w.heap.size w w') : PaMine B w' ao n c l :=
  h.keep fun k hk => hb.block k (h.ob hk).2
theorem PaMine.gb {B g : Nat} {w w' : World} {ao : Option Addr} {n c : Nat} {l : List Pa} (h : PaMine B w ao n c l) (hg : g < B) (hb : Gb g w w') : PaMine B w' ao n c l :=
  h.keep fun k hk => hb.block k (h.ob hk).2 (by have := (h.ob hk).1; omega)
theorem PaMine.ss {B : Nat} {w : World} {ao : Option Addr} {n c : Nat} {l : List Pa} (h : PaMine B w ao n c l) : Pas w ao n c l := by
  have hl := h.len
  rcases h.own.2 with ⟨hv, h0⟩ | ⟨g, cap, cur, hv, hg, hh, hle, hmax, hsz, htake⟩
  · simp only [Value.slice.injEq] at hv
    obtain ⟨rfl, rfl, rfl⟩ := hv
    exact ⟨h.len, Nat.le_refl _, by omega, fun _ => rfl, .inl rfl⟩
  · simp only [Value.slice.injEq] at hv
    obtain ⟨rfl, _, rfl⟩ := hv
    refine ⟨h.len, hle, by unfold maxLen at hmax; omega, (fun hq => by cases hq), .inr ⟨g, 0, rfl, fun i p hi => ?_⟩⟩
    intro j hj
    have h1 := flatP_at l i j p hi hj
    rw [pac_at p hj] at h1 ⊢
    have := h.own.cells (g := g) rfl (i * 15 + j) _ h1
    rw [Addr.add_lit] at this
    rw [← this, Nat.zero_add, Nat.zero_add]
/-- 'append(l, p)', l of the call's own. -/
theorem wpList_appP {ops : Array Oper} {rest : List Oper} {o : Oper} {a : Act} {w : World} {Q : Exit → Act → World → Prop} (hgd : o.guard = none) (s x : Operand)
    (ho : o.op = .call { callee := .builtin .append, args := #[s, x], argTypes := #[35, 35] })
    (B : Nat) (ao : Option Addr) (n c : Nat) (l : List Pa) (hs : a.eval s = .slice ao n c) (hm : PaMine B w ao n c l)
    (q : Nat) (y : Pa) (hx : a.eval x = .slice (some ⟨q, 0, none⟩) 1 1) (hb : AtP w q 0 y) (hbound : n ≤ 100000000) (hB : B ≤ w.heap.size)
    (h : ∀ ao1 c1 w1, PaMine B w1 ao1 (n + 1) c1 (l ++ [y]) → Below B w w1 → wpList Try.prog ops Q rest (a.put o.dst (.slice ao1 (n + 1) c1)) w1) :
    wpList Try.prog ops Q (o :: rest) a w := by
  obtain ⟨i0, hi, hz0, hz1, hz2⟩ := info_parts infoP
  have hlen := hm.len
  have hnews : ∀ j u, (paC y).toList[j]? = some u → w.cell? ((⟨q, 0, none⟩ : Addr).add j) = some u := by
    intro j u hu
    have hj : j < 15 := (List.getElem?_eq_some_iff.1 hu).1
    have := hb j hj
    rw [Addr.add_lit, this]
    simpa using hu
  have hone : ∀ u ∈ (paC y).toList, u.oneCell' = true := fun u hu => (Array.all_eq_true_iff_forall_mem.1 (pac_one y)) u (by simpa using hu)
  refine wpList_append_own_at w hgd s x 35 ho B 34 i0 (.agg (paC pa0)) 15 112 Try.underlying35 hi hz0 hz1 hz2 rfl (by decide) _ _ _ hs hm.own ⟨q, 0, none⟩ 1 1 (paC y).toList hx rfl hnews hone (by unfold maxLen; omega) (by omega) hB ?_
  intro v' w' hown hgrow _ hsrc
  rw [← flatP_app] at hown
  have hex : ∃ ao1 c1, v' = .slice ao1 (n + 1) c1 := by
    rcases hown.2 with ⟨hv, h0⟩ | ⟨g, cap, cur, hv, _⟩
    · omega
    · exact ⟨_, _, hv⟩
  obtain ⟨ao1, c1, hv⟩ := hex
  subst hv
  exact h ao1 c1 w' ⟨by simp [hlen], hown⟩ ((Below.refl B w).grown hgrow hB (fun k hk => (hm.own.lt k hk).1))

end Go.Proofs.Ytfgghgoonfamkaa

namespace Go.Proofs.Ytfgghgoonfamkaa
open Go.RowKit
set_option linter.unusedVariables false
set_option linter.unusedSimpArgs false

def blC (p : Bool) : Array Value := #[.bool p]

theorem blc_one (p : Bool) : (blC p).all (·.oneCell') = true := by simp [blC, Value.oneCell']
theorem blc_sz (p : Bool) : (blC p).size = 1 := rfl
theorem blc_info (p : Bool) : (Try.prog.info? 4).map (·.size) = some (blC p).size := by
  rw [show (blC p).size = 1 from rfl]
  kernel_rfl
theorem blc_at (p : Bool) {j : Nat} (hj : j < 1) : (blC p)[j]? = some ((blC p)[j]'(by rw [blc_sz]; exact hj)) := Array.getElem?_eq_getElem _
/-- A row of them. -/
def flatB (l : List Bool) : List Value := l.flatMap fun x => (blC x).toList
theorem flatB_len : ∀ l : List Bool, (flatB l).length = l.length * 1
  | [] => rfl
  | x :: l => by
    have h := flatB_len l
    have e : flatB (x :: l) = (blC x).toList ++ flatB l := rfl
    rw [e, List.length_append, h, show ((blC x).toList).length = 1 from rfl, List.length_cons]
    omega
theorem flatB_app (l : List Bool) (x : Bool) : flatB (l ++ [x]) = flatB l ++ (blC x).toList := by simp [flatB]
theorem flatB_at : ∀ (l : List Bool) (i j : Nat) (x : Bool), l[i]? = some x → j < 1 → (flatB l)[i * 1 + j]? = (blC x)[j]?
  | [], i, j, x, h, hj => by simp at h
  | y :: l, 0, j, x, h, hj => by
    simp at h
    subst h
    simp only [flatB, List.flatMap_cons, Nat.zero_mul, Nat.zero_add]
    rw [List.getElem?_append_left (by rw [show ((blC y).toList).length = 1 from rfl]; exact hj)]
    simp
  | y :: l, i + 1, j, x, h, hj => by
    simp at h
    have ih := flatB_at l i j x h hj
    simp only [flatB, List.flatMap_cons] at ih ⊢
    have hs : ((blC y).toList).length = 1 := rfl
    rw [List.getElem?_append_right (by rw [hs]; omega), hs, show (i + 1) * 1 + j - 1 = i * 1 + j by omega]
    exact ih
/-- At an address lie the cells of one. -/
def AtB (w : World) (b o : Nat) (p : Bool) : Prop := ∀ j, j < 1 → w.cell? ⟨b, o + j, none⟩ = (blC p)[j]?
theorem AtB.lt {w : World} {b o : Nat} {p : Bool} (h : AtB w b o p) : b < w.heap.size := by
  have h0 := h 0 (by decide)
  rw [blc_at p (by decide)] at h0
  exact World.block_lt_of_cell? w _ h0
theorem AtB.keep {w w' : World} {b o : Nat} {p : Bool} (h : AtB w b o p) (hb : w'.heap[b]? = w.heap[b]?) : AtB w' b o p := by
  intro j hj
  rw [World.cell?_of_block (w := w) (a := ⟨b, o + j, none⟩) hb]
  exact h j hj
theorem AtB.later {w w' : World} {b o : Nat} {p : Bool} (h : AtB w b o p) (hb : Below w.heap.size w w') : AtB w' b o p := h.keep (hb.block b h.lt)
theorem AtB.of_row {w : World} {q : Nat} {p : Bool} (h : w.heap[q]? = some (.cells (blC p) 4 (0, 0))) : AtB w q 0 p := by
  intro j hj
  rw [Nat.zero_add, cell_of_row w q j _ _ _ h]
theorem infoB : (Try.prog.info? 4).map (fun i => (i.zero, i.size, i.bytes)) = some (some (.bool false), 1, 1) := by kernel_rfl
/-- The slice 'ao, n, c' holds l. -/
structure Bls (w : World) (ao : Option Addr) (n c : Nat) (l : List Bool) : Prop where
  len : l.length = n
  le : n ≤ c
  max : c ≤ 9223372036854775807
  nil : ao = none → c = 0
  at' : n = 0 ∨ ∃ b off, ao = some ⟨b, off, none⟩ ∧ ∀ i p, l[i]? = some p → AtB w b (off + i * 1) p
theorem Bls.nought (w : World) : Bls w .none 0 0 [] := ⟨rfl, Nat.le_refl _, by omega, fun _ => rfl, .inl rfl⟩
theorem Bls.later {w w' : World} {ao : Option Addr} {n c : Nat} {l : List Bool} (h : Bls w ao n c l) (hb : Below w.heap.size w w') : Bls w' ao n c l := by
  refine ⟨h.len, h.le, h.max, h.nil, ?_⟩
  rcases h.at' with h0 | ⟨b, off, e, hc⟩
  · exact .inl h0
  · exact .inr ⟨b, off, e, fun i p hi => (hc i p hi).later hb⟩
theorem Bls.keepB {w w' : World} {ao : Option Addr} {n c : Nat} {l : List Bool} (h : Bls w ao n c l) (hk : ∀ k, ob ao k → k < w.heap.size → w'.heap[k]? = w.heap[k]?) : Bls w' ao n c l := by
  refine ⟨h.len, h.le, h.max, h.nil, ?_⟩
  rcases h.at' with h0 | ⟨b, off, e, hc⟩
  · exact .inl h0
  · exact .inr ⟨b, off, e, fun i p hi => (hc i p hi).keep (hk b ⟨_, e, rfl⟩ (hc i p hi).lt)⟩
theorem Bls.lit (w : World) (l : List Bool) (hl : l.length ≤ 100000) : Bls (w.alloc (.cells (flatB l).toArray 4)) (some ⟨w.heap.size, 0, none⟩) l.length l.length l := by
  refine ⟨rfl, Nat.le_refl _, by omega, (fun e => by cases e), .inr ⟨w.heap.size, 0, rfl, fun i p hi => ?_⟩⟩
  intro j hj
  rw [cell_of_row _ _ _ _ _ _ (heap_alloc_new w _), Nat.zero_add]
  simpa using flatB_at l i j p hi hj
theorem elemB : Try.prog.underlying 44 = some (.slice (Try.prog.elem 44)) := by kernel_rfl
/-- 'l[i]' for the walk: its address, and what lies there. -/
theorem Bls.idx {w : World} {ao : Option Addr} {n c : Nat} {l : List Bool} (h : Bls w ao n c l) {i : Nat} {p : Bool} (hi : l[i]? = some p) (I : Int) (hI : I = i) :
    ∃ b o, (∀ wx, (Instr.indexAt 44 (.slice ao n c) (.int .i64 I)).run Try.prog wx = .ok (.pointer (some ⟨b, o, none⟩)) wx) ∧ AtB w b o p := by
  subst hI
  have hl : i < n := by rw [← h.len]; exact (List.getElem?_eq_some_iff.1 hi).1
  rcases h.at' with h0 | ⟨b, off, rfl, hc⟩
  · omega
  · refine ⟨b, off + i * 1, fun wx => ?_, hc i p hi⟩
    have hs : ∀ w : World, (sizeOf (Try.prog.elem 44)).run Try.prog w = .ok 1 w := by intro w; kernel_rfl
    rw [run_indexAt_slice wx 44 _ n c .i64 (i : Int) elemB]
    simp [hs, hl, Addr.add_lit, Result.andThen]
/-- l in a row of the call's own, from block B on. -/
structure BlMine (B : Nat) (w : World) (ao : Option Addr) (n c : Nat) (l : List Bool) : Prop where
  len : l.length = n
  own : w.ownsRow B 4 1 (.slice ao n c) n (flatB l)
theorem BlMine.nought (B : Nat) (w : World) : BlMine B w .none 0 0 [] := ⟨rfl, World.ownsRow_nil _ _ _ _⟩
theorem BlMine.ob {B : Nat} {w : World} {ao : Option Addr} {n c : Nat} {l : List Bool} (h : BlMine B w ao n c l) {k : Nat} (hk : ob ao k) : B ≤ k ∧ k < w.heap.size := by
  obtain ⟨a, rfl, rfl⟩ := hk
  rcases h.own.2 with ⟨hv, _⟩ | ⟨g, cap, cur, hv, hg, hh, _⟩
  · simp at hv
  · simp only [Value.slice.injEq, Option.some.injEq] at hv
    obtain ⟨rfl, _⟩ := hv
    exact ⟨hg, (Array.getElem?_eq_some_iff.1 hh).1⟩
theorem BlMine.keep {B : Nat} {w w' : World} {ao : Option Addr} {n c : Nat} {l : List Bool} (h : BlMine B w ao n c l) (hk : ∀ k, Proofs.Ytfgghgoonfamkaa.ob ao k → w'.heap[k]? = w.heap[k]?) : BlMine B w' ao n c l := by
  refine ⟨h.len, ⟨h.own.1, ?_⟩⟩
  rcases h.own.2 with hv | ⟨g, cap, cur, hv, hg, hh, r⟩
  · exact .inl hv
  · simp only [Value.slice.injEq] at hv
    obtain ⟨rfl, _, rfl⟩ := hv
    exact .inr ⟨g, _, cur, rfl, hg, by rw [hk g ⟨_, rfl, rfl⟩]; exact hh, r⟩
theorem BlMine.mono {B B' : Nat} {w : World} {ao : Option Addr} {n c : Nat} {l : List Bool} (h : BlMine B w ao n c l) (hB : B' ≤ B) : BlMine B' w ao n c l := by
  refine ⟨h.len, ⟨h.own.1, ?_⟩⟩
  rcases h.own.2 with hv | ⟨g, cap, cur, hv, hg, r⟩
  · exact .inl hv
  · exact .inr ⟨g, cap, cur, hv, by omega, r⟩
theorem BlMine.later {B : Nat} {w w' : World} {ao : Option Addr} {n c : Nat} {l : List Bool} (h : BlMine B w ao n c l) (hb : Below w.heap.size w w') : BlMine B w' ao n c l :=
  h.keep fun k hk => hb.block k (h.ob hk).2
theorem BlMine.gb {B g : Nat} {w w' : World} {ao : Option Addr} {n c : Nat} {l : List Bool} (h : BlMine B w ao n c l) (hg : g < B) (hb : Gb g w w') : BlMine B w' ao n c l :=
  h.keep fun k hk => hb.block k (h.ob hk).2 (by have := (h.ob hk).1; omega)
theorem BlMine.ss {B : Nat} {w : World} {ao : Option Addr} {n c : Nat} {l : List Bool} (h : BlMine B w ao n c l) : Bls w ao n c l := by
  have hl := h.len
  rcases h.own.2 with ⟨hv, h0⟩ | ⟨g, cap, cur, hv, hg, hh, hle, hmax, hsz, htake⟩
  · simp only [Value.slice.injEq] at hv
    obtain ⟨rfl, rfl, rfl⟩ := hv
    exact ⟨h.len, Nat.le_refl _, by omega, fun _ => rfl, .inl rfl⟩
  · simp only [Value.slice.injEq] at hv
    obtain ⟨rfl, _, rfl⟩ := hv
    refine ⟨h.len, hle, by unfold maxLen at hmax; omega, (fun hq => by cases hq), .inr ⟨g, 0, rfl, fun i p hi => ?_⟩⟩
    intro j hj
    have h1 := flatB_at l i j p hi hj
    rw [blc_at p hj] at h1 ⊢
    have := h.own.cells (g := g) rfl (i * 1 + j) _ h1
    rw [Addr.add_lit] at this
    rw [← this, Nat.zero_add, Nat.zero_add]
/-- 'append(l, p)', l of the call's own. -/
theorem wpList_appB {ops : Array Oper} {rest : List Oper} {o : Oper} {a : Act} {w : World} {Q : Exit → Act → World → Prop} (hgd : o.guard = none) (s x : Operand)
    (ho : o.op = .call { callee := .builtin .append, args := #[s, x], argTypes := #[44, 44] })
    (B : Nat) (ao : Option Addr) (n c : Nat) (l : List Bool) (hs : a.eval s = .slice ao n c) (hm : BlMine B w ao n c l)
    (q : Nat) (y : Bool) (hx : a.eval x = .slice (some ⟨q, 0, none⟩) 1 1) (hb : AtB w q 0 y) (hbound : n ≤ 100000000) (hB : B ≤ w.heap.size)
    (h : ∀ ao1 c1 w1, BlMine B w1 ao1 (n + 1) c1 (l ++ [y]) → Below B w w1 → wpList Try.prog ops Q rest (a.put o.dst (.slice ao1 (n + 1) c1)) w1) :
    wpList Try.prog ops Q (o :: rest) a w := by
  obtain ⟨i0, hi, hz0, hz1, hz2⟩ := info_parts infoB
  have hlen := hm.len
  have hnews : ∀ j u, (blC y).toList[j]? = some u → w.cell? ((⟨q, 0, none⟩ : Addr).add j) = some u := by
    intro j u hu
    have hj : j < 1 := (List.getElem?_eq_some_iff.1 hu).1
    have := hb j hj
    rw [Addr.add_lit, this]
    simpa using hu
  have hone : ∀ u ∈ (blC y).toList, u.oneCell' = true := fun u hu => (Array.all_eq_true_iff_forall_mem.1 (blc_one y)) u (by simpa using hu)
  refine wpList_append_own_at w hgd s x 44 ho B 4 i0 (.bool false) 1 1 Try.underlying44 hi hz0 hz1 hz2 rfl (by decide) _ _ _ hs hm.own ⟨q, 0, none⟩ 1 1 (blC y).toList hx rfl hnews hone (by unfold maxLen; omega) (by omega) hB ?_
  intro v' w' hown hgrow _ hsrc
  rw [← flatB_app] at hown
  have hex : ∃ ao1 c1, v' = .slice ao1 (n + 1) c1 := by
    rcases hown.2 with ⟨hv, h0⟩ | ⟨g, cap, cur, hv, _⟩
    · omega
    · exact ⟨_, _, hv⟩
  obtain ⟨ao1, c1, hv⟩ := hex
  subst hv
  exact h ao1 c1 w' ⟨by simp [hlen], hown⟩ ((Below.refl B w).grown hgrow hB (fun k hk => (hm.own.lt k hk).1))

end Go.Proofs.Ytfgghgoonfamkaa
