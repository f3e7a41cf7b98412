/-
  Pieces in memory: a variable that holds one, a row of them. Conditions: lengths below a bound that is far above every length the statements allow.
-/
import Derived.Test.YtmlodlmmfkpibaaChg
import Derived.Deep.WholeRow
import Derived.Laws.Rows
import Derived.Test.YtmlodlmmfkpibaaDefPlain
namespace Go.Proofs.Ytmlodlmmfkpibaa
open Go.RowKit
set_option linter.unusedVariables false
set_option linter.unusedSimpArgs false

/-- A piece as the program has it. -/
def pv (p : Pc) : Array Value := #[.int .i64 p.l, .int .i64 p.d, .int .u8 p.b]
/-- Numbers that a piece may have. -/
structure Pok (p : Pc) : Prop where
  l0 : -9223372036854775808 ≤ p.l
  l1 : p.l ≤ 9223372036854775807
  d0 : -9223372036854775808 ≤ p.d
  d1 : p.d ≤ 9223372036854775807
  b0 : 0 ≤ p.b
  b1 : p.b ≤ 255
theorem pv_one (p : Pc) : (pv p).all (·.oneCell') = true := by simp [pv, Value.oneCell']
theorem pv_size (p : Pc) : (pv p).size = 3 := rfl

/-- Block q is a variable that holds a piece. -/
def Px (w : World) (q : Nat) (p : Pc) : Prop := w.heap[q]? = some (.cells (pv p) 25 (0, 0))
theorem Px.lt {w : World} {q : Nat} {p : Pc} (h : Px w q p) : q < w.heap.size := (Array.getElem?_eq_some_iff.1 h).1
theorem Px.later {w w' : World} {q : Nat} {p : Pc} (h : Px w q p) (hb : Below w.heap.size w w') : Px w' q p := by
  unfold Px
  rw [hb.block q h.lt]
  exact h
theorem Px.gb {w w' : World} {g q : Nat} {p : Pc} (h : Px w q p) (hb : Gb g w w') (hq : q ≠ g) : Px w' q p := by
  unfold Px
  rw [hb.block q h.lt hq]
  exact h
theorem Px.c0 {w : World} {q : Nat} {p : Pc} (h : Px w q p) : w.cell? ⟨q, 0, none⟩ = some (.int .i64 p.l) := by rw [cell_of_row w q 0 _ _ _ h]; rfl
theorem Px.c1 {w : World} {q : Nat} {p : Pc} (h : Px w q p) : w.cell? ⟨q, 1, none⟩ = some (.int .i64 p.d) := by rw [cell_of_row w q 1 _ _ _ h]; rfl
theorem Px.c2 {w : World} {q : Nat} {p : Pc} (h : Px w q p) : w.cell? ⟨q, 2, none⟩ = some (.int .u8 p.b) := by rw [cell_of_row w q 2 _ _ _ h]; rfl
theorem Px.free {w : World} {q : Nat} {p : Pc} (h : Px w q p) (i : Nat) : w.frozen? ⟨q, i, none⟩ = false := frozen_of_row w q i _ _ h
theorem px_new (w : World) (p : Pc) : Px (w.alloc (.cells (pv p) 25)) w.heap.size p := heap_alloc_new w _
/-- All three cells are written. -/
theorem Px.put {w : World} {q : Nat} {p : Pc} (h : Px w q p) (p' : Pc) : Px (((w.setCell ⟨q, 0, none⟩ (.int .i64 p'.l)).setCell ⟨q, 1, none⟩ (.int .i64 p'.d)).setCell ⟨q, 2, none⟩ (.int .u8 p'.b)) q p' ∧ Gb q w (((w.setCell ⟨q, 0, none⟩ (.int .i64 p'.l)).setCell ⟨q, 1, none⟩ (.int .i64 p'.d)).setCell ⟨q, 2, none⟩ (.int .u8 p'.b)) := by
  have h1 := heap_setCell_same w q 0 _ _ (.int .i64 p'.l) h
  have h2 := heap_setCell_same _ q 1 _ _ (.int .i64 p'.d) h1
  have h3 := heap_setCell_same _ q 2 _ _ (.int .u8 p'.b) h2
  exact ⟨h3, (((Gb.refl q w).set 0 _).set 1 _).set 2 _⟩
theorem Try.pcSize : (Try.prog.info? 25).map (·.size) = some 3 := by kernel_rfl
theorem Try.pcZero : (Try.prog.info? 25).map (fun i => (i.zero, i.size)) = some (some (.agg (pv ⟨0, 0, 0⟩)), 3) := by kernel_rfl
theorem results_pc {fn : Func} {p : Tmp} (h : fn.results = #[.cell p 25]) (tmps : Array Value) (w : World) (q : Nat) (v : Pc)
    (hp : tmps.getD p undef = .pointer (some ⟨q, 0, none⟩)) (hq : Px w q v) : (results fn tmps).run Try.prog w = .ok (.agg (pv v)) w :=
  results_cell_row h tmps w q _ (pv v) (0, 0) _ hp hq Try.underlying25 rfl Try.pcSize

/-- A new variable. -/
theorem wpList_pcAlloc {ops : Array Oper} {rest : List Oper} {o : Oper} {a : Act} {w : World} {Q : Exit → Act → World → Prop} (hgd : o.guard = none) (ho : o.op = .alloc 25)
    (h : ∀ w1, Px w1 w.heap.size ⟨0, 0, 0⟩ → Below w.heap.size w w1 → w1.heap.size = w.heap.size + 1 → wpList Try.prog ops Q rest (a.put o.dst (.pointer (some ⟨w.heap.size, 0, none⟩))) w1) : wpList Try.prog ops Q (o :: rest) a w := by
  refine wpList_plain hgd fun K hK' => ?_
  have hz := (zero_of_info Try.pcZero).1
  unfold Oper.wp
  simp [execOp, ho, Instr.alloc, hz, Result.andThen]
  exact hK' _ _ (h _ (heap_alloc_new w _) (below_alloc w _) (by simp))
theorem wpList_pcBox {ops : Array Oper} {rest : List Oper} {o : Oper} {a : Act} {w : World} {Q : Exit → Act → World → Prop} (hgd : o.guard = none) (x : Operand) (ho : o.op = .box 25 x)
    (p : Pc) (hx : a.eval x = .agg (pv p))
    (h : ∀ w1, Px w1 w.heap.size p → Below w.heap.size w w1 → w1.heap.size = w.heap.size + 1 → wpList Try.prog ops Q rest (a.put o.dst (.pointer (some ⟨w.heap.size, 0, none⟩))) w1) : wpList Try.prog ops Q (o :: rest) a w := by
  refine wpList_plain hgd fun K hK' => ?_
  unfold Oper.wp
  simp [execOp, ho, Instr.box, hx, Result.andThen]
  exact hK' _ _ (h _ (heap_alloc_new w _) (below_alloc w _) (by simp))
/-- A whole piece is read, is written. -/
theorem wpList_pcLoad {ops : Array Oper} {rest : List Oper} {o : Oper} {a : Act} {w : World} {Q : Exit → Act → World → Prop} (hgd : o.guard = none) (x : Operand) (ho : o.op = .load 25 x)
    (q : Nat) (hx : a.eval x = .pointer (some ⟨q, 0, none⟩)) (p : Pc) (hg : Px w q p)
    (h : wpList Try.prog ops Q rest (a.put o.dst (.agg (pv p))) w) : wpList Try.prog ops Q (o :: rest) a w :=
  wpList_load_row hgd _ x ho q hx _ (pv p) (0, 0) _ hg Try.underlying25 rfl Try.pcSize h
theorem wpList_pcStore {ops : Array Oper} {rest : List Oper} {o : Oper} {a : Act} {w : World} {Q : Exit → Act → World → Prop} (hgd : o.guard = none) (x y : Operand) (ho : o.op = .store 25 x y)
    (q : Nat) (p old : Pc) (hx : a.eval x = .pointer (some ⟨q, 0, none⟩)) (hy : a.eval y = .agg (pv p)) (hg : Px w q old)
    (h : ∀ w1, Px w1 q p → Gb q w w1 → w1.heap.size = w.heap.size → wpList Try.prog ops Q rest (a.put o.dst undef) w1) : wpList Try.prog ops Q (o :: rest) a w := by
  refine wpList_store_row hgd _ x y ho q (pv p) hx hy _ (pv old) hg Try.pcSize rfl (pv_one p) ?_
  refine h _ (setRow_heap w q _ _ _ _ hg) ⟨rfl, rfl, rfl, by simp, fun k _ hk => setRow_other w q k _ hk⟩ (by simp)

/-! A row of pieces. -/
def flatP (l : List Pc) : List Value := l.flatMap fun x => (pv x).toList
theorem flatP_len : ∀ l : List Pc, (flatP l).length = l.length * 3
  | [] => rfl
  | x :: l => by
    have h := flatP_len l
    have e : flatP (x :: l) = (pv x).toList ++ flatP l := rfl
    rw [e, List.length_append, h, show ((pv x).toList).length = 3 from rfl, List.length_cons]
    omega
theorem flatP_app (l : List Pc) (x : Pc) : flatP (l ++ [x]) = flatP l ++ (pv x).toList := by simp [flatP]
theorem flatP_at : ∀ (l : List Pc) (i j : Nat) (x : Pc), l[i]? = some x → j < 3 → (flatP l)[i * 3 + j]? = (pv x)[j]?
  | [], i, j, x, h, hj => by simp at h
  | y :: l, 0, j, x, h, hj => by
    simp at h
    subst h
    simp only [flatP, List.flatMap_cons, Nat.zero_mul, Nat.zero_add]
    rw [List.getElem?_append_left (by simpa [pv] using hj)]
    simp
  | y :: l, i + 1, j, x, h, hj => by
    simp at h
    have ih := flatP_at l i j x h hj
    simp only [flatP, List.flatMap_cons] at ih ⊢
    have hs : ((pv y).toList).length = 3 := rfl
    rw [List.getElem?_append_right (by rw [hs]; omega), hs, show (i + 1) * 3 + j - 3 = i * 3 + j by omega]
    exact ih

/-- The slice 'ao, n, c' holds the pieces l. -/
structure Ps (w : World) (ao : Option Addr) (n c : Nat) (l : List Pc) : Prop where
  len : l.length = n
  le : n ≤ c
  max : c ≤ 9223372036854775807
  nil : ao = none → c = 0
  fit : ∀ p ∈ l, Pok p
  at' : n = 0 ∨ ∃ b off, ao = some ⟨b, off, none⟩ ∧ ∀ i p, l[i]? = some p → w.cell? ⟨b, off + i * 3, none⟩ = some (.int .i64 p.l) ∧ w.cell? ⟨b, off + i * 3 + 1, none⟩ = some (.int .i64 p.d) ∧ w.cell? ⟨b, off + i * 3 + 2, none⟩ = some (.int .u8 p.b)
theorem Ps.nought (w : World) : Ps w .none 0 0 [] := ⟨rfl, Nat.le_refl _, by omega, fun _ => rfl, by simp, .inl rfl⟩
theorem Ps.later {w w' : World} {ao : Option Addr} {n c : Nat} {l : List Pc} (h : Ps w ao n c l) (hb : Below w.heap.size w w') : Ps w' ao n c l := by
  refine ⟨h.len, h.le, h.max, h.nil, h.fit, ?_⟩
  rcases h.at' with h0 | ⟨b, off, e, hc⟩
  · exact .inl h0
  · exact .inr ⟨b, off, e, fun i p hi => ⟨cell_later hb (hc i p hi).1, cell_later hb (hc i p hi).2.1, cell_later hb (hc i p hi).2.2⟩⟩
theorem Try.elemPcs : Try.prog.underlying 22 = some (.slice (Try.prog.elem 22)) := by kernel_rfl
/-- 'l[i]' for the walk: its address, and what lies there. -/
theorem Ps.idx {w : World} {ao : Option Addr} {n c : Nat} {l : List Pc} (h : Ps w ao n c l) {i : Nat} {p : Pc} (hi : l[i]? = some p) (I : Int) (hI : I = i) :
    ∃ b o, (∀ wx, (Instr.indexAt 22 (.slice ao n c) (.int .i64 I)).run Try.prog wx = .ok (.pointer (some ⟨b, o, none⟩)) wx) ∧ w.cell? ⟨b, o, none⟩ = some (.int .i64 p.l) ∧ w.cell? ⟨b, o + 1, none⟩ = some (.int .i64 p.d) ∧ w.cell? ⟨b, o + 2, none⟩ = some (.int .u8 p.b) := by
  subst hI
  have hl : i < n := by rw [← h.len]; exact (List.getElem?_eq_some_iff.1 hi).1
  rcases h.at' with h0 | ⟨b, off, rfl, hc⟩
  · omega
  · refine ⟨b, off + i * 3, fun wx => ?_, hc i p hi⟩
    have hs : ∀ w : World, (sizeOf (Try.prog.elem 22)).run Try.prog w = .ok 3 w := by intro w; kernel_rfl
    rw [run_indexAt_slice wx 22 _ n c .i64 (i : Int) Try.elemPcs]
    simp [hs, hl, Addr.add_lit, Result.andThen]

/-- The pieces l in a row of the call's own, from block B on. -/
structure PMine (B : Nat) (w : World) (ao : Option Addr) (n c : Nat) (l : List Pc) : Prop where
  len : l.length = n
  own : w.ownsRow B 25 3 (.slice ao n c) n (flatP l)
  fit : ∀ p ∈ l, Pok p
theorem PMine.nought (B : Nat) (w : World) : PMine B w .none 0 0 [] := ⟨rfl, World.ownsRow_nil _ _ _ _, by simp⟩
theorem PMine.ob {B : Nat} {w : World} {ao : Option Addr} {n c : Nat} {l : List Pc} (h : PMine B w ao n c l) {k : Nat} (hk : ob ao k) : B ≤ k ∧ k < w.heap.size := by
  obtain ⟨a, rfl, rfl⟩ := hk
  rcases h.own.2 with ⟨hv, _⟩ | ⟨g, cap, cur, hv, hg, hh, _⟩
  · simp at hv
  · simp only [Value.slice.injEq, Option.some.injEq] at hv
    obtain ⟨rfl, _⟩ := hv
    exact ⟨hg, (Array.getElem?_eq_some_iff.1 hh).1⟩
theorem PMine.keep {B : Nat} {w w' : World} {ao : Option Addr} {n c : Nat} {l : List Pc} (h : PMine B w ao n c l) (hk : ∀ k, Proofs.Ytmlodlmmfkpibaa.ob ao k → w'.heap[k]? = w.heap[k]?) : PMine B w' ao n c l := by
  refine ⟨h.len, ⟨h.own.1, ?_⟩, h.fit⟩
  rcases h.own.2 with hv | ⟨g, cap, cur, hv, hg, hh, r⟩
  · exact .inl hv
  · simp only [Value.slice.injEq] at hv
    obtain ⟨rfl, _, rfl⟩ := hv
    exact .inr ⟨g, _, cur, rfl, hg, by rw [hk g ⟨_, rfl, rfl⟩]; exact hh, r⟩
theorem PMine.mono {B B' : Nat} {w : World} {ao : Option Addr} {n c : Nat} {l : List Pc} (h : PMine B w ao n c l) (hB : B' ≤ B) : PMine B' w ao n c l := by
  refine ⟨h.len, ⟨h.own.1, ?_⟩, h.fit⟩
  rcases h.own.2 with hv | ⟨g, cap, cur, hv, hg, r⟩
  · exact .inl hv
  · exact .inr ⟨g, cap, cur, hv, by omega, r⟩
theorem PMine.later {B : Nat} {w w' : World} {ao : Option Addr} {n c : Nat} {l : List Pc} (h : PMine B w ao n c l) (hb : Below w.heap.size w w') : PMine B w' ao n c l :=
  h.keep fun k hk => hb.block k (h.ob hk).2
theorem PMine.ps {B : Nat} {w : World} {ao : Option Addr} {n c : Nat} {l : List Pc} (h : PMine B w ao n c l) : Ps w ao n c l := by
  have hl := h.len
  rcases h.own.2 with ⟨hv, h0⟩ | ⟨g, cap, cur, hv, hg, hh, hle, hmax, hsz, htake⟩
  · simp only [Value.slice.injEq] at hv
    obtain ⟨rfl, rfl, rfl⟩ := hv
    exact ⟨h.len, Nat.le_refl _, by omega, fun _ => rfl, h.fit, .inl rfl⟩
  · simp only [Value.slice.injEq] at hv
    obtain ⟨rfl, _, rfl⟩ := hv
    refine ⟨h.len, hle, by unfold maxLen at hmax; omega, (fun hq => by cases hq), h.fit, .inr ⟨g, 0, rfl, fun i p hi => ?_⟩⟩
    have key : ∀ j, j < 3 → w.cell? ⟨g, 0 + i * 3 + j, none⟩ = (pv p)[j]? := by
      intro j hj
      have h1 := flatP_at l i j p hi hj
      have h2 : (pv p)[j]? = some ((pv p)[j]'(by simpa [pv] using hj)) := Array.getElem?_eq_getElem _
      rw [h2] at h1 ⊢
      have := h.own.cells (g := g) rfl (i * 3 + j) _ h1
      rw [Addr.add_lit] at this
      rw [← this, Nat.add_assoc]
    exact ⟨key 0 (by omega), key 1 (by omega), key 2 (by omega)⟩

theorem Try.infoPc : (Try.prog.info? 25).map (fun i => (i.zero, i.size, i.bytes)) = some (some (.agg (pv ⟨0, 0, 0⟩)), 3, 24) := by kernel_rfl
/-- 'append(l, p)', l of the call's own. -/
theorem wpList_papp {ops : Array Oper} {rest : List Oper} {o : Oper} {a : Act} {w : World} {Q : Exit → Act → World → Prop} (hgd : o.guard = none) (s x : Operand)
    (ho : o.op = .call { callee := .builtin .append, args := #[s, x], argTypes := #[22, 22] })
    (B : Nat) (ao : Option Addr) (n c : Nat) (l : List Pc) (hs : a.eval s = .slice ao n c) (hm : PMine B w ao n c l)
    (q : Nat) (y : Pc) (hy : Pok y) (hx : a.eval x = .slice (some ⟨q, 0, none⟩) 1 1) (hb : Px w q y) (hbound : n ≤ 1000000000) (hB : B ≤ w.heap.size)
    (h : ∀ ao1 c1 w1, PMine B w1 ao1 (n + 1) c1 (l ++ [y]) → w.grownBy w1 (Value.slice ao n c).ownBlock → (∀ k, ob ao1 k → ob ao k ∨ w.heap.size ≤ k) → wpList Try.prog ops Q rest (a.put o.dst (.slice ao1 (n + 1) c1)) w1) :
    wpList Try.prog ops Q (o :: rest) a w := by
  obtain ⟨i0, hi, hz0, hz1, hz2⟩ := info_parts Try.infoPc
  have hlen := hm.len
  have hnews : ∀ j u, (pv y).toList[j]? = some u → w.cell? ((⟨q, 0, none⟩ : Addr).add j) = some u := by
    intro j u hu
    rw [Addr.add_lit, cell_of_row w q _ _ _ _ hb]
    simpa using hu
  have hone : ∀ u ∈ (pv y).toList, u.oneCell' = true := by
    intro u hu
    simp [pv] at hu
    rcases hu with rfl | rfl | rfl <;> rfl
  refine wpList_append_own_at w hgd s x 22 ho B 25 i0 (.agg (pv ⟨0, 0, 0⟩)) 3 24 Try.underlying22 hi hz0 hz1 hz2 rfl (by decide) _ _ _ hs hm.own ⟨q, 0, none⟩ 1 1 (pv y).toList hx rfl hnews hone (by unfold maxLen; omega) (by omega) hB ?_
  intro v' w' hown hgrow _ hsrc
  rw [← flatP_app] at hown
  have hex : ∃ ao1 c1, v' = .slice ao1 (n + 1) c1 := by
    rcases hown.2 with ⟨hv, h0⟩ | ⟨g, cap, cur, hv, _⟩
    · omega
    · exact ⟨_, _, hv⟩
  obtain ⟨ao1, c1, hv⟩ := hex
  subst hv
  refine h ao1 c1 w' ⟨by simp [hlen], hown, fun p hp => ?_⟩ hgrow fun k hk => ?_
  · rcases List.mem_append.1 hp with hp | hp
    · exact hm.fit p hp
    · simp at hp; subst hp; exact hy
  · obtain ⟨z, rfl, rfl⟩ := hk
    rcases hsrc with hq | hq
    · left
      cases ao with
      | none => simp [Value.ownBlock] at hq
      | some z => exact ⟨z, rfl, by simpa [Value.ownBlock] using hq.symm⟩
    · right
      simp [Value.ownBlock] at hq
      omega
end Go.Proofs.Ytmlodlmmfkpibaa
