/-
  What readParams of package param returns: parameters of some types, the error. It writes nothing that was there. Conditions: the slices can be read, at most 100,000 bytes; types are bytes; a bit for each type.
-/
import Derived.Test.YtfgghgoonfamkaaMPq
import Derived.Test.YtfgghgoonfamkaaPmMay
import Derived.Test.YtfgghgoonfamkaaVaSt
import Derived.Deep.RegionHeld
import Derived.Deep.DeepCutAuto
import Derived.Deep.RegionWith
namespace Go.Proofs.Ytfgghgoonfamkaa
open Go.RowKit
set_option linter.unusedVariables false
set_option linter.unusedSimpArgs false

/-- One parameter: it, what is left, the error. -/
def pa1 (nl : List Int) (lg : List Bool) (ts : List Ty) (i : Nat) (b : List Int) : Pa × List Int × Int :=
  if (!(lg.getD i false) && !(bit nl i)) = true then (⟨ts.getD i ty0, lg.getD i false, (rvP b (ts.getD i ty0).t (ts.getD i ty0).un).1⟩, (rvP b (ts.getD i ty0).t (ts.getD i ty0).un).2.1, (rvP b (ts.getD i ty0).t (ts.getD i ty0).un).2.2)
  else (⟨ts.getD i ty0, lg.getD i false, va0⟩, b, 0)
def prG (nl : List Int) (lg : List Bool) (ts : List Ty) (b : List Int) : List Pa × Int :=
  if (gsA (pa1 nl lg ts) ts.length b).2.2 ≠ 0 then ([], (gsA (pa1 nl lg ts) ts.length b).2.2) else if (gsA (pa1 nl lg ts) ts.length b).2.1.length ≠ 0 then ([], 5) else ((gsA (pa1 nl lg ts) ts.length b).1, 0)
theorem rvP_len (b : List Int) (t : Int) (un : Bool) : (rvP b t un).2.1.length ≤ b.length := by
  unfold rvP rdL
  split
  · simp
  · split <;> simp
theorem pa1_len (nl : List Int) (lg : List Bool) (ts : List Ty) (i : Nat) (b : List Int) : (pa1 nl lg ts i b).2.1.length ≤ b.length := by
  unfold pa1
  split
  · exact rvP_len _ _ _
  · exact Nat.le_refl _
theorem pg_len (nl : List Int) (lg : List Bool) (ts : List Ty) (b : List Int) : ∀ j, (gsA (pa1 nl lg ts) j b).2.1.length ≤ b.length
  | 0 => Nat.le_refl _
  | j + 1 => by
    have ih := pg_len nl lg ts b j
    have h2 := pa1_len nl lg ts j (gsA (pa1 nl lg ts) j b).2.1
    unfold gsA
    split
    · exact ih
    · split
      · simp
      · exact Nat.le_trans h2 ih
theorem shift_store (g off : Nat) : ∀ (vs : List Value) (i : Nat), storeCells ⟨g, off, none⟩ vs i = storeCells ⟨g, 0, none⟩ vs (off + i)
  | [], i => rfl
  | v :: rest, i => by
    have ih := shift_store g off rest (i + 1)
    have e1 : (⟨g, off, none⟩ : Addr).add i = ⟨g, off + i, none⟩ := Addr.add_lit _ _ _
    have e2 : (⟨g, 0, none⟩ : Addr).add (off + i) = ⟨g, off + i, none⟩ := by rw [Addr.add_lit, Nat.zero_add]
    simp only [storeCells, ih, e1, e2]
    rfl
/-- A struct stored at the end of another's row. -/
theorem wpList_stS {ops : Array Oper} {rest : List Oper} {o : Oper} {a : Act} {w : World} {Q : Exit → Act → World → Prop} (hgd : o.guard = none) (T : TypeId) (x y : Operand) (ho : o.op = .store T x y)
    (g off : Nat) (cs old : Array Value) (T2 : TypeId) (hx : a.eval x = .pointer (some ⟨g, off, none⟩)) (hy : a.eval y = .agg cs) (hg : w.heap[g]? = some (.cells old T2 (0, 0))) (hi : (Try.prog.info? T).map (·.size) = some cs.size) (h8 : off + cs.size = old.size) (h1 : cs.all (·.oneCell') = true)
    (h : ∀ w1, w1.heap[g]? = some (.cells (old.toList.take off ++ cs.toList).toArray T2 (0, 0)) → Gb g w w1 → wpList Try.prog ops Q rest (a.put o.dst undef) w1) : wpList Try.prog ops Q (o :: rest) a w := by
  refine wpList_plain hgd fun _ hK => ?_
  have e := run_storeCells_from (P := Try.prog) g T2 cs.toList off old w hg (by simpa using h8) (fun v hv => (Array.all_eq_true_iff_forall_mem.1 h1) v (by simpa using hv))
  have e2 : (storeVar T ⟨g, off, none⟩ (.agg cs)).run Try.prog w = .ok () (w.setRow g (old.toList.take off ++ cs.toList).toArray) := by
    cases hq : Try.prog.info? T with
    | none => simp [hq] at hi
    | some i =>
      have hs : cs.size = i.size := by simp [hq] at hi; omega
      rw [← Nat.add_zero off, ← shift_store] at e
      simp [storeVar, sizeOf, typeInfo, hq, Value.cells, hs, e]
  unfold Oper.wp execOp
  simp only [ho, hx, hy, Instr.storeAt, Instr.sureAddr, Sem.run_bind, Sem.run_pure, Result.andThen_ok, e2]
  exact hK _ _ (h _ (setRow_heap w g _ _ _ _ hg) ⟨rfl, rfl, rfl, by simp, fun j _ hj => setRow_other w g j _ hj⟩)
theorem app15 {w : World} {g : Nat} {T : TypeId} {a0 a1 a2 z0 z1 z2 z3 z4 z5 z6 z7 z8 z9 z10 z11 v0 v1 v2 v3 v4 v5 v6 v7 v8 v9 v10 v11 : Value} (h : w.heap[g]? = some (.cells ((#[a0, a1, a2, z0, z1, z2, z3, z4, z5, z6, z7, z8, z9, z10, z11] : Array Value).toList.take 3 ++ (#[v0, v1, v2, v3, v4, v5, v6, v7, v8, v9, v10, v11] : Array Value).toList).toArray T (0, 0))) : w.heap[g]? = some (.cells #[a0, a1, a2, v0, v1, v2, v3, v4, v5, v6, v7, v8, v9, v10, v11] T (0, 0)) := h
def OutPm (w : World) (R : List Pa × Int) (e : Ending) (w' : World) : Prop := ∃ xo xn xc, e = .returned (.tuple #[.slice xo xn xc, .int .i64 R.2]) ∧ PaMine w.heap.size w' xo xn xc R.1 ∧ Below w.heap.size w w'
theorem pz_facts {w : World} {g : Nat} {T : TypeId} (h : w.heap[g]? = some (.cells #[.int .u8 0, .bool false, .bool false, .int .i64 0, .int .i64 0, .int .u64 0, .string ⟨#[]⟩, .bool false, .int .i64 0, .int .i64 0, .int .i64 0, .int .i64 0, .int .i64 0, .int .i64 0, .int .i64 0] T (0, 0))) : w.cell? ⟨g, 0, none⟩ = some (.int .u8 0) ∧ w.cell? ⟨g, 1, none⟩ = some (.bool false) ∧ w.cell? ⟨g, 2, none⟩ = some (.bool false) ∧ w.cell? ⟨g, 3, none⟩ = some (.int .i64 0) ∧ w.cell? ⟨g, 4, none⟩ = some (.int .i64 0) ∧ w.cell? ⟨g, 5, none⟩ = some (.int .u64 0) ∧ w.cell? ⟨g, 6, none⟩ = some (.string ⟨#[]⟩) ∧ w.cell? ⟨g, 7, none⟩ = some (.bool false) ∧ w.cell? ⟨g, 8, none⟩ = some (.int .i64 0) ∧ w.cell? ⟨g, 9, none⟩ = some (.int .i64 0) ∧ w.cell? ⟨g, 10, none⟩ = some (.int .i64 0) ∧ w.cell? ⟨g, 11, none⟩ = some (.int .i64 0) ∧ w.cell? ⟨g, 12, none⟩ = some (.int .i64 0) ∧ w.cell? ⟨g, 13, none⟩ = some (.int .i64 0) ∧ w.cell? ⟨g, 14, none⟩ = some (.int .i64 0) ∧ w.frozen? ⟨g, 0, none⟩ = false ∧ w.frozen? ⟨g, 1, none⟩ = false ∧ w.frozen? ⟨g, 2, none⟩ = false ∧ w.frozen? ⟨g, 3, none⟩ = false ∧ w.frozen? ⟨g, 4, none⟩ = false ∧ w.frozen? ⟨g, 5, none⟩ = false ∧ w.frozen? ⟨g, 6, none⟩ = false ∧ w.frozen? ⟨g, 7, none⟩ = false ∧ w.frozen? ⟨g, 8, none⟩ = false ∧ w.frozen? ⟨g, 9, none⟩ = false ∧ w.frozen? ⟨g, 10, none⟩ = false ∧ w.frozen? ⟨g, 11, none⟩ = false ∧ w.frozen? ⟨g, 12, none⟩ = false ∧ w.frozen? ⟨g, 13, none⟩ = false ∧ w.frozen? ⟨g, 14, none⟩ = false :=
  ⟨vrow_cell h (j := 0) (v := .int .u8 0) rfl, vrow_cell h (j := 1) (v := .bool false) rfl, vrow_cell h (j := 2) (v := .bool false) rfl, vrow_cell h (j := 3) (v := .int .i64 0) rfl, vrow_cell h (j := 4) (v := .int .i64 0) rfl, vrow_cell h (j := 5) (v := .int .u64 0) rfl, vrow_cell h (j := 6) (v := .string ⟨#[]⟩) rfl, vrow_cell h (j := 7) (v := .bool false) rfl, vrow_cell h (j := 8) (v := .int .i64 0) rfl, vrow_cell h (j := 9) (v := .int .i64 0) rfl, vrow_cell h (j := 10) (v := .int .i64 0) rfl, vrow_cell h (j := 11) (v := .int .i64 0) rfl, vrow_cell h (j := 12) (v := .int .i64 0) rfl, vrow_cell h (j := 13) (v := .int .i64 0) rfl, vrow_cell h (j := 14) (v := .int .i64 0) rfl, frozen_of_row _ _ 0 _ _ h, frozen_of_row _ _ 1 _ _ h, frozen_of_row _ _ 2 _ _ h, frozen_of_row _ _ 3 _ _ h, frozen_of_row _ _ 4 _ _ h, frozen_of_row _ _ 5 _ _ h, frozen_of_row _ _ 6 _ _ h, frozen_of_row _ _ 7 _ _ h, frozen_of_row _ _ 8 _ _ h, frozen_of_row _ _ 9 _ _ h, frozen_of_row _ _ 10 _ _ h, frozen_of_row _ _ 11 _ _ h, frozen_of_row _ _ 12 _ _ h, frozen_of_row _ _ 13 _ _ h, frozen_of_row _ _ 14 _ _ h⟩
theorem zrA (W : World) (z : Array Value) (T : TypeId) {g : Nat} (hg : W.heap.size = g) : (W.alloc (.cells z T)).drew.heap[g]? = some (.cells z T (0, 0)) := by
  subst hg
  exact heap_alloc_new W (.cells z T)
theorem zrB (W : World) (z : Array Value) (T : TypeId) {g : Nat} (hg : W.heap.size = g) : (W.drew.alloc (.cells z T)).heap[g]? = some (.cells z T (0, 0)) := by
  subst hg
  exact heap_alloc_new W.drew (.cells z T)
theorem below_p15 {w0 w : World} {B g : Nat} {v0 v1 v2 v3 v4 v5 v6 v7 v8 v9 v10 v11 v12 v13 v14 : Value} (h : Below B w0 w) (hg : B ≤ g) : Below B w0 (((((((((((((((w.setCell ⟨g, 0, none⟩ v0).setCell ⟨g, 1, none⟩ v1).setCell ⟨g, 2, none⟩ v2).setCell ⟨g, 3, none⟩ v3).setCell ⟨g, 4, none⟩ v4).setCell ⟨g, 5, none⟩ v5).setCell ⟨g, 6, none⟩ v6).setCell ⟨g, 7, none⟩ v7).setCell ⟨g, 8, none⟩ v8).setCell ⟨g, 9, none⟩ v9).setCell ⟨g, 10, none⟩ v10).setCell ⟨g, 11, none⟩ v11).setCell ⟨g, 12, none⟩ v12).setCell ⟨g, 13, none⟩ v13).setCell ⟨g, 14, none⟩ v14) := by
  have e : ∀ {w : World} {i : Nat} {v : Value}, Below B w0 w → Below B w0 (w.setCell ⟨g, i, none⟩ v) := fun {w i v} h => below_set2 h hg
  exact e (e (e (e (e (e (e (e (e (e (e (e (e (e (e (h)))))))))))))))
theorem row_p15 {w : World} {g : Nat} {T : TypeId} {z0 z1 z2 z3 z4 z5 z6 z7 z8 z9 z10 z11 z12 z13 z14 v0 v1 v2 v3 v4 v5 v6 v7 v8 v9 v10 v11 v12 v13 v14 : Value} (h : w.heap[g]? = some (.cells #[z0, z1, z2, z3, z4, z5, z6, z7, z8, z9, z10, z11, z12, z13, z14] T (0, 0))) : (((((((((((((((w.setCell ⟨g, 0, none⟩ v0).setCell ⟨g, 1, none⟩ v1).setCell ⟨g, 2, none⟩ v2).setCell ⟨g, 3, none⟩ v3).setCell ⟨g, 4, none⟩ v4).setCell ⟨g, 5, none⟩ v5).setCell ⟨g, 6, none⟩ v6).setCell ⟨g, 7, none⟩ v7).setCell ⟨g, 8, none⟩ v8).setCell ⟨g, 9, none⟩ v9).setCell ⟨g, 10, none⟩ v10).setCell ⟨g, 11, none⟩ v11).setCell ⟨g, 12, none⟩ v12).setCell ⟨g, 13, none⟩ v13).setCell ⟨g, 14, none⟩ v14).heap[g]? = some (.cells #[v0, v1, v2, v3, v4, v5, v6, v7, v8, v9, v10, v11, v12, v13, v14] T (0, 0)) := by
  have h0 := heap_setCell_same _ g 0 (#[z0, z1, z2, z3, z4, z5, z6, z7, z8, z9, z10, z11, z12, z13, z14]) T v0 h
  have h1 := heap_setCell_same _ g 1 (#[v0, z1, z2, z3, z4, z5, z6, z7, z8, z9, z10, z11, z12, z13, z14]) T v1 h0
  have h2 := heap_setCell_same _ g 2 (#[v0, v1, z2, z3, z4, z5, z6, z7, z8, z9, z10, z11, z12, z13, z14]) T v2 h1
  have h3 := heap_setCell_same _ g 3 (#[v0, v1, v2, z3, z4, z5, z6, z7, z8, z9, z10, z11, z12, z13, z14]) T v3 h2
  have h4 := heap_setCell_same _ g 4 (#[v0, v1, v2, v3, z4, z5, z6, z7, z8, z9, z10, z11, z12, z13, z14]) T v4 h3
  have h5 := heap_setCell_same _ g 5 (#[v0, v1, v2, v3, v4, z5, z6, z7, z8, z9, z10, z11, z12, z13, z14]) T v5 h4
  have h6 := heap_setCell_same _ g 6 (#[v0, v1, v2, v3, v4, v5, z6, z7, z8, z9, z10, z11, z12, z13, z14]) T v6 h5
  have h7 := heap_setCell_same _ g 7 (#[v0, v1, v2, v3, v4, v5, v6, z7, z8, z9, z10, z11, z12, z13, z14]) T v7 h6
  have h8 := heap_setCell_same _ g 8 (#[v0, v1, v2, v3, v4, v5, v6, v7, z8, z9, z10, z11, z12, z13, z14]) T v8 h7
  have h9 := heap_setCell_same _ g 9 (#[v0, v1, v2, v3, v4, v5, v6, v7, v8, z9, z10, z11, z12, z13, z14]) T v9 h8
  have h10 := heap_setCell_same _ g 10 (#[v0, v1, v2, v3, v4, v5, v6, v7, v8, v9, z10, z11, z12, z13, z14]) T v10 h9
  have h11 := heap_setCell_same _ g 11 (#[v0, v1, v2, v3, v4, v5, v6, v7, v8, v9, v10, z11, z12, z13, z14]) T v11 h10
  have h12 := heap_setCell_same _ g 12 (#[v0, v1, v2, v3, v4, v5, v6, v7, v8, v9, v10, v11, z12, z13, z14]) T v12 h11
  have h13 := heap_setCell_same _ g 13 (#[v0, v1, v2, v3, v4, v5, v6, v7, v8, v9, v10, v11, v12, z13, z14]) T v13 h12
  have h14 := heap_setCell_same _ g 14 (#[v0, v1, v2, v3, v4, v5, v6, v7, v8, v9, v10, v11, v12, v13, z14]) T v14 h13
  exact h14
theorem sx_le {a b c d : Nat} (h : a < b) (e : d = b + 1) (k : d ≤ c) : a + 1 ≤ c := by omega
theorem bdr (w : World) : Below w.heap.size w w.drew := below_drew w
theorem bda (w : World) (z : Obj) : Below w.heap.size w (w.drew.alloc z) := vbup (below_drew w) (below_alloc _ z)
theorem bad (w : World) (z : Obj) : Below w.heap.size w (w.alloc z).drew := vbup (below_alloc w z) (below_drew _)

set_option maxHeartbeats 4000000 in
set_option maxRecDepth 100000 in
theorem preadParams_any (bo : Option Addr) (bn bc : Nat) (b : List Int) (tyo : Option Addr) (m tc : Nat) (ts : List Ty) (no : Option Addr) (nn nc : Nat) (nl : List Int) (go : Option Addr) (gn gc : Nat) (lg : List Bool) (w : World) (hb : Bs w bo bn bc b) (ht : Tys w tyo m tc ts) (hT : ∀ p ∈ ts, 0 ≤ p.t ∧ p.t < 256) (hnl : Bs w no nn nc nl) (hlg : Bls w go gn gc lg) (hbits : m ≤ 8 * nn) (hm : m ≤ 90000) (hn : b.length ≤ 100000) :
    Calls Try.prog 27 #[.slice bo bn bc, .slice tyo m tc, .agg #[.slice no nn nc, .slice go gn gc]] w fun e w' => OutPm w (prG nl lg ts b) e w' := by
  obtain ⟨RES, hRES⟩ : ∃ z, z = prG nl lg ts b := ⟨_, rfl⟩
  rw [← hRES]
  have hml := ht.len
  have htl := ht.le
  have htx := ht.max
  have HR := hide (show RES = if (gsA (pa1 nl lg ts) m b).2.2 ≠ 0 then ([], (gsA (pa1 nl lg ts) m b).2.2) else if (gsA (pa1 nl lg ts) m b).2.1.length ≠ 0 then ([], 5) else ((gsA (pa1 nl lg ts) m b).1, 0) by rw [hRES]; unfold prG; rw [hml])
  have HPL := hide (pg_len nl lg ts b)
  have HBS := hide hb
  have HTY := hide ht
  have HTT := hide hT
  have HNL := hide hnl
  have HLG := hide hlg
  have q1 := below_alloc w (.cells #[.slice no nn nc, .slice go gn gc] 54)
  have r1 := heap_alloc_new w (.cells #[.slice no nn nc, .slice go gn gc] 54)
  have Q1 := hide q1
  have R1 := hide r1
  clear hRES hb ht hT hnl hlg q1 r1
  go_enter Try.func27, Try.ntmps27
  go_wp2_with fail
  go_loopw [13, 0, 6, 7] (fun iv lv sv ev ws => ∃ (j : Nat) (lo : Option Addr) (ln lc : Nat) (xo : Option Addr) (xc : Nat), j ≤ m ∧ iv = .int .i64 (j : Int) ∧ lv = .slice lo ln lc ∧ sv = .slice xo j xc ∧ ev = .int .i64 0 ∧ (gsA (pa1 nl lg ts) j b).2.2 = 0 ∧ Cut bo bn bc b lo ln lc (gsA (pa1 nl lg ts) j b).2.1 ∧ PaMine (w.heap.size + 1) ws xo j xc (gsA (pa1 nl lg ts) j b).1 ∧ ws.heap[w.heap.size]? = some (.cells #[.slice no nn nc, .slice go gn gc] 54 (0, 0)) ∧ Below w.heap.size w ws) (fun iv _ _ _ _ => m - (intOf iv).toNat)
  case atStart => exact ⟨0, bo, bn, bc, none, 0, by omega, rfl, rfl, rfl, rfl, rfl, fun wx h => h, PaMine.nought _ _, unhide R1, unhide Q1⟩
  case round =>
    clear R1 Q1
    obtain ⟨j, lo, ln, lc, xo, xc, hj, rfl, rfl, rfl, rfl, h0, hC, hM, hR, hB⟩ := hrel
    have hob := hB.size
    have hgs : w.heap.size < wr.heap.size := (Array.getElem?_eq_some_iff.1 hR).1
    have HB := hide hB
    have HM := hide hM
    have HC := hide hC
    have HRW := hide hR
    have hbs := (hC w (unhide HBS)).later hB
    have hll := hbs.len
    have hlle := hbs.le
    have hllx := hbs.max
    have hlb := unhide HPL j
    clear hM hC hB hR
    by_cases hlt : j < m
    · have hlj : ((j : Nat) : Int) < (m : Int) := by omega
      obtain ⟨p, hp⟩ : ∃ p, ts[j]? = some p := ⟨_, List.getElem?_eq_getElem (by omega)⟩
      obtain ⟨hp0, hp1⟩ := unhide HTT p (List.mem_of_getElem? hp)
      obtain ⟨tb, tq, hiy, hty⟩ := ((unhide HTY).later (unhide HB)).idx hp (j : Int) rfl
      obtain ⟨k0, k1⟩ : wr.cell? ⟨tb, tq, none⟩ = some (.int .u8 p.t) ∧ wr.cell? ⟨tb, tq + 1, none⟩ = some (.bool p.un) := ⟨hty 0 (by decide), hty 1 (by decide)⟩
      have hg : ts.getD j ty0 = p := by rw [List.getD_eq_getElem?_getD, hp]; rfl
      have HN := hide (gsA_next (f := pa1 nl lg ts) (b := b) h0)
      have HX := hide (fun E hE h1 => gsA_bad (f := pa1 nl lg ts) (b := b) (E := E) hlt h0 hE h1)
      have HP : Hid (∀ L, pa1 nl lg ts j L = if (!(lg.getD j false) && !(bit nl j)) = true then (⟨p, lg.getD j false, (rvP L p.t p.un).1⟩, (rvP L p.t p.un).2.1, (rvP L p.t p.un).2.2) else (⟨p, lg.getD j false, va0⟩, L, 0)) := hide (fun L => by unfold pa1; rw [hg])
      have HBL := hide hbs
      clear hty hp hg hbs
      generalize gsA (pa1 nl lg ts) j b = ST at *
      obtain ⟨PL, L, EL⟩ := ST
      simp only at HN HX h0 HM HC HBL hll hlb
      obtain ⟨pt, pu⟩ := p
      simp only at k0 k1 hp0 hp1 HP
      have q1 := below_alloc wr (.cells #[.int .u8 pt, .bool pu] 27)
      have r1 := heap_alloc_new wr (.cells #[.int .u8 pt, .bool pu] 27)
      have z1 : (wr.alloc (.cells #[.int .u8 pt, .bool pu] 27)).heap.size = wr.heap.size + 1 := by simp
      have cL := hide (fun wx (hx : Below (wr.alloc (.cells #[.int .u8 pt, .bool pu] 27)).heap.size (wr.alloc (.cells #[.int .u8 pt, .bool pu] 27)) wx) => mkLong_any go gn gc lg no nn nc j wx (((unhide HLG).later (vbup (unhide HB) q1)).later hx) (by omega))
      have cI := hide (fun wx (hx : Below (wr.alloc (.cells #[.int .u8 pt, .bool pu] 27)).heap.size (wr.alloc (.cells #[.int .u8 pt, .bool pu] 27)) wx) => mkNull_any go gn gc no nn nc nl j wx (((unhide HNL).later (vbup (unhide HB) q1)).later hx) (by omega) (by omega))
      have cV := hide (fun wx (hx : Below (wr.alloc (.cells #[.int .u8 pt, .bool pu] 27)).heap.size (wr.alloc (.cells #[.int .u8 pt, .bool pu] 27)) wx) => preadValue_any lo ln lc L pt pu wx hp0 hp1 (((unhide HBL).later q1).later hx) (by omega))
      have R1 := hide r1
      have RB := hide (vrow_later (unhide HRW) q1)
      have Q1 := hide q1
      generalize lg.getD j false = LB at *
      generalize bit nl j = BT at *
      have KS := hide (fun (w' : World) (hx : Below (wr.alloc (.cells #[.int .u8 pt, .bool pu] 27)).heap.size (wr.alloc (.cells #[.int .u8 pt, .bool pu] 27)) w') => (show w'.cell? ⟨wr.heap.size, 0, none⟩ = some (.int .u8 pt) ∧ w'.cell? ⟨wr.heap.size, 1, none⟩ = some (.bool pu) ∧ w'.cell? ⟨w.heap.size, 0, none⟩ = some (.slice no nn nc) ∧ w'.cell? ⟨w.heap.size, 1, none⟩ = some (.slice go gn gc) from ⟨vrow_cell (vrow_later (unhide R1) hx) (j := 0) (v := .int .u8 pt) rfl, vrow_cell (vrow_later (unhide R1) hx) (j := 1) (v := .bool pu) rfl, vrow_cell (vrow_later (unhide RB) hx) (j := 0) (v := .slice no nn nc) rfl, vrow_cell (vrow_later (unhide RB) hx) (j := 1) (v := .slice go gn gc) rfl⟩))
      have SPP := hide (fun (x0 x1 x2 x3 x4 x5 x6 x7 x8 x9 x10 x11 x12 x13 x14 : Value) => show (Try.prog.info? 34).map (·.size) = some (#[x0, x1, x2, x3, x4, x5, x6, x7, x8, x9, x10, x11, x12, x13, x14] : Array Value).size from (by rw [show (#[x0, x1, x2, x3, x4, x5, x6, x7, x8, x9, x10, x11, x12, x13, x14] : Array Value).size = 15 from rfl]; kernel_rfl))
      have SP := hide (show (Try.prog.info? 34).map (·.size) = some (#[.int .u8 pt, .bool pu, .bool LB, .int .i64 0, .int .i64 0, .int .u64 0, .string ⟨#[]⟩, .bool false, .int .i64 0, .int .i64 0, .int .i64 0, .int .i64 0, .int .i64 0, .int .i64 0, .int .i64 0] : Array Value).size by kernel_rfl)
      have OP := hide (show (#[.int .u8 pt, .bool pu, .bool LB, .int .i64 0, .int .i64 0, .int .u64 0, .string ⟨#[]⟩, .bool false, .int .i64 0, .int .i64 0, .int .i64 0, .int .i64 0, .int .i64 0, .int .i64 0, .int .i64 0] : Array Value).all (·.oneCell') = true by simp [Value.oneCell'])
      clear q1 r1
      go_upto_region 4 with fail
      go_cut [10] (fun v wx => ∃ g, v = .pointer (some ⟨g, 0, none⟩) ∧ wx.heap[g]? = some (.cells #[.int .u8 pt, .bool pu, .bool LB, .int .i64 0, .int .i64 0, .int .u64 0, .string ⟨#[]⟩, .bool false, .int .i64 0, .int .i64 0, .int .i64 0, .int .i64 0, .int .i64 0, .int .i64 0, .int .i64 0] 34 (0, 0)) ∧ wr.heap.size < g ∧ Below (wr.alloc (.cells #[.int .u8 pt, .bool pu] 27)).heap.size (wr.alloc (.cells #[.int .u8 pt, .bool pu] 27)) wx)
      case first =>
        refine wp_region_held_drew (S := fun wq => Below (wr.alloc (.cells #[.int .u8 pt, .bool pu] 27)).heap.size (wr.alloc (.cells #[.int .u8 pt, .bool pu] 27)) wq) (by kernel_rfl) (bdr _) (fun hHeld => ?_)
        refine wpAnyH_take (i := 0) (v := .agg #[.int .u8 pt, .bool pu]) rfl (by kernel_rfl) (by kernel_rfl) (by kernel_rfl) (fun _ _ _ h => h) (Or.inl ⟨by rfl, ?_⟩) (bdr _) ?_
        · intro wq hSw; obtain ⟨c0, c1, c2, c3⟩ := unhide KS wq hSw; go_simp
        try simp only [Act.put, List.setIfInBounds_toArray, List.set_cons_zero, List.set_cons_succ]
        refine wpAnyH_take (i := 1) (v := .agg #[.slice no nn nc, .slice go gn gc]) rfl (by kernel_rfl) (by kernel_rfl) (by kernel_rfl) (fun _ _ _ h => h) (Or.inl ⟨by rfl, ?_⟩) (bdr _) ?_
        · intro wq hSw; obtain ⟨c0, c1, c2, c3⟩ := unhide KS wq hSw; go_simp
        try simp only [Act.put, List.setIfInBounds_toArray, List.set_cons_zero, List.set_cons_succ]
        refine wpAnyH_take (i := 2) (v := .int .i64 (j : Int)) rfl (by kernel_rfl) (by kernel_rfl) (by kernel_rfl) (fun _ _ _ h => h) (Or.inl ⟨by rfl, ?_⟩) (bdr _) ?_
        · intro wq hSw; go_simp
        try simp only [Act.put, List.setIfInBounds_toArray, List.set_cons_zero, List.set_cons_succ]
        refine wpAnyH_ready (rs := [3, 5]) (by kernel_rfl) (by simp) ?_
        refine AllReadyH.cons rfl (fun K hK => ?_) (AllReadyH.cons rfl (fun K hK => ?_) AllReadyH.nil)
        · go_simp
          refine (unhide cL _ (bdr _)).mono ?_
          rintro e w7 ⟨rfl, b7⟩
          have B7 := vbup (bdr (wr.alloc (.cells #[.int .u8 pt, .bool pu] 27))) b7
          try go_simp
          refine hK.out _ _ B7 (fun hHeld => ?_)
          clear hK K
          try simp only [Act.put, List.setIfInBounds_toArray, List.set_cons_zero, List.set_cons_succ]
          refine wpAnyH_take (i := 4) (v := .agg #[.int .u8 pt, .bool pu, .bool LB, .int .i64 0, .int .i64 0, .int .u64 0, .string ⟨#[]⟩, .bool false, .int .i64 0, .int .i64 0, .int .i64 0, .int .i64 0, .int .i64 0, .int .i64 0, .int .i64 0]) rfl (by kernel_rfl) (by kernel_rfl) (by kernel_rfl) (fun _ _ _ h => h) (Or.inl ⟨by rfl, ?_⟩) B7 ?_
          · intro wq hSw; go_simp
          try simp only [Act.put, List.setIfInBounds_toArray, List.set_cons_zero, List.set_cons_succ]
          refine wpAnyH_ready (rs := [5]) (by kernel_rfl) (by simp) ?_
          refine AllReadyH.cons rfl (fun K hK => ?_) AllReadyH.nil
          go_simp
          have B8 := vbup B7 (below_alloc w7 (.cells #[.int .u8 0, .bool false, .bool false, .int .i64 0, .int .i64 0, .int .u64 0, .string ⟨#[]⟩, .bool false, .int .i64 0, .int .i64 0, .int .i64 0, .int .i64 0, .int .i64 0, .int .i64 0, .int .i64 0] 34))
          refine hK.out _ _ B8 (fun hHeld => ?_)
          clear hK K
          try simp only [Act.put, List.setIfInBounds_toArray, List.set_cons_zero, List.set_cons_succ]
          refine wpAnyH_ready (rs := [6]) (by kernel_rfl) (by simp) ?_
          refine AllReadyH.cons rfl (fun K hK => ?_) AllReadyH.nil
          refine step_stG rfl 34 (.tmp 10) (.tmp 22) rfl w7.heap.size #[.int .u8 pt, .bool pu, .bool LB, .int .i64 0, .int .i64 0, .int .u64 0, .string ⟨#[]⟩, .bool false, .int .i64 0, .int .i64 0, .int .i64 0, .int .i64 0, .int .i64 0, .int .i64 0, .int .i64 0] #[.int .u8 0, .bool false, .bool false, .int .i64 0, .int .i64 0, .int .u64 0, .string ⟨#[]⟩, .bool false, .int .i64 0, .int .i64 0, .int .i64 0, .int .i64 0, .int .i64 0, .int .i64 0, .int .i64 0] rfl rfl (heap_alloc_new w7 _) (unhide SP) rfl (unhide OP) ?_
          intro w9 r9 g9
          have B9 := below_gb B8 g9 B7.size B8.size
          refine hK.out _ _ B9 (fun hHeld => ?_)
          clear hK K
          refine wpAnyH_done (by kernel_rfl) ?_ _
          try go_simp
          try simp only [Act.put, List.setIfInBounds_toArray, List.set_cons_zero, List.set_cons_succ]
          go_wp2_with fail
          go_meet
          exact ⟨w7.heap.size, rfl, r9, by have := B7.size; omega, B9⟩
        · go_simp
          have B5 := bda (wr.alloc (.cells #[.int .u8 pt, .bool pu] 27)) (.cells #[.int .u8 0, .bool false, .bool false, .int .i64 0, .int .i64 0, .int .u64 0, .string ⟨#[]⟩, .bool false, .int .i64 0, .int .i64 0, .int .i64 0, .int .i64 0, .int .i64 0, .int .i64 0, .int .i64 0] 34)
          have z5 : ((wr.alloc (.cells #[.int .u8 pt, .bool pu] 27)).drew.alloc (.cells #[.int .u8 0, .bool false, .bool false, .int .i64 0, .int .i64 0, .int .u64 0, .string ⟨#[]⟩, .bool false, .int .i64 0, .int .i64 0, .int .i64 0, .int .i64 0, .int .i64 0, .int .i64 0, .int .i64 0] 34)).heap[wr.heap.size + 1]? = some (.cells #[.int .u8 0, .bool false, .bool false, .int .i64 0, .int .i64 0, .int .u64 0, .string ⟨#[]⟩, .bool false, .int .i64 0, .int .i64 0, .int .i64 0, .int .i64 0, .int .i64 0, .int .i64 0, .int .i64 0] 34 (0, 0)) := zrB _ _ _ z1
          refine hK.out _ _ B5 (fun hHeld => ?_)
          clear hK K
          try simp only [Act.put, List.setIfInBounds_toArray, List.set_cons_zero, List.set_cons_succ]
          refine wpAnyH_ready (rs := [3]) (by kernel_rfl) (by simp) ?_
          refine AllReadyH.cons rfl (fun K hK => ?_) AllReadyH.nil
          go_simp
          refine (unhide cL _ B5).mono ?_
          rintro e w7 ⟨rfl, b7⟩
          have B7 := vbup B5 b7
          have z7 := vrow_later z5 b7
          try go_simp
          refine hK.out _ _ B7 (fun hHeld => ?_)
          clear hK K
          try simp only [Act.put, List.setIfInBounds_toArray, List.set_cons_zero, List.set_cons_succ]
          refine wpAnyH_take (i := 4) (v := .agg #[.int .u8 pt, .bool pu, .bool LB, .int .i64 0, .int .i64 0, .int .u64 0, .string ⟨#[]⟩, .bool false, .int .i64 0, .int .i64 0, .int .i64 0, .int .i64 0, .int .i64 0, .int .i64 0, .int .i64 0]) rfl (by kernel_rfl) (by kernel_rfl) (by kernel_rfl) (fun _ _ _ h => h) (Or.inl ⟨by rfl, ?_⟩) B7 ?_
          · intro wq hSw; go_simp
          try simp only [Act.put, List.setIfInBounds_toArray, List.set_cons_zero, List.set_cons_succ]
          refine wpAnyH_ready (rs := [6]) (by kernel_rfl) (by simp) ?_
          refine AllReadyH.cons rfl (fun K hK => ?_) AllReadyH.nil
          refine step_stG rfl 34 (.tmp 10) (.tmp 22) rfl (wr.heap.size + 1) #[.int .u8 pt, .bool pu, .bool LB, .int .i64 0, .int .i64 0, .int .u64 0, .string ⟨#[]⟩, .bool false, .int .i64 0, .int .i64 0, .int .i64 0, .int .i64 0, .int .i64 0, .int .i64 0, .int .i64 0] #[.int .u8 0, .bool false, .bool false, .int .i64 0, .int .i64 0, .int .u64 0, .string ⟨#[]⟩, .bool false, .int .i64 0, .int .i64 0, .int .i64 0, .int .i64 0, .int .i64 0, .int .i64 0, .int .i64 0] rfl rfl z7 (unhide SP) rfl (unhide OP) ?_
          intro w9 r9 g9
          have B9 := below_gb B7 g9 (Nat.le_of_eq z1) B7.size
          refine hK.out _ _ B9 (fun hHeld => ?_)
          clear hK K
          refine wpAnyH_done (by kernel_rfl) ?_ _
          try go_simp
          try simp only [Act.put, List.setIfInBounds_toArray, List.set_cons_zero, List.set_cons_succ]
          go_wp2_with fail
          go_meet
          exact ⟨wr.heap.size + 1, rfl, r9, by omega, B9⟩
      obtain ⟨g, rfl, hrow, hgg, hbw⟩ := hcut
      have BW := hide hbw
      have HROW := hide hrow
      have cg := vrow_cell hrow (j := 2) (v := .bool LB) rfl
      obtain ⟨c0, c1, c2, c3⟩ := unhide KS wc hbw
      have cI1 := hide (unhide cI wc hbw)
      clear cI cL
      cases LB
      · cases BT
        · have HP2 := hide (show pa1 nl lg ts j L = (⟨⟨pt, pu⟩, false, (rvP L pt pu).1⟩, (rvP L pt pu).2.1, (rvP L pt pu).2.2) from unhide HP L)
          have cV1 := hide (fun wx (hx : Below wc.heap.size wc wx) => unhide cV wx (vbup (unhide BW) hx))
          clear cV HP
          obtain ⟨RV, hRV⟩ : ∃ z, z = rvP L pt pu := ⟨_, rfl⟩
          rw [← hRV] at cV1 HP2
          clear hRV
          obtain ⟨V, RL, RE⟩ := RV
          obtain ⟨k, i, b9, tx, ⟨ng, y, mo, d, hh, mi, s, mc⟩⟩ := V
          unfold OutV vaC at cV1
          simp only at cV1 HP2
          have SV := hide (show (Try.prog.info? 32).map (·.size) = some (#[.int .i64 k, .int .i64 i, .int .u64 b9, .string tx, .bool ng, .int .i64 y, .int .i64 mo, .int .i64 d, .int .i64 hh, .int .i64 mi, .int .i64 s, .int .i64 mc] : Array Value).size by kernel_rfl)
          have OV := hide (show (#[.int .i64 k, .int .i64 i, .int .u64 b9, .string tx, .bool ng, .int .i64 y, .int .i64 mo, .int .i64 d, .int .i64 hh, .int .i64 mi, .int .i64 s, .int .i64 mc] : Array Value).all (·.oneCell') = true by simp [Value.oneCell'])
          by_cases hE : RE ≠ 0
          · have gE : (RE != 0) = true := by simpa using hE
            have HR2 := hide (show RES = ([], RE) by rw [unhide HR, unhide HX RE (by rw [unhide HP2]) hE, if_pos hE])
            clear HX HN HP2 hE
            go_wp2_with (first | (go_at_call 44; (with_reducible refine (unhide cI1).mono ?_); rintro e w3 ⟨rfl, b3⟩; have B3c := hide b3; have B3 := hide (vbup (unhide BW) b3); have ROW3 := hide (vrow_later (unhide HROW) b3); obtain ⟨d0, d1, d2, d3⟩ := unhide KS w3 (vbup (unhide BW) b3); clear b3) | (go_at_call 48; (with_reducible refine (unhide cV1 _ (unhide B3c)).mono ?_); rintro e w4 ⟨yo, yn, yc, rfl, hy, b4⟩; have HY := hide hy; have B4 := hide (vbup (unhide B3) b4); have ROW4 := hide (vrow_later (unhide ROW3) b4); clear b4 hy) | ((with_reducible show wpList Try.prog _ _ (Oper.mk _ (Op.store 32 _ _) _ _ _ none :: _) _ _); refine wpList_stS rfl _ (.tmp 39) (.tmp 36) rfl g 3 #[.int .i64 k, .int .i64 i, .int .u64 b9, .string tx, .bool ng, .int .i64 y, .int .i64 mo, .int .i64 d, .int .i64 hh, .int .i64 mi, .int .i64 s, .int .i64 mc] #[.int .u8 pt, .bool pu, .bool false, .int .i64 0, .int .i64 0, .int .u64 0, .string ⟨#[]⟩, .bool false, .int .i64 0, .int .i64 0, .int .i64 0, .int .i64 0, .int .i64 0, .int .i64 0, .int .i64 0] 34 (by simp [Act.eval, Act.put]) (by simp [Act.eval, Act.put]) (unhide ROW4) (unhide SV) rfl (unhide OV) ?_; intro w5 r5 g5; have B5 := hide (below_gb (unhide B4) g5 (Nat.le_trans (Nat.le_of_eq z1) hgg) (unhide B4).size); have ROW5 := hide (app15 r5); clear r5 g5))
            go_ret2
            rw [unhide HR2]
            exact ⟨none, 0, 0, rfl, PaMine.nought _ _, vbup (vbup (unhide HB) (unhide Q1)) (unhide B5)⟩
          · have hE := Classical.not_not.1 hE
            subst hE
            have HN2 := hide (show gsA (pa1 nl lg ts) (j + 1) b = (PL ++ [⟨⟨pt, pu⟩, false, ⟨k, i, b9, tx, ⟨ng, y, mo, d, hh, mi, s, mc⟩⟩⟩], RL, 0) by rw [unhide HN, unhide HP2]; rfl)
            clear HX HN HP2
            go_wp2_with (first | (go_at_call 44; (with_reducible refine (unhide cI1).mono ?_); rintro e w3 ⟨rfl, b3⟩; have B3c := hide b3; have B3 := hide (vbup (unhide BW) b3); have ROW3 := hide (vrow_later (unhide HROW) b3); obtain ⟨d0, d1, d2, d3⟩ := unhide KS w3 (vbup (unhide BW) b3); clear b3) | (go_at_call 48; (with_reducible refine (unhide cV1 _ (unhide B3c)).mono ?_); rintro e w4 ⟨yo, yn, yc, rfl, hy, b4⟩; have HY := hide hy; have B4 := hide (vbup (unhide B3) b4); have ROW4 := hide (vrow_later (unhide ROW3) b4); clear b4 hy) | ((with_reducible show wpList Try.prog _ _ (Oper.mk _ (Op.store 32 _ _) _ _ _ none :: _) _ _); refine wpList_stS rfl _ (.tmp 39) (.tmp 36) rfl g 3 #[.int .i64 k, .int .i64 i, .int .u64 b9, .string tx, .bool ng, .int .i64 y, .int .i64 mo, .int .i64 d, .int .i64 hh, .int .i64 mi, .int .i64 s, .int .i64 mc] #[.int .u8 pt, .bool pu, .bool false, .int .i64 0, .int .i64 0, .int .u64 0, .string ⟨#[]⟩, .bool false, .int .i64 0, .int .i64 0, .int .i64 0, .int .i64 0, .int .i64 0, .int .i64 0, .int .i64 0] 34 (by simp [Act.eval, Act.put]) (by simp [Act.eval, Act.put]) (unhide ROW4) (unhide SV) rfl (unhide OV) ?_; intro w5 r5 g5; have B5 := hide (below_gb (unhide B4) g5 (Nat.le_trans (Nat.le_of_eq z1) hgg) (unhide B4).size); have ROW5 := hide (app15 r5); clear r5 g5; have BX := hide (vbup (vbup (unhide HB) (unhide Q1)) (unhide B5)); have MX := hide (((unhide HM).later (unhide Q1)).later (unhide B5)); have RX := hide (vrow_later (unhide RB) (unhide B5)); have SX := hide (sx_le hgs z1 (unhide B5).size)) | ((with_reducible show wpList Try.prog _ _ (Oper.mk _ (Op.load 34 _) _ _ _ none :: _) _ _); refine wpList_load_row rfl _ (.tmp 10) rfl g rfl _ #[.int .u8 pt, .bool pu, .bool false, .int .i64 k, .int .i64 i, .int .u64 b9, .string tx, .bool ng, .int .i64 y, .int .i64 mo, .int .i64 d, .int .i64 hh, .int .i64 mi, .int .i64 s, .int .i64 mc] (0, 0) _ (unhide ROW5) Try.underlying34 rfl (unhide SPP _ _ _ _ _ _ _ _ _ _ _ _ _ _ _) ?_) | (at_builtin; refine wpList_appP rfl (.tmp 43) (.tmp 45) rfl (w.heap.size + 1) xo j xc PL (by simp [Act.eval, Act.put]) ((unhide MX).later (below_alloc w5 _)) w5.heap.size ⟨⟨pt, pu⟩, false, ⟨k, i, b9, tx, ⟨ng, y, mo, d, hh, mi, s, mc⟩⟩⟩ (by simp [Act.eval, Act.put]) (AtP.of_row (heap_alloc_new w5 _)) (by omega) (Nat.le_trans (unhide SX) (below_alloc w5 _).size) ?_; intro a5 c5 w9 m5 b5; have M5 := hide m5; have HB5 := hide ((vbup (unhide BX) (below_alloc w5 _)).trans (b5.mono (Nat.le_succ _))); have RB5 := hide ((b5.block _ (Nat.lt_succ_self _)).trans (vrow_later (unhide RX) (below_alloc w5 _))); clear m5 b5))
            go_roundw
            case rel => exact ⟨j + 1, yo, yn, yc, a5, c5, by omega, by go_num, rfl, rfl, rfl, by rw [unhide HN2], by rw [unhide HN2]; exact fun wx hx => unhide HY wx (unhide HC wx hx), by rw [unhide HN2]; exact unhide M5, unhide RB5, unhide HB5⟩
            case measure => simp [intOf]; omega
        · have HP2 := hide (show pa1 nl lg ts j L = (⟨⟨pt, pu⟩, false, va0⟩, L, 0) from unhide HP L)
          have HN2 := hide (show gsA (pa1 nl lg ts) (j + 1) b = (PL ++ [⟨⟨pt, pu⟩, false, va0⟩], L, 0) by rw [unhide HN, unhide HP2]; rfl)
          clear HX HN HP2 HP cV
          go_wp2_with (first | (go_at_call 44; (with_reducible refine (unhide cI1).mono ?_); rintro e w3 ⟨rfl, b3⟩; have B3c := hide b3; have B3 := hide (vbup (unhide BW) b3); have ROW3 := hide (vrow_later (unhide HROW) b3); obtain ⟨d0, d1, d2, d3⟩ := unhide KS w3 (vbup (unhide BW) b3); clear b3; have BX := hide (vbup (vbup (unhide HB) (unhide Q1)) (unhide B3)); have MX := hide (((unhide HM).later (unhide Q1)).later (unhide B3)); have RX := hide (vrow_later (unhide RB) (unhide B3)); have SX := hide (sx_le hgs z1 (unhide B3).size)) | ((with_reducible show wpList Try.prog _ _ (Oper.mk _ (Op.load 34 _) _ _ _ none :: _) _ _); refine wpList_load_row rfl _ (.tmp 10) rfl g rfl _ #[.int .u8 pt, .bool pu, .bool false, .int .i64 0, .int .i64 0, .int .u64 0, .string ⟨#[]⟩, .bool false, .int .i64 0, .int .i64 0, .int .i64 0, .int .i64 0, .int .i64 0, .int .i64 0, .int .i64 0] (0, 0) _ (unhide ROW3) Try.underlying34 rfl (unhide SPP _ _ _ _ _ _ _ _ _ _ _ _ _ _ _) ?_) | (at_builtin; refine wpList_appP rfl (.tmp 43) (.tmp 45) rfl (w.heap.size + 1) xo j xc PL (by simp [Act.eval, Act.put]) ((unhide MX).later (below_alloc w3 _)) w3.heap.size ⟨⟨pt, pu⟩, false, ⟨0, 0, 0, ⟨#[]⟩, ⟨false, 0, 0, 0, 0, 0, 0, 0⟩⟩⟩ (by simp [Act.eval, Act.put]) (AtP.of_row (heap_alloc_new w3 _)) (by omega) (Nat.le_trans (unhide SX) (below_alloc w3 _).size) ?_; intro a5 c5 w9 m5 b5; have M5 := hide m5; have HB5 := hide ((vbup (unhide BX) (below_alloc w3 _)).trans (b5.mono (Nat.le_succ _))); have RB5 := hide ((b5.block _ (Nat.lt_succ_self _)).trans (vrow_later (unhide RX) (below_alloc w3 _))); clear m5 b5))
          go_roundw
          case rel => exact ⟨j + 1, lo, ln, lc, a5, c5, by omega, by go_num, rfl, rfl, rfl, by rw [unhide HN2], by rw [unhide HN2]; exact unhide HC, by rw [unhide HN2]; exact unhide M5, unhide RB5, unhide HB5⟩
          case measure => simp [intOf]; omega
      · have HP2 := hide (show pa1 nl lg ts j L = (⟨⟨pt, pu⟩, true, va0⟩, L, 0) from unhide HP L)
        have HN2 := hide (show gsA (pa1 nl lg ts) (j + 1) b = (PL ++ [⟨⟨pt, pu⟩, true, va0⟩], L, 0) by rw [unhide HN, unhide HP2]; rfl)
        have BX := hide (vbup (vbup (unhide HB) (unhide Q1)) (unhide BW))
        have MX := hide (((unhide HM).later (unhide Q1)).later (unhide BW))
        have RX := hide (vrow_later (unhide RB) (unhide BW))
        have SX := hide (sx_le hgs z1 (unhide BW).size)
        clear HX HN HP2 HP cV cI1
        go_wp2_with (first | ((with_reducible show wpList Try.prog _ _ (Oper.mk _ (Op.load 34 _) _ _ _ none :: _) _ _); refine wpList_load_row rfl _ (.tmp 10) rfl g rfl _ #[.int .u8 pt, .bool pu, .bool true, .int .i64 0, .int .i64 0, .int .u64 0, .string ⟨#[]⟩, .bool false, .int .i64 0, .int .i64 0, .int .i64 0, .int .i64 0, .int .i64 0, .int .i64 0, .int .i64 0] (0, 0) _ (unhide HROW) Try.underlying34 rfl (unhide SPP _ _ _ _ _ _ _ _ _ _ _ _ _ _ _) ?_) | (at_builtin; refine wpList_appP rfl (.tmp 43) (.tmp 45) rfl (w.heap.size + 1) xo j xc PL (by simp [Act.eval, Act.put]) ((unhide MX).later (below_alloc wc _)) wc.heap.size ⟨⟨pt, pu⟩, true, ⟨0, 0, 0, ⟨#[]⟩, ⟨false, 0, 0, 0, 0, 0, 0, 0⟩⟩⟩ (by simp [Act.eval, Act.put]) (AtP.of_row (heap_alloc_new wc _)) (by omega) (Nat.le_trans (unhide SX) (below_alloc wc _).size) ?_; intro a5 c5 w9 m5 b5; have M5 := hide m5; have HB5 := hide ((vbup (unhide BX) (below_alloc wc _)).trans (b5.mono (Nat.le_succ _))); have RB5 := hide ((b5.block _ (Nat.lt_succ_self _)).trans (vrow_later (unhide RX) (below_alloc wc _))); clear m5 b5))
        go_roundw
        case rel => exact ⟨j + 1, lo, ln, lc, a5, c5, by omega, by go_num, rfl, rfl, rfl, by rw [unhide HN2], by rw [unhide HN2]; exact unhide HC, by rw [unhide HN2]; exact unhide M5, unhide RB5, unhide HB5⟩
        case measure => simp [intOf]; omega
    · have hjn : j = m := by omega
      subst hjn
      have hlj : ¬ ((j : Nat) : Int) < (j : Int) := by omega
      have cE := hide (ended_any lo ln lc _ wr hbs)
      have HR2 := hide (show RES = if (gsA (pa1 nl lg ts) j b).2.1.length ≠ 0 then ([], 5) else ((gsA (pa1 nl lg ts) j b).1, 0) by rw [unhide HR, if_neg (fun z => z h0)])
      clear hbs hll hlb HR HPL
      generalize gsA (pa1 nl lg ts) j b = ST at *
      by_cases hz : ST.2.1.length = 0
      · rw [if_pos hz] at cE
        have HR3 := hide (show RES = (ST.1, 0) by rw [unhide HR2, if_neg (fun z => z hz)])
        clear hz HR2
        go_wp2_with (go_at_call 22; refine same_world (unhide cE) ?_)
        go_ret2
        rw [unhide HR3]
        exact ⟨xo, j, xc, rfl, (unhide HM).mono (Nat.le_succ _), unhide HB⟩
      · rw [if_neg hz] at cE
        have HR3 := hide (show RES = ([], 5) by rw [unhide HR2, if_pos hz])
        clear hz HR2
        go_wp2_with (go_at_call 22; refine same_world (unhide cE) ?_)
        go_ret2
        rw [unhide HR3]
        exact ⟨none, 0, 0, rfl, PaMine.nought _ _, unhide HB⟩


end Go.Proofs.Ytfgghgoonfamkaa
