/-
  What the two closures of ReadText return: the next value, and whether all is read; what is left then. They write nothing but what is left. Conditions: what is left can be read, and lies ahead of its own variable; at most 100,000 bytes.
-/
import Derived.Test.YtkcblnojgonblaaGreatDoorRwCut
import Derived.Deep.RegionWith
import Derived.BigRegion
namespace Go.Proofs.YtkcblnojgonblaaGreatDoor
open Go.RowKit
set_option linter.unusedVariables false
set_option linter.unusedSimpArgs false

/-- Block g is one cell. -/
def One (w : World) (g : Nat) (t : TypeId) (v : Value) : Prop := w.heap[g]? = some (.cells #[v] t (0, 0))
theorem One.lt {w : World} {g : Nat} {t : TypeId} {v : Value} (h : One w g t v) : g < w.heap.size := (Array.getElem?_eq_some_iff.1 h).1
theorem One.later {w w' : World} {g : Nat} {t : TypeId} {v : Value} (h : One w g t v) (hb : Below w.heap.size w w') : One w' g t v := by
  unfold One
  rw [hb.block g h.lt]
  exact h
theorem One.cell {w : World} {g : Nat} {t : TypeId} {v : Value} (h : One w g t v) : w.cell? ⟨g, 0, none⟩ = some v := by
  rw [cell_of_row w g 0 _ _ _ h]; rfl
theorem One.free {w : World} {g : Nat} {t : TypeId} {v : Value} (h : One w g t v) : w.frozen? ⟨g, 0, none⟩ = false := frozen_of_row w g 0 _ _ h
theorem One.stored {w : World} {g : Nat} {t : TypeId} {v : Value} (h : One w g t v) (u : Value) : One (w.setCell ⟨g, 0, none⟩ u) g t u := by
  unfold One
  rw [heap_setCell_same w g 0 _ _ _ h]; rfl
theorem Bs.keep0 {q : Nat} {w w' : World} {lo : Option Addr} {ln lc : Nat} {b : List Int} (h : Bs w lo ln lc b) (h3 : ln = 0 ∨ ∀ k, ob lo k → k < q) (hk : ∀ k, k < q → k < w.heap.size → w'.heap[k]? = w.heap[k]?) : Bs w' lo ln lc b := by
  rcases h3 with h0 | h3
  · exact ⟨h.len, h.le, h.max, h.nil, h.byt, .inl h0⟩
  · exact h.keepB (fun k hq hl => hk k (h3 k hq) hl)
/-- What is left: its variable in block q, its bytes ahead of it. -/
structure Lf (q : Nat) (b : List Int) (w : World) : Prop where
  h : ∃ lo ln lc, One w q 29 (.slice lo ln lc) ∧ Bs w lo ln lc b ∧ (ln = 0 ∨ ∀ k, ob lo k → k < q)
theorem Lf.later {q : Nat} {b : List Int} {w w' : World} (h : Lf q b w) (hb : Below w.heap.size w w') : Lf q b w' := by
  obtain ⟨lo, ln, lc, h1, h2, h3⟩ := h.h
  exact ⟨lo, ln, lc, h1.later hb, h2.later hb, h3⟩
theorem Lf.put {q : Nat} {b' : List Int} {w w' : World} {lo : Option Addr} {ln lc : Nat} (h1 : One w' q 29 (.slice lo ln lc)) (h2 : Bs w lo ln lc b') (h3 : ln = 0 ∨ ∀ k, ob lo k → k < q) (hg : Gb q w w') : Lf q b' w' :=
  ⟨lo, ln, lc, h1, h2.keep0 h3 (fun k hk hl => hg.block k hl (by omega)), h3⟩
/-- A value of a text row, what is left behind it, the error. -/
def tn (b : List Int) : Va × List Int × Int := if b.head? = some 251 then (va0, b.drop 1, 0) else ((rdV b 253 false).1, rdL b 253 false, (rdV b 253 false).2.2)
theorem gb_old {q A : Nat} {w w2 w3 : World} (hb : Below w.heap.size w w2) (hA : w.heap.size ≤ A) (hg : Gb A w2 w3) (hq : q < w.heap.size) : Gb q w w3 :=
  ⟨hg.os.trans hb.os, hg.tape.trans hb.tape, hg.output.trans hb.output, Nat.le_trans hb.size hg.size, fun k hk _ => (hg.block k (Nat.lt_of_lt_of_le hk hb.size) (by omega)).trans (hb.block k hk)⟩
theorem gb_up' {q : Nat} {w w2 w3 : World} (h : Gb q w w2) (hb : Below w2.heap.size w2 w3) : Gb q w w3 :=
  ⟨hb.os.trans h.os, hb.tape.trans h.tape, hb.output.trans h.output, Nat.le_trans h.size hb.size, fun k hk hq => (hb.block k (Nat.lt_of_lt_of_le hk h.size)).trans (h.block k hk hq)⟩
theorem Lf.gb {q A : Nat} {b : List Int} {w w' : World} (h : Lf q b w) (hg : Gb A w w') (hq : q < A) : Lf q b w' := by
  obtain ⟨lo, ln, lc, h1, h2, h3⟩ := h.h
  exact ⟨lo, ln, lc, (hg.block q h1.lt (by omega)).trans h1, h2.keep0 h3 (fun k hk hl => hg.block k hl (by omega)), h3⟩

set_option maxHeartbeats 4000000 in
set_option maxRecDepth 100000 in
theorem tend_any (q : Nat) (b : List Int) (w : World) (h : Lf q b w) :
    Calls Tryz.prog 33 #[.pointer (some ⟨q, 0, none⟩)] w fun e w' => e = .returned (.bool (b.length == 0)) ∧ w' = w := by
  obtain ⟨lo, ln, lc, h1, h2, h3⟩ := h.h
  have c0 := h1.cell
  have hl := h2.len
  have hle := h2.le
  have hmx := h2.max
  have HE := hide (show ((ln : Int) == 0) = (b.length == 0) by
    rw [hl]
    by_cases hz : ln = 0
    · subst hz; rfl
    · have h4 : ¬ (ln : Int) = 0 := by omega
      rw [beq_eq_false_iff_ne.2 h4, beq_eq_false_iff_ne.2 hz])
  clear h h1 h2 h3 hl
  go_enter Tryz.func33, Tryz.ntmps33
  go_wp2_with fail
  go_ret
  refine ⟨?_, rfl⟩
  rw [← unhide HE]
  rfl

theorem results_r1 {P : Program} {fn : Func} {p u : Tmp} {ty : TypeId} (h : fn.results = #[.cell p ty, .tmp u]) (tmps : Array Value) (w : World) (g : Nat) (cs : Array Value) (hp : tmps.getD p undef = .pointer (some ⟨g, 0, none⟩)) (hl : (loadVar ty ⟨g, 0, none⟩).run P w = .ok (.agg cs) w) :
    (results fn tmps).run P w = .ok (.tuple #[.agg cs, tmps.getD u undef]) w := by
  have hp' : tmps[p]?.getD undef = .pointer (some ⟨g, 0, none⟩) := by simpa using hp
  simp [results, h, Sem.run_bind, Result.andThen, hp', asAddr, hl]
theorem gb_3 {q A : Nat} {w w1 w2 w3 : World} (hb : Below w.heap.size w w1) (h2 : Gb q w1 w2) (h3 : Gb A w2 w3) (hA : w.heap.size ≤ A) : Gb q w w3 :=
  ⟨h3.os.trans (h2.os.trans hb.os), h3.tape.trans (h2.tape.trans hb.tape), h3.output.trans (h2.output.trans hb.output), Nat.le_trans hb.size (Nat.le_trans h2.size h3.size), fun k hk hq =>
    (h3.block k (by have := hb.size; have := h2.size; omega) (by omega)).trans ((h2.block k (by have := hb.size; omega) hq).trans (hb.block k hk))⟩
theorem gb_1 {w : World} {g i : Nat} {v : Value} : Gb g w (w.setCell ⟨g, i, none⟩ v) := ⟨rfl, rfl, rfl, by simp, fun k _ hk => heap_setCell_other _ _ _ _ hk⟩
theorem gb_34 {q A : Nat} {w w1 w2 : World} (hb : Below w.heap.size w w1) (h3 : Gb A w1 w2) (hA : w.heap.size ≤ A) (hq : q < w.heap.size) : Below w.heap.size w w2 :=
  ⟨h3.os.trans hb.os, h3.tape.trans hb.tape, h3.output.trans hb.output, Nat.le_trans hb.size h3.size, fun k hk => (h3.block k (by have := hb.size; omega) (by omega)).trans (hb.block k hk)⟩
theorem gb_5 {q A : Nat} {w w1 w2 w3 : World} (hb : Below w.heap.size w w1) (h2 : Gb q w1 w2) (h3 : Gb A w2 w3) (hA : w.heap.size ≤ A) : Gb q w w3 := gb_3 hb h2 h3 hA
theorem run_cells' (w : World) (g : Nat) (T : TypeId) (old CS : Array Value) (hg : w.heap[g]? = some (.cells old T (0, 0))) (ho : old.size = CS.size) (h1 : CS.all (·.oneCell') = true) : Sem.run Tryz.prog (storeCells ⟨g, 0, none⟩ CS.toList) w = .ok () (w.setRow g CS) := by
  have := run_storeCells_from (P := Tryz.prog) g T CS.toList 0 old w hg (by simp; omega) (fun v hv => (Array.all_eq_true_iff_forall_mem.1 h1) v (by simpa using hv))
  simpa using this
theorem st_old' (w : World) (g : Nat) (T : TypeId) (old CS : Array Value) (hg : w.heap[g]? = some (.cells old T (0, 0))) (ho : old.size = CS.size) (h1 : CS.all (·.oneCell') = true) : ∃ wS, Sem.run Tryz.prog (storeCells ⟨g, 0, none⟩ CS.toList) w = .ok () wS ∧ wS.heap[g]? = some (.cells CS T (0, 0)) ∧ Gb g w wS :=
  ⟨_, run_cells' w g T old CS hg ho h1, setRow_heap w g _ _ _ _ hg, ⟨rfl, rfl, rfl, by simp, fun j _ hj => setRow_other w g j _ hj⟩⟩

set_option maxHeartbeats 4000000 in
set_option maxRecDepth 100000 in
theorem tnext_null (q : Nat) (b : List Int) (i : Int) (w : World) (h : Lf q b w) (hm : b.head? = some 251) :
    Calls Tryz.prog 31 #[.int .i64 i, .pointer (some ⟨q, 0, none⟩)] w fun e w' => e = .returned (.tuple #[.agg (vaC va0), .int .i64 0]) ∧ Lf q (b.drop 1) w' ∧ Gb q w w' := by
  obtain ⟨lo, ln, lc, h1, h2, h3⟩ := h.h
  have hl := h2.len
  have hle := h2.le
  have hmx := h2.max
  have hq := h1.lt
  have b1 := below_alloc w (.cells #[.int .i64 0, .int .i64 0, .int .u64 0, .string ⟨#[]⟩, .bool false, .int .i64 0, .int .i64 0, .int .i64 0, .int .i64 0, .int .i64 0, .int .i64 0, .int .i64 0] 38)
  have r1 := heap_alloc_new w (.cells #[.int .i64 0, .int .i64 0, .int .u64 0, .string ⟨#[]⟩, .bool false, .int .i64 0, .int .i64 0, .int .i64 0, .int .i64 0, .int .i64 0, .int .i64 0, .int .i64 0] 38)
  have hb0 : 0 < ln := by
    cases b with
    | nil => simp at hm
    | cons x r => simp at hl; omega
  obtain ⟨cb, co, hix, hcx⟩ := (h2.later b1).idx hb0 0 rfl
  have hx : b[0]?.getD 0 = 251 := by
    cases b with
    | nil => simp at hm
    | cons x r => simpa using hm
  rw [hx] at hcx
  obtain ⟨lo2, lc2, hcut, hlb, hob⟩ := h2.cutl (lo := 1) (by omega) 1 rfl
  have H1 := h1.later b1
  have c0 := H1.cell
  have f0 := H1.free
  have O2 := hide (h1.stored (.slice lo2 (ln - 1) lc2))
  have RN := hide (show ((w.setCell ⟨q, 0, none⟩ (.slice lo2 (ln - 1) lc2)).alloc (.cells #[.int .i64 0, .int .i64 0, .int .u64 0, .string ⟨#[]⟩, .bool false, .int .i64 0, .int .i64 0, .int .i64 0, .int .i64 0, .int .i64 0, .int .i64 0, .int .i64 0] 38)).heap[w.heap.size]? = some (.cells #[.int .i64 0, .int .i64 0, .int .u64 0, .string ⟨#[]⟩, .bool false, .int .i64 0, .int .i64 0, .int .i64 0, .int .i64 0, .int .i64 0, .int .i64 0, .int .i64 0] 38 (0, 0)) by
    have q2 := heap_alloc_new (w.setCell ⟨q, 0, none⟩ (.slice lo2 (ln - 1) lc2)) (.cells #[.int .i64 0, .int .i64 0, .int .u64 0, .string ⟨#[]⟩, .bool false, .int .i64 0, .int .i64 0, .int .i64 0, .int .i64 0, .int .i64 0, .int .i64 0, .int .i64 0] 38)
    rw [show (w.setCell ⟨q, 0, none⟩ (.slice lo2 (ln - 1) lc2)).heap.size = w.heap.size by simp] at q2
    exact q2)
  have S0 := hide (vaC_size va0)
  have HLB := hide hlb
  have HOB := hide (show ln - 1 = 0 ∨ ∀ k, ob lo2 k → k < q from h3.elim (fun z => Or.inl (by omega)) (fun z => Or.inr (fun k hk => z k (hob k hk))))
  clear h h1 h2 h3 hm hx hlb hob r1 H1 b1
  go_enter Tryz.func31, Tryz.ntmps31
  go_wp2_with fail
  refine bodyPost_ret (results_r1 rfl _ _ w.heap.size _ rfl (run_loadVar_row _ w.heap.size _ _ _ _ _ (unhide RN) Tryz.underlying38 rfl (unhide S0))) rfl ?_
  exact ⟨rfl, (Lf.put (unhide O2) (unhide HLB) (unhide HOB) gb_1).later (below_alloc _ _), gb_up' gb_1 (below_alloc _ _)⟩

set_option maxHeartbeats 4000000 in
set_option maxRecDepth 100000 in
theorem tnext_read (q : Nat) (b : List Int) (i : Int) (w : World) (h : Lf q b w) (hn : b.length ≤ 100000) (hm : ¬ b.head? = some 251) :
    Calls Tryz.prog 31 #[.int .i64 i, .pointer (some ⟨q, 0, none⟩)] w fun e w' => e = .returned (.tuple #[.agg (vaC (rdV b 253 false).1), .int .i64 (rdV b 253 false).2.2]) ∧ Lf q (rdL b 253 false) w' ∧ Gb q w w' := by
  obtain ⟨lo, ln, lc, h1, h2, h3⟩ := h.h
  have hl := h2.len
  have hle := h2.le
  have hmx := h2.max
  have hq := h1.lt
  have b1 := below_alloc w (.cells #[.int .i64 0, .int .i64 0, .int .u64 0, .string ⟨#[]⟩, .bool false, .int .i64 0, .int .i64 0, .int .i64 0, .int .i64 0, .int .i64 0, .int .i64 0, .int .i64 0] 38)
  have r1 := heap_alloc_new w (.cells #[.int .i64 0, .int .i64 0, .int .u64 0, .string ⟨#[]⟩, .bool false, .int .i64 0, .int .i64 0, .int .i64 0, .int .i64 0, .int .i64 0, .int .i64 0, .int .i64 0] 38)
  have z1 : (w.alloc (.cells #[.int .i64 0, .int .i64 0, .int .u64 0, .string ⟨#[]⟩, .bool false, .int .i64 0, .int .i64 0, .int .i64 0, .int .i64 0, .int .i64 0, .int .i64 0, .int .i64 0] 38)).heap.size = w.heap.size + 1 := by simp
  have H1 := hide (h1.later b1)
  have cC := hide (fun wx (hx : Below (w.alloc (.cells #[.int .i64 0, .int .i64 0, .int .u64 0, .string ⟨#[]⟩, .bool false, .int .i64 0, .int .i64 0, .int .i64 0, .int .i64 0, .int .i64 0, .int .i64 0, .int .i64 0] 38)).heap.size (w.alloc (.cells #[.int .i64 0, .int .i64 0, .int .u64 0, .string ⟨#[]⟩, .bool false, .int .i64 0, .int .i64 0, .int .i64 0, .int .i64 0, .int .i64 0, .int .i64 0, .int .i64 0] 38)) wx) => cut_any lo ln lc b 253 false wx (by decide) (by decide) ((h2.later b1).later hx) (by omega))
  have KL := hide (fun wx (hx : Below (w.alloc (.cells #[.int .i64 0, .int .i64 0, .int .u64 0, .string ⟨#[]⟩, .bool false, .int .i64 0, .int .i64 0, .int .i64 0, .int .i64 0, .int .i64 0, .int .i64 0, .int .i64 0] 38)).heap.size (w.alloc (.cells #[.int .i64 0, .int .i64 0, .int .u64 0, .string ⟨#[]⟩, .bool false, .int .i64 0, .int .i64 0, .int .i64 0, .int .i64 0, .int .i64 0, .int .i64 0, .int .i64 0] 38)) wx) => (unhide H1).later hx)
  have KR := hide (fun wx (hx : Below (w.alloc (.cells #[.int .i64 0, .int .i64 0, .int .u64 0, .string ⟨#[]⟩, .bool false, .int .i64 0, .int .i64 0, .int .i64 0, .int .i64 0, .int .i64 0, .int .i64 0, .int .i64 0] 38)).heap.size (w.alloc (.cells #[.int .i64 0, .int .i64 0, .int .u64 0, .string ⟨#[]⟩, .bool false, .int .i64 0, .int .i64 0, .int .i64 0, .int .i64 0, .int .i64 0, .int .i64 0, .int .i64 0] 38)) wx) => vrow_later r1 hx)
  have c0 := (unhide H1).cell
  obtain ⟨CS, hCS⟩ : ∃ z, z = vaC (rdV b 253 false).1 := ⟨_, rfl⟩
  rw [← hCS] at cC ⊢
  have hCZ : CS.size = 12 := by rw [hCS]; rfl
  have HC1 := hide (show CS.all (·.oneCell') = true by rw [hCS]; exact vaC_one _)
  have SC := hide (show (Tryz.prog.info? 38).map (·.size) = some CS.size by rw [hCS]; exact vaC_size _)
  have hLL : (rdL b 253 false).length ≤ b.length := by unfold rdL; simp
  generalize rdL b 253 false = LL at *
  generalize (rdV b 253 false).2.2 = E at *
  have B1 := hide b1
  have H3 := hide h3
  have d1 := below_drew (w.alloc (.cells #[.int .i64 0, .int .i64 0, .int .u64 0, .string ⟨#[]⟩, .bool false, .int .i64 0, .int .i64 0, .int .i64 0, .int .i64 0, .int .i64 0, .int .i64 0, .int .i64 0] 38))
  have hcond : (0 < ln → ∃ cb co, (∀ wx, (Instr.indexAt 29 (.slice lo ln lc) (.int .i64 0)).run Tryz.prog wx = .ok (.pointer (some ⟨cb, co, none⟩)) wx) ∧ (w.alloc (.cells #[.int .i64 0, .int .i64 0, .int .u64 0, .string ⟨#[]⟩, .bool false, .int .i64 0, .int .i64 0, .int .i64 0, .int .i64 0, .int .i64 0, .int .i64 0, .int .i64 0] 38)).cell? ⟨cb, co, none⟩ = some (.int .u8 (b[0]?.getD 0))) := fun hz => (h2.later b1).idx hz 0 rfl
  have hnx : 0 < ln → ¬ b[0]?.getD 0 = 251 := by
    intro hz
    cases b with
    | nil => simp at hl; omega
    | cons x r => simpa using hm
  clear h h1 h2 h3 b1 r1 hCS
  go_enter Tryz.func31, Tryz.ntmps31
  by_cases hz : 0 < ln
  · obtain ⟨cb, co, hix, hcx⟩ := hcond hz
    have hx := hnx hz
    have g1 : (0 : Int) < (ln : Int) := by omega
    generalize b[0]?.getD 0 = X at *
    have g2 : (X == 251) = false := by simpa using hx
    go_upto_region 4 with fail
    go_region_with (first | (go_at_call 32; (with_reducible refine (textType_any _).mono ?_); rintro e w3 ⟨rfl, b3'⟩; have b3 := d1.trans (b3'.mono d1.size); have c3 := (unhide KL _ b3).cell) | (go_at_call 25; (with_reducible refine (unhide cC _ b3).mono ?_); rintro e w4 ⟨lo2, ln2, lc2, rfl, hb4, hob4, b4'⟩; have b4 := b3.trans (b4'.mono b3.size); have O4 := hide (unhide KL _ b4); have c4 := (unhide O4).cell; have f4 := (unhide O4).free; obtain ⟨wS, hst, rS, gS⟩ := st_old' w4 w.heap.size 38 #[.int .i64 0, .int .i64 0, .int .u64 0, .string ⟨#[]⟩, .bool false, .int .i64 0, .int .i64 0, .int .i64 0, .int .i64 0, .int .i64 0, .int .i64 0, .int .i64 0] CS (unhide KR _ b4) (by rw [hCZ]; rfl) (unhide HC1); have OS := hide (show One wS q 29 (.slice lo ln lc) from (gS.block q (unhide O4).lt (by omega)).trans (unhide O4)); have cS := (unhide OS).cell; have fS := (unhide OS).free; obtain ⟨wT, hst2, rT, gT⟩ := st_old' (w4.setCell ⟨q, 0, none⟩ (.slice lo2 ln2 lc2)) w.heap.size 38 #[.int .i64 0, .int .i64 0, .int .u64 0, .string ⟨#[]⟩, .bool false, .int .i64 0, .int .i64 0, .int .i64 0, .int .i64 0, .int .i64 0, .int .i64 0, .int .i64 0] CS ((heap_setCell_other w4 ⟨q, 0, none⟩ w.heap.size _ (by show w.heap.size ≠ q; omega)).trans (unhide KR _ b4)) (by rw [hCZ]; rfl) (unhide HC1); have HB4 := hide hb4; have HO4 := hide (show ln2 = 0 ∨ ∀ k, ob lo2 k → k < q from (unhide H3).elim (fun z => Or.inl (by have := hb4.len; omega)) (fun z => Or.inr (fun k hk => z k (hob4 k hk)))); have B4 := hide ((unhide B1).trans (b4.mono (unhide B1).size)); have RS := hide rS; have GS := hide gS; have RT := hide rT; have GT := hide gT; clear hb4 hob4 b4 b4' b3 b3' rS gS rT gT))
    all_goals
      have R6 := hide (show (wS.setCell ⟨q, 0, none⟩ (.slice lo2 ln2 lc2)).heap[w.heap.size]? = some (.cells CS 38 (0, 0)) from (heap_setCell_other wS ⟨q, 0, none⟩ w.heap.size _ (by show w.heap.size ≠ q; omega)).trans (unhide RS))
      have OX := hide ((unhide OS).stored (.slice lo2 ln2 lc2))
      have BX := hide ((unhide HB4).keep0 (unhide HO4) (fun k hk hl => (unhide GS).block k hl (by omega)))
      have GX := hide (gb_34 (unhide B4) (unhide GS) (Nat.le_refl _) hq)
      clear RS OS HB4 GS B4 c4 f4 cS fS hst hst2 RT GT
      go_wp2_with (first | (with_reducible show wpList Tryz.prog _ _ (Oper.mk _ (Op.load 38 _) _ _ _ none :: _) _ _; refine wpList_load_row rfl _ (.tmp 3) rfl w.heap.size rfl _ CS (0, 0) _ (unhide R6) Tryz.underlying38 rfl (unhide SC) ?_) | (with_reducible show wpList Tryz.prog _ _ (Oper.mk _ (Op.store 38 _ _) _ _ _ none :: _) _ _; refine wpList_stG rfl _ (.tmp 3) (.tmp 24) rfl w.heap.size CS CS (by simp [Act.eval, Act.put]) (by simp [Act.eval, Act.put]) (unhide R6) (unhide SC) rfl (unhide HC1) ?_; intro w7 r7 g7 s7))
      refine bodyPost_ret (results_r1 rfl _ _ w.heap.size _ rfl (run_loadVar_row _ w.heap.size _ _ _ _ _ r7 Tryz.underlying38 rfl (unhide SC))) rfl ?_
      exact ⟨rfl, (Lf.put (unhide OX) (unhide BX) (unhide HO4) gb_1).gb g7 hq, gb_5 (unhide GX) gb_1 g7 (Nat.le_refl _)⟩
  · have g1 : ¬ (0 : Int) < (ln : Int) := by omega
    go_upto_region 4 with fail
    go_region_with (first | (go_at_call 32; (with_reducible refine (textType_any _).mono ?_); rintro e w3 ⟨rfl, b3'⟩; have b3 := d1.trans (b3'.mono d1.size); have c3 := (unhide KL _ b3).cell) | (go_at_call 25; (with_reducible refine (unhide cC _ b3).mono ?_); rintro e w4 ⟨lo2, ln2, lc2, rfl, hb4, hob4, b4'⟩; have b4 := b3.trans (b4'.mono b3.size); have O4 := hide (unhide KL _ b4); have c4 := (unhide O4).cell; have f4 := (unhide O4).free; obtain ⟨wS, hst, rS, gS⟩ := st_old' w4 w.heap.size 38 #[.int .i64 0, .int .i64 0, .int .u64 0, .string ⟨#[]⟩, .bool false, .int .i64 0, .int .i64 0, .int .i64 0, .int .i64 0, .int .i64 0, .int .i64 0, .int .i64 0] CS (unhide KR _ b4) (by rw [hCZ]; rfl) (unhide HC1); have OS := hide (show One wS q 29 (.slice lo ln lc) from (gS.block q (unhide O4).lt (by omega)).trans (unhide O4)); have cS := (unhide OS).cell; have fS := (unhide OS).free; obtain ⟨wT, hst2, rT, gT⟩ := st_old' (w4.setCell ⟨q, 0, none⟩ (.slice lo2 ln2 lc2)) w.heap.size 38 #[.int .i64 0, .int .i64 0, .int .u64 0, .string ⟨#[]⟩, .bool false, .int .i64 0, .int .i64 0, .int .i64 0, .int .i64 0, .int .i64 0, .int .i64 0, .int .i64 0] CS ((heap_setCell_other w4 ⟨q, 0, none⟩ w.heap.size _ (by show w.heap.size ≠ q; omega)).trans (unhide KR _ b4)) (by rw [hCZ]; rfl) (unhide HC1); have HB4 := hide hb4; have HO4 := hide (show ln2 = 0 ∨ ∀ k, ob lo2 k → k < q from (unhide H3).elim (fun z => Or.inl (by have := hb4.len; omega)) (fun z => Or.inr (fun k hk => z k (hob4 k hk)))); have B4 := hide ((unhide B1).trans (b4.mono (unhide B1).size)); have RS := hide rS; have GS := hide gS; have RT := hide rT; have GT := hide gT; clear hb4 hob4 b4 b4' b3 b3' rS gS rT gT))
    all_goals
      have R6 := hide (show (wS.setCell ⟨q, 0, none⟩ (.slice lo2 ln2 lc2)).heap[w.heap.size]? = some (.cells CS 38 (0, 0)) from (heap_setCell_other wS ⟨q, 0, none⟩ w.heap.size _ (by show w.heap.size ≠ q; omega)).trans (unhide RS))
      have OX := hide ((unhide OS).stored (.slice lo2 ln2 lc2))
      have BX := hide ((unhide HB4).keep0 (unhide HO4) (fun k hk hl => (unhide GS).block k hl (by omega)))
      have GX := hide (gb_34 (unhide B4) (unhide GS) (Nat.le_refl _) hq)
      clear RS OS HB4 GS B4 c4 f4 cS fS hst hst2 RT GT
      go_wp2_with (first | (with_reducible show wpList Tryz.prog _ _ (Oper.mk _ (Op.load 38 _) _ _ _ none :: _) _ _; refine wpList_load_row rfl _ (.tmp 3) rfl w.heap.size rfl _ CS (0, 0) _ (unhide R6) Tryz.underlying38 rfl (unhide SC) ?_) | (with_reducible show wpList Tryz.prog _ _ (Oper.mk _ (Op.store 38 _ _) _ _ _ none :: _) _ _; refine wpList_stG rfl _ (.tmp 3) (.tmp 24) rfl w.heap.size CS CS (by simp [Act.eval, Act.put]) (by simp [Act.eval, Act.put]) (unhide R6) (unhide SC) rfl (unhide HC1) ?_; intro w7 r7 g7 s7))
      refine bodyPost_ret (results_r1 rfl _ _ w.heap.size _ rfl (run_loadVar_row _ w.heap.size _ _ _ _ _ r7 Tryz.underlying38 rfl (unhide SC))) rfl ?_
      exact ⟨rfl, (Lf.put (unhide OX) (unhide BX) (unhide HO4) gb_1).gb g7 hq, gb_5 (unhide GX) gb_1 g7 (Nat.le_refl _)⟩
theorem tnext_any (q : Nat) (b : List Int) (i : Int) (w : World) (h : Lf q b w) (hn : b.length ≤ 100000) :
    Calls Tryz.prog 31 #[.int .i64 i, .pointer (some ⟨q, 0, none⟩)] w fun e w' => e = .returned (.tuple #[.agg (vaC (tn b).1), .int .i64 (tn b).2.2]) ∧ Lf q (tn b).2.1 w' ∧ Gb q w w' := by
  by_cases hm : b.head? = some 251
  · have e : tn b = (va0, b.drop 1, 0) := if_pos hm
    rw [e]
    exact tnext_null q b i w h hm
  · have e : tn b = ((rdV b 253 false).1, rdL b 253 false, (rdV b 253 false).2.2) := if_neg hm
    rw [e]
    exact tnext_read q b i w h hn hm


end Go.Proofs.YtkcblnojgonblaaGreatDoor
