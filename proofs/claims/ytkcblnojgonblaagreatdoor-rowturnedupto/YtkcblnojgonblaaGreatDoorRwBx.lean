/-
  What the two closures of ReadBinary return: the next value, and whether all is read; what is left then. They write nothing but what is left. Conditions: what is left can be read, and lies ahead of its own variable; the bits and the types are there; at most 100,000 bytes.
-/
import Derived.Test.YtkcblnojgonblaaGreatDoorRwGat
import Derived.Test.YtkcblnojgonblaaGreatDoorMNb
namespace Go.Proofs.YtkcblnojgonblaaGreatDoor
open Go.RowKit
set_option linter.unusedVariables false
set_option linter.unusedSimpArgs false

/-- A value of a binary row, what is left behind it, the error. -/
def bx (nl : List Int) (ts : List Ty) (i : Nat) (b : List Int) : Va × List Int × Int :=
  if bit nl (i + 2) = true then (va0, b, 0) else ((rdV b (ts.getD i ty0).t (ts.getD i ty0).un).1, rdL b (ts.getD i ty0).t (ts.getD i ty0).un, (rdV b (ts.getD i ty0).t (ts.getD i ty0).un).2.2)
/-- What the closures hold: the bits' variable, the types'. -/
structure Hx (q1 q3 : Nat) (nl : List Int) (ts : List Ty) (w : World) : Prop where
  n : ∃ no nn nc, One w q1 29 (.slice no nn nc) ∧ Bs w no nn nc nl
  t : ∃ to_ m tc, One w q3 24 (.slice to_ m tc) ∧ Tys w to_ m tc ts
theorem Hx.later {q1 q3 : Nat} {nl : List Int} {ts : List Ty} {w w' : World} (h : Hx q1 q3 nl ts w) (hb : Below w.heap.size w w') : Hx q1 q3 nl ts w' := by
  obtain ⟨no, nn, nc, h1, h2⟩ := h.n
  obtain ⟨to_, m, tc, h3, h4⟩ := h.t
  exact ⟨⟨no, nn, nc, h1.later hb, h2.later hb⟩, ⟨to_, m, tc, h3.later hb, h4.later hb⟩⟩

set_option maxHeartbeats 4000000 in
set_option maxRecDepth 100000 in
theorem bend_any (q : Nat) (b : List Int) (w : World) (h : Lf q b w) :
    Calls Tryz.prog 26 #[.pointer (some ⟨q, 0, none⟩)] w fun e w' => e = .returned (.bool (b.length == 0)) ∧ w' = w := by
  obtain ⟨lo, ln, lc, h1, h2, h3⟩ := h.h
  have c0 := h1.cell
  have hl := h2.len
  have hle := h2.le
  have hmx := h2.max
  have HE := hide (show ((ln : Int) == 0) = (b.length == 0) by
    rw [hl]
    by_cases hz : ln = 0
    · subst hz; rfl
    · have h4 : ¬ (ln : Int) = 0 := by omega
      rw [beq_eq_false_iff_ne.2 h4, beq_eq_false_iff_ne.2 hz])
  clear h h1 h2 h3 hl
  go_enter Tryz.func26, Tryz.ntmps26
  go_wp2_with fail
  go_ret
  refine ⟨?_, rfl⟩
  rw [← unhide HE]
  rfl

set_option maxHeartbeats 4000000 in
set_option maxRecDepth 100000 in
theorem bnext_null (q1 q q3 : Nat) (nl : List Int) (ts : List Ty) (b : List Int) (i : Nat) (w : World) (h : Lf q b w) (hx : Hx q1 q3 nl ts w) (hi : (i + 2) / 8 < nl.length) (hi2 : i ≤ 100000) (hm : bit nl (i + 2) = true) :
    Calls Tryz.prog 23 #[.int .i64 (i : Int), .pointer (some ⟨q1, 0, none⟩), .pointer (some ⟨q, 0, none⟩), .pointer (some ⟨q3, 0, none⟩)] w fun e w' => e = .returned (.tuple #[.agg (vaC va0), .int .i64 0]) ∧ Lf q b w' ∧ Gb q w w' := by
  obtain ⟨no, nn, nc, h1, h2⟩ := hx.n
  have b1 := below_alloc w (.cells #[.int .i64 0, .int .i64 0, .int .u64 0, .string ⟨#[]⟩, .bool false, .int .i64 0, .int .i64 0, .int .i64 0, .int .i64 0, .int .i64 0, .int .i64 0, .int .i64 0] 38)
  have r1 := heap_alloc_new w (.cells #[.int .i64 0, .int .i64 0, .int .u64 0, .string ⟨#[]⟩, .bool false, .int .i64 0, .int .i64 0, .int .i64 0, .int .i64 0, .int .i64 0, .int .i64 0, .int .i64 0] 38)
  have c0 := (h1.later b1).cell
  have cH := hide (hasNull_any no nn nc nl i (w.alloc (.cells #[.int .i64 0, .int .i64 0, .int .u64 0, .string ⟨#[]⟩, .bool false, .int .i64 0, .int .i64 0, .int .i64 0, .int .i64 0, .int .i64 0, .int .i64 0, .int .i64 0] 38)) (h2.later b1) (by rw [← h2.len]; exact hi) hi2)
  rw [hm] at cH
  have S0 := hide (vaC_size va0)
  have B1 := hide b1
  have R1 := hide r1
  have L1 := hide (h.later b1)
  clear h hx h1 h2 b1 r1
  go_enter Tryz.func23, Tryz.ntmps23
  go_wp2_with (go_at_call 24; refine same_world (unhide cH) ?_)
  refine bodyPost_ret (results_r1 rfl _ _ w.heap.size _ rfl (run_loadVar_row _ w.heap.size _ _ _ _ _ (unhide R1) Tryz.underlying38 rfl (unhide S0))) rfl ?_
  exact ⟨rfl, unhide L1, ⟨(unhide B1).os, (unhide B1).tape, (unhide B1).output, (unhide B1).size, fun k hk _ => (unhide B1).block k hk⟩⟩

set_option maxHeartbeats 4000000 in
set_option maxRecDepth 100000 in
theorem bnext_read (q1 q q3 : Nat) (nl : List Int) (ts : List Ty) (b : List Int) (i : Nat) (p : Ty) (w : World) (h : Lf q b w) (hx : Hx q1 q3 nl ts w) (hi : (i + 2) / 8 < nl.length) (hi2 : i ≤ 100000) (hm : bit nl (i + 2) = false) (hp : ts[i]? = some p) (hT : 0 ≤ p.t ∧ p.t < 256) (hn : b.length ≤ 100000) :
    Calls Tryz.prog 23 #[.int .i64 (i : Int), .pointer (some ⟨q1, 0, none⟩), .pointer (some ⟨q, 0, none⟩), .pointer (some ⟨q3, 0, none⟩)] w fun e w' => e = .returned (.tuple #[.agg (vaC (rdV b p.t p.un).1), .int .i64 (rdV b p.t p.un).2.2]) ∧ Lf q (rdL b p.t p.un) w' ∧ Gb q w w' := by
  obtain ⟨no, nn, nc, n1, n2⟩ := hx.n
  obtain ⟨tyo, m, tc, t1, t2⟩ := hx.t
  obtain ⟨lo, ln, lc, h1, h2, h3⟩ := h.h
  have hl := h2.len
  have hle := h2.le
  have hmx := h2.max
  have hq := h1.lt
  have b1 := below_alloc w (.cells #[.int .i64 0, .int .i64 0, .int .u64 0, .string ⟨#[]⟩, .bool false, .int .i64 0, .int .i64 0, .int .i64 0, .int .i64 0, .int .i64 0, .int .i64 0, .int .i64 0] 38)
  have r1 := heap_alloc_new w (.cells #[.int .i64 0, .int .i64 0, .int .u64 0, .string ⟨#[]⟩, .bool false, .int .i64 0, .int .i64 0, .int .i64 0, .int .i64 0, .int .i64 0, .int .i64 0, .int .i64 0] 38)
  have z1 : (w.alloc (.cells #[.int .i64 0, .int .i64 0, .int .u64 0, .string ⟨#[]⟩, .bool false, .int .i64 0, .int .i64 0, .int .i64 0, .int .i64 0, .int .i64 0, .int .i64 0, .int .i64 0] 38)).heap.size = w.heap.size + 1 := by simp
  have H1 := hide (h1.later b1)
  have c0 := (n1.later b1).cell
  have c1 := (unhide H1).cell
  have c2 := (t1.later b1).cell
  have hml := t2.len
  have htl := t2.le
  have htx := t2.max
  have him : ((i : Nat) : Int) < (m : Int) := by have := (List.getElem?_eq_some_iff.1 hp).1; omega
  obtain ⟨tb, tq, hiy, hty⟩ := (t2.later b1).idx hp (i : Int) rfl
  obtain ⟨k0, k1⟩ : (w.alloc (.cells #[.int .i64 0, .int .i64 0, .int .u64 0, .string ⟨#[]⟩, .bool false, .int .i64 0, .int .i64 0, .int .i64 0, .int .i64 0, .int .i64 0, .int .i64 0, .int .i64 0] 38)).cell? ⟨tb, tq, none⟩ = some (.int .u8 p.t) ∧ (w.alloc (.cells #[.int .i64 0, .int .i64 0, .int .u64 0, .string ⟨#[]⟩, .bool false, .int .i64 0, .int .i64 0, .int .i64 0, .int .i64 0, .int .i64 0, .int .i64 0, .int .i64 0] 38)).cell? ⟨tb, tq + 1, none⟩ = some (.bool p.un) := ⟨hty 0 (by decide), hty 1 (by decide)⟩
  have cH := hide (hasNull_any no nn nc nl i (w.alloc (.cells #[.int .i64 0, .int .i64 0, .int .u64 0, .string ⟨#[]⟩, .bool false, .int .i64 0, .int .i64 0, .int .i64 0, .int .i64 0, .int .i64 0, .int .i64 0, .int .i64 0] 38)) (n2.later b1) (by rw [← n2.len]; exact hi) hi2)
  rw [hm] at cH
  have cC := hide (fun wx (hy : Below (w.alloc (.cells #[.int .i64 0, .int .i64 0, .int .u64 0, .string ⟨#[]⟩, .bool false, .int .i64 0, .int .i64 0, .int .i64 0, .int .i64 0, .int .i64 0, .int .i64 0, .int .i64 0] 38)).heap.size (w.alloc (.cells #[.int .i64 0, .int .i64 0, .int .u64 0, .string ⟨#[]⟩, .bool false, .int .i64 0, .int .i64 0, .int .i64 0, .int .i64 0, .int .i64 0, .int .i64 0, .int .i64 0] 38)) wx) => cut_any lo ln lc b p.t p.un wx hT.1 hT.2 ((h2.later b1).later hy) (by omega))
  have KL := hide (fun wx (hy : Below (w.alloc (.cells #[.int .i64 0, .int .i64 0, .int .u64 0, .string ⟨#[]⟩, .bool false, .int .i64 0, .int .i64 0, .int .i64 0, .int .i64 0, .int .i64 0, .int .i64 0, .int .i64 0] 38)).heap.size (w.alloc (.cells #[.int .i64 0, .int .i64 0, .int .u64 0, .string ⟨#[]⟩, .bool false, .int .i64 0, .int .i64 0, .int .i64 0, .int .i64 0, .int .i64 0, .int .i64 0, .int .i64 0] 38)) wx) => (unhide H1).later hy)
  have KR := hide (fun wx (hy : Below (w.alloc (.cells #[.int .i64 0, .int .i64 0, .int .u64 0, .string ⟨#[]⟩, .bool false, .int .i64 0, .int .i64 0, .int .i64 0, .int .i64 0, .int .i64 0, .int .i64 0, .int .i64 0] 38)).heap.size (w.alloc (.cells #[.int .i64 0, .int .i64 0, .int .u64 0, .string ⟨#[]⟩, .bool false, .int .i64 0, .int .i64 0, .int .i64 0, .int .i64 0, .int .i64 0, .int .i64 0, .int .i64 0] 38)) wx) => vrow_later r1 hy)
  obtain ⟨CS, hCS⟩ : ∃ z, z = vaC (rdV b p.t p.un).1 := ⟨_, rfl⟩
  rw [← hCS] at cC ⊢
  have hCZ : CS.size = 12 := by rw [hCS]; rfl
  have HC1 := hide (show CS.all (·.oneCell') = true by rw [hCS]; exact vaC_one _)
  have SC := hide (show (Tryz.prog.info? 38).map (·.size) = some CS.size by rw [hCS]; exact vaC_size _)
  have hLL : (rdL b p.t p.un).length ≤ b.length := by unfold rdL; simp
  generalize rdL b p.t p.un = LL at *
  generalize (rdV b p.t p.un).2.2 = E at *
  have B1 := hide b1
  have H3 := hide h3
  have d1 := below_drew (w.alloc (.cells #[.int .i64 0, .int .i64 0, .int .u64 0, .string ⟨#[]⟩, .bool false, .int .i64 0, .int .i64 0, .int .i64 0, .int .i64 0, .int .i64 0, .int .i64 0, .int .i64 0] 38))
  obtain ⟨pt, pu⟩ := p
  simp only at cC k0 k1
  clear h hx h1 h2 h3 n1 n2 t1 t2 b1 r1 hCS hty hp hT hm
  go_enter Tryz.func23, Tryz.ntmps23
  go_upto_region 3 with (go_at_call 24; refine same_world (unhide cH) ?_)
  go_region_with (first | (go_at_call 25; (with_reducible refine (unhide cC _ d1).mono ?_); rintro e w4 ⟨lo2, ln2, lc2, rfl, hb4, hob4, b4'⟩; have b4 := d1.trans (b4'.mono d1.size); have O4 := hide (unhide KL _ b4); have c4 := (unhide O4).cell; have f4 := (unhide O4).free; obtain ⟨wS, hst, rS, gS⟩ := st_old' w4 w.heap.size 38 #[.int .i64 0, .int .i64 0, .int .u64 0, .string ⟨#[]⟩, .bool false, .int .i64 0, .int .i64 0, .int .i64 0, .int .i64 0, .int .i64 0, .int .i64 0, .int .i64 0] CS (unhide KR _ b4) (by rw [hCZ]; rfl) (unhide HC1); have OS := hide (show One wS q 29 (.slice lo ln lc) from (gS.block q (unhide O4).lt (by omega)).trans (unhide O4)); have cS := (unhide OS).cell; have fS := (unhide OS).free; obtain ⟨wT, hst2, rT, gT⟩ := st_old' (w4.setCell ⟨q, 0, none⟩ (.slice lo2 ln2 lc2)) w.heap.size 38 #[.int .i64 0, .int .i64 0, .int .u64 0, .string ⟨#[]⟩, .bool false, .int .i64 0, .int .i64 0, .int .i64 0, .int .i64 0, .int .i64 0, .int .i64 0, .int .i64 0] CS ((heap_setCell_other w4 ⟨q, 0, none⟩ w.heap.size _ (by show w.heap.size ≠ q; omega)).trans (unhide KR _ b4)) (by rw [hCZ]; rfl) (unhide HC1); have HB4 := hide hb4; have HO4 := hide (show ln2 = 0 ∨ ∀ k, ob lo2 k → k < q from (unhide H3).elim (fun z => Or.inl (by have := hb4.len; omega)) (fun z => Or.inr (fun k hk => z k (hob4 k hk)))); have B4 := hide ((unhide B1).trans (b4.mono (unhide B1).size)); have RS := hide rS; have GS := hide gS; have RT := hide rT; have GT := hide gT; clear hb4 hob4 b4 b4' rS gS rT gT))
  all_goals
    have R6 := hide (show (wS.setCell ⟨q, 0, none⟩ (.slice lo2 ln2 lc2)).heap[w.heap.size]? = some (.cells CS 38 (0, 0)) from (heap_setCell_other wS ⟨q, 0, none⟩ w.heap.size _ (by show w.heap.size ≠ q; omega)).trans (unhide RS))
    have OX := hide ((unhide OS).stored (.slice lo2 ln2 lc2))
    have BX := hide ((unhide HB4).keep0 (unhide HO4) (fun k hk hl => (unhide GS).block k hl (by omega)))
    have GX := hide (gb_34 (unhide B4) (unhide GS) (Nat.le_refl _) hq)
    clear RS OS HB4 GS B4 c4 f4 cS fS hst hst2 RT GT
    go_wp2_with (first | (with_reducible show wpList Tryz.prog _ _ (Oper.mk _ (Op.load 38 _) _ _ _ none :: _) _ _; refine wpList_load_row rfl _ (.tmp 5) rfl w.heap.size rfl _ CS (0, 0) _ (unhide R6) Tryz.underlying38 rfl (unhide SC) ?_) | (with_reducible show wpList Tryz.prog _ _ (Oper.mk _ (Op.store 38 _ _) _ _ _ none :: _) _ _; refine wpList_stG rfl _ (.tmp 5) (.tmp 21) rfl w.heap.size CS CS (by simp [Act.eval, Act.put]) (by simp [Act.eval, Act.put]) (unhide R6) (unhide SC) rfl (unhide HC1) ?_; intro w7 r7 g7 s7))
    refine bodyPost_ret (results_r1 rfl _ _ w.heap.size _ rfl (run_loadVar_row _ w.heap.size _ _ _ _ _ r7 Tryz.underlying38 rfl (unhide SC))) rfl ?_
    exact ⟨rfl, (Lf.put (unhide OX) (unhide BX) (unhide HO4) gb_1).gb g7 hq, gb_5 (unhide GX) gb_1 g7 (Nat.le_refl _)⟩
theorem bnext_any (q1 q q3 : Nat) (nl : List Int) (ts : List Ty) (b : List Int) (i : Nat) (w : World) (h : Lf q b w) (hx : Hx q1 q3 nl ts w) (hi : (i + 2) / 8 < nl.length) (hi2 : i ≤ 100000) (hlt : i < ts.length) (hT : ∀ p ∈ ts, 0 ≤ p.t ∧ p.t < 256) (hn : b.length ≤ 100000) :
    Calls Tryz.prog 23 #[.int .i64 (i : Int), .pointer (some ⟨q1, 0, none⟩), .pointer (some ⟨q, 0, none⟩), .pointer (some ⟨q3, 0, none⟩)] w fun e w' => e = .returned (.tuple #[.agg (vaC (bx nl ts i b).1), .int .i64 (bx nl ts i b).2.2]) ∧ Lf q (bx nl ts i b).2.1 w' ∧ Gb q w w' := by
  obtain ⟨p, hp⟩ : ∃ p, ts[i]? = some p := ⟨_, List.getElem?_eq_getElem hlt⟩
  cases hm : bit nl (i + 2)
  · have e : bx nl ts i b = ((rdV b p.t p.un).1, rdL b p.t p.un, (rdV b p.t p.un).2.2) := by
      unfold bx
      rw [hm, if_neg (by decide), List.getD_eq_getElem?_getD, hp]
      rfl
    rw [e]
    exact bnext_read q1 q q3 nl ts b i p w h hx hi hi2 hm hp (hT p (List.mem_of_getElem? hp)) hn
  · have e : bx nl ts i b = (va0, b, 0) := if_pos hm
    rw [e]
    exact bnext_null q1 q q3 nl ts b i w h hx hi hi2 hm


end Go.Proofs.YtkcblnojgonblaaGreatDoor
