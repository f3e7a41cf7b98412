/-
  What block, of package inflate, does to a stream and answers. Conditions: the state's own bounds.
-/
import Derived.Test.YtalkeooejobjhaaDoorInfCoded
import Derived.Test.YtalkeooejobjhaaDoorInfStored
namespace Go.Proofs.YtalkeooejobjhaaDoor
open Go.RowKit
set_option linter.unusedVariables false
set_option linter.unusedSimpArgs false

section
variable {E : Env} {g : Nat} {w0 : World} {oo : Option Addr} {oc : Nat} {s : PS} {ov : Bool}

/-- A block as the program has it. -/
def bv (x : Blk) : Array Value := #[.int .i64 x.kind, .bool x.last, .int .i64 (x.at_ : Int), .int .i64 x.out]

/-- Block q is a variable that holds a block. -/
def Bx (w : World) (q : Nat) (v : Array Value) : Prop := w.heap[q]? = some (.cells v 44 (0, 0))
theorem Bx.gb {w w' : World} {q : Nat} {v : Array Value} (h : Bx w q v) (hb : Gb g w w') (hq : q ≠ g) : Bx w' q v := by
  unfold Bx
  rw [hb.block q (Array.getElem?_eq_some_iff.1 h).1 hq]
  exact h
theorem Bx.fr {w w' : World} {q : Nat} {v : Array Value} (h : Bx w q v) {oo' : Option Addr} (f : Fr g oo w oo' w') (hq : q ≠ g) (ho : ¬ ob oo q) : Bx w' q v := by
  unfold Bx
  rw [f.block q (Array.getElem?_eq_some_iff.1 h).1 hq ho]
  exact h
theorem Bx.lt {w : World} {q : Nat} {v : Array Value} (h : Bx w q v) : q < w.heap.size := (Array.getElem?_eq_some_iff.1 h).1
theorem Bx.put {w : World} {q : Nat} {v : Array Value} (h : Bx w q v) (i : Nat) (u : Value) : Bx (w.setCell ⟨q, i, none⟩ u) q (v.setIfInBounds i u) := by
  unfold Bx
  rw [heap_setCell_same w q i _ _ _ h]
theorem St.other {w : World} (h : St E g w oo oc s ov) {q : Nat} (hq : g < q) (ho : ¬ ob oo q) (i : Nat) (u : Value) : St E g (w.setCell ⟨q, i, none⟩ u) oo oc s ov := by
  have hb : Below g w (w.setCell ⟨q, i, none⟩ u) := (Below.refl g w).setCell (by simp; omega) u
  have hk : ∀ k, k ≠ q → (w.setCell ⟨q, i, none⟩ u).heap[k]? = w.heap[k]? := fun k hk => heap_setCell_other w ⟨q, i, none⟩ k u hk
  refine ⟨by rw [hk g (by omega)]; exact h.st, ?_, fun w1 f => h.b w1 (hb.trans f), h.v.later h.g3 hb, h.g3, h.fit⟩
  refine ⟨h.out.len, ⟨h.out.own.1, ?_⟩, h.out.byt⟩
  rcases h.out.own.2 with hv | ⟨p, cap, cur, hv, hp, hh, r⟩
  · exact .inl hv
  · simp only [Value.slice.injEq] at hv
    obtain ⟨rfl, _, rfl⟩ := hv
    exact .inr ⟨p, _, cur, rfl, hp, by rw [hk p (fun e => ho ⟨_, rfl, e⟩)]; exact hh, r⟩
theorem Fr.other {w w' : World} {oo' : Option Addr} (f : Fr g oo w oo' w') {q : Nat} (hq : w.heap.size ≤ q) (i : Nat) (u : Value) : Fr g oo w oo' (w'.setCell ⟨q, i, none⟩ u) :=
  ⟨f.os, f.tape, f.output, by simpa using f.size, fun k hk hn hk2 => (heap_setCell_other w' ⟨q, i, none⟩ k u (by simp; omega)).trans (f.block k hk hn hk2), f.src⟩
def bz : Array Value := #[.int .i64 0, .bool false, .int .i64 0, .int .i64 0]

/-- The world in which the result's variable holds K, l, P, Z. -/
def bw (w : World) (q : Nat) (K : Int) (l : Bool) (P Z : Int) : World :=
  (((((w.setCell ⟨q, 0, none⟩ (.int .i64 K)).setCell ⟨q, 1, none⟩ (.bool l)).setCell ⟨q, 2, none⟩ (.int .i64 P)).setCell ⟨q, 3, none⟩ (.int .i64 Z))).drew
theorem blk_fin {w w3 : World} {oo3 : Option Addr} {oc3 : Nat} {t3 : PS} {l : Bool} (hg : g < w.heap.size) (X3 : Bx w3 w.heap.size bz) (s3 : St E g w3 oo3 oc3 t3 l) (f3 : Fr g oo w oo3 w3) (ho : ¬ ob oo3 w.heap.size) (K P Z : Int) :
    Bx (bw w3 w.heap.size K l P Z) w.heap.size #[.int .i64 K, .bool l, .int .i64 P, .int .i64 Z] ∧ Out E g w oo t3 l (bw w3 w.heap.size K l P Z) :=
  ⟨(((X3.put 0 _).put 1 _).put 2 _).put 3 _, oo3, oc3, ((((s3.other hg ho 0 _).other hg ho 1 _).other hg ho 2 _).other hg ho 3 _).drew, ((((f3.other (Nat.le_refl _) 0 _).other (Nat.le_refl _) 1 _).other (Nat.le_refl _) 2 _).other (Nat.le_refl _) 3 _).drew⟩
theorem fr_not {w2 w3 : World} {q : Nat} {oo3 : Option Addr} (f3 : Fr g oo w2 oo3 w3) (hq : q < w2.heap.size) (ho : ¬ ob oo q) : ¬ ob oo3 q := fun h => by
  rcases f3.src q h with h1 | h1
  · exact ho h1
  · omega
theorem results_blk {fn : Func} {p : Tmp} (h : fn.results = #[.cell p 44]) (tmps : Array Value) (w : World) (q : Nat) (v : Array Value) (hv : v.size = 4)
    (hp : tmps.getD p undef = .pointer (some ⟨q, 0, none⟩)) (hq : Bx w q v) : (results fn tmps).run Tryd.prog w = .ok (.agg v) w :=
  results_cell_row h tmps w q _ v (0, 0) _ hp hq Tryd.underlying44 rfl (by rw [hv]; kernel_rfl)

set_option maxHeartbeats 2000000 in
set_option maxRecDepth 20000 in
theorem block_any (F : Nat) (w : World) (hF : 8 * E.bn + 1 ≤ F) (h : St E g w oo oc s ov) :
    Calls Tryd.prog 20 #[.pointer (some ⟨g, 0, none⟩)] w fun e w' => e = .returned (.agg (bv (blkV F E.bs E.m s))) ∧ Out E g w oo (blkS F E.bs E.m s) (blkV F E.bs E.m s).last w' := by
  have hp := h.fit.p
  have hb := h.fit.bn
  have ho := h.fit.o
  have hg := h.lt
  have hoq : ¬ ob oo w.heap.size := fun q => by have := (h.out.ob q).2; omega
  have ha := h.later (below_alloc w (.cells #[.int .i64 0, .bool false, .int .i64 0, .int .i64 0] 44))
  have c1 := ha.c1
  have c4 := ha.c4
  have HA := hide ha
  have XA := hide (show Bx (w.alloc (.cells #[.int .i64 0, .bool false, .int .i64 0, .int .i64 0] 44)) w.heap.size bz from heap_alloc_new w _)
  have GA := hide (Gb.of (g := g) (below_alloc w (.cells #[.int .i64 0, .bool false, .int .i64 0, .int .i64 0] 44)))
  clear h ha
  have F1 := hide (fun w1 (s1 : St E g w1 oo oc s ov) => field_any w1 1 (by omega) 1 rfl s1)
  have b1 := fldN_bd E.bs 1 s
  have F2 := hide (fun w1 (ov1 : Bool) (s1 : St E g w1 oo oc (fldN E.bs 1 s).2 ov1) => field_any w1 2 (by omega) 2 rfl s1)
  have b2 := fldN_bd E.bs 2 (fldN E.bs 1 s).2
  have hv := hide (show blkV F E.bs E.m s = ⟨(fldN E.bs 2 (fldN E.bs 1 s).2).1, (fldN E.bs 1 s).1 == 1, s.p, ((knds F E.bs E.m (fldN E.bs 2 (fldN E.bs 1 s).2).1 (fldN E.bs 2 (fldN E.bs 1 s).2).2).o.length : Int) - s.o.length⟩ from rfl)
  have hS := hide (show blkS F E.bs E.m s = knds F E.bs E.m (fldN E.bs 2 (fldN E.bs 1 s).2).1 (fldN E.bs 2 (fldN E.bs 1 s).2).2 from rfl)
  generalize (fldN E.bs 2 (fldN E.bs 1 s).2).1 = K at *
  generalize (fldN E.bs 2 (fldN E.bs 1 s).2).2 = t2 at *
  generalize (fldN E.bs 1 s).1 = X at *
  generalize (fldN E.bs 1 s).2 = t1 at *
  go_enter Tryd.func20, Tryd.ntmps20
  go_wp2_with fail
  go_quiet (fail)
  go_wp2_with fail
  refine (unhide F1 _ ((unhide HA).drewN nq)).mono ?_
  rintro e w1 ⟨rfl, s1, g1⟩
  have X1 := hide ((unhide XA).gb (((Gb.refl g _).drewN nq).trans g1) (by omega))
  have G1 := hide ((unhide GA).trans (((Gb.refl g _).drewN nq).trans g1))
  have f5 := s1.free 5
  have c5 := s1.c5
  have s1' := s1.putO (X == 1)
  have F2' := hide (unhide F2 _ _ s1')
  clear s1 s1' g1
  go_wp2_with fail
  refine (unhide F2').mono ?_
  rintro e w2 ⟨rfl, s2, g2⟩
  have X2 := hide ((unhide X1).gb (((Gb.refl g _).set 5 _).trans g2) (by omega))
  have G2 := hide ((unhide G1).trans (((Gb.refl g _).set 5 _).trans g2))
  have S2 := hide s2
  clear s2 g2
  generalize (X == 1) = lst at *
  have hkk : K = 0 ∨ K = 1 ∨ K = 2 ∨ K = 3 := by omega
  rcases hkk with rfl | rfl | rfl | rfl
  · have hk := hide (show knds F E.bs E.m 0 t2 = stoS E.bs E.m t2 from rfl)
    have sc := hide (stored_any w2 (unhide S2))
    have XP := X2
    have GP := G2
    go_wp2_with fail
    refine (unhide sc).mono ?_
    rintro e w3 ⟨rfl, oo3, oc3, s3, f3⟩
    have X3 := hide ((unhide XP).fr f3 (by omega) hoq)
    have q0 : w3.cell? ⟨w.heap.size, 0, none⟩ = some (.int .i64 0) := cell_of_row w3 w.heap.size 0 _ _ _ (unhide X3)
    have q1 : w3.cell? ⟨w.heap.size, 1, none⟩ = some (.bool false) := cell_of_row w3 w.heap.size 1 _ _ _ (unhide X3)
    have q2 : w3.cell? ⟨w.heap.size, 2, none⟩ = some (.int .i64 0) := cell_of_row w3 w.heap.size 2 _ _ _ (unhide X3)
    have q3 : w3.cell? ⟨w.heap.size, 3, none⟩ = some (.int .i64 0) := cell_of_row w3 w.heap.size 3 _ _ _ (unhide X3)
    have r0 := frozen_of_row w3 w.heap.size 0 _ _ (unhide X3)
    have r1 := frozen_of_row w3 w.heap.size 1 _ _ (unhide X3)
    have r2 := frozen_of_row w3 w.heap.size 2 _ _ (unhide X3)
    have r3 := frozen_of_row w3 w.heap.size 3 _ _ (unhide X3)
    have d4 := s3.c4
    have d5 := s3.c5
    have ho3 := s3.fit.o
    have FI := hide (fun K P Z => blk_fin hg (unhide X3) s3 (((unhide GP).fr oo).trans f3) (fr_not f3 (unhide XP).lt hoq) K P Z)
    clear s3 f3
    rw [unhide hk] at hS hv
    generalize stoS E.bs E.m t2 = t3 at *
    go_wp2_with fail
    go_region
    all_goals go_wp2_with fail
    all_goals refine bodyPost_ret (results_blk rfl _ _ w.heap.size _ rfl rfl (unhide FI _ _ _).1) rfl ?_
    all_goals rw [unhide hv, unhide hS]
    all_goals exact ⟨rfl, (unhide FI _ _ _).2⟩
  · have hk := hide (show knds F E.bs E.m 1 t2 = cdS fixL fixD E.bs E.m F t2 from rfl)
    have h2 := (unhide S2).lt
    have o2 : ∀ k, ob oo k → k < w2.heap.size := fun k hk => ((unhide S2).out.ob hk).2
    go_wp2_with fail
    refine (fixed_any w2).mono ?_
    rintro e wf ⟨lo, lc, d, dc, B, rfl, hB, ml, md, bf⟩
    have ML := hide ml
    have MD := hide md
    have cc := hide (coded_any F wf lo 288 lc fixL d 32 dc fixD (fun oo' w' f => (imine_stay (unhide ML) h2 o2 f).is) (fun oo' w' f => (imine_stay (unhide MD) (by omega) (fun k hk => by have := o2 k hk; omega) f).is) hF ((unhide S2).later bf))
    have XP := hide ((unhide X2).gb (Gb.of (g := g) bf) (by omega))
    have GP := hide ((unhide G2).trans (Gb.of (g := g) bf))
    clear ml md
    go_wp2_with fail
    refine (unhide cc).mono ?_
    rintro e w3 ⟨rfl, oo3, oc3, s3, f3⟩
    have X3 := hide ((unhide XP).fr f3 (by omega) hoq)
    have q0 : w3.cell? ⟨w.heap.size, 0, none⟩ = some (.int .i64 0) := cell_of_row w3 w.heap.size 0 _ _ _ (unhide X3)
    have q1 : w3.cell? ⟨w.heap.size, 1, none⟩ = some (.bool false) := cell_of_row w3 w.heap.size 1 _ _ _ (unhide X3)
    have q2 : w3.cell? ⟨w.heap.size, 2, none⟩ = some (.int .i64 0) := cell_of_row w3 w.heap.size 2 _ _ _ (unhide X3)
    have q3 : w3.cell? ⟨w.heap.size, 3, none⟩ = some (.int .i64 0) := cell_of_row w3 w.heap.size 3 _ _ _ (unhide X3)
    have r0 := frozen_of_row w3 w.heap.size 0 _ _ (unhide X3)
    have r1 := frozen_of_row w3 w.heap.size 1 _ _ (unhide X3)
    have r2 := frozen_of_row w3 w.heap.size 2 _ _ (unhide X3)
    have r3 := frozen_of_row w3 w.heap.size 3 _ _ (unhide X3)
    have d4 := s3.c4
    have d5 := s3.c5
    have ho3 := s3.fit.o
    have FI := hide (fun K P Z => blk_fin hg (unhide X3) s3 (((unhide GP).fr oo).trans f3) (fr_not f3 (unhide XP).lt hoq) K P Z)
    clear s3 f3
    rw [unhide hk] at hS hv
    generalize cdS fixL fixD E.bs E.m F t2 = t3 at *
    go_wp2_with fail
    go_region
    all_goals go_wp2_with fail
    all_goals refine bodyPost_ret (results_blk rfl _ _ w.heap.size _ rfl rfl (unhide FI _ _ _).1) rfl ?_
    all_goals rw [unhide hv, unhide hS]
    all_goals exact ⟨rfl, (unhide FI _ _ _).2⟩
  · have hk := hide (show knds F E.bs E.m 2 t2 = cdS (cosS E.bs t2).1.1 (cosS E.bs t2).1.2 E.bs E.m F (cosS E.bs t2).2 from rfl)
    have sc := hide (codes_st w2 (unhide S2))
    go_wp2_with fail
    refine (unhide sc).mono ?_
    rintro e wf ⟨lo, ln_, lc, d, dn, dc, rfl, tl, td, sf, gf⟩
    have cc := hide (coded_any F wf lo ln_ lc _ d dn dc _ tl td hF sf)
    have XP := hide ((unhide X2).gb gf (by omega))
    have GP := hide ((unhide G2).trans gf)
    clear tl td sf
    go_wp2_with fail
    refine (unhide cc).mono ?_
    rintro e w3 ⟨rfl, oo3, oc3, s3, f3⟩
    have X3 := hide ((unhide XP).fr f3 (by omega) hoq)
    have q0 : w3.cell? ⟨w.heap.size, 0, none⟩ = some (.int .i64 0) := cell_of_row w3 w.heap.size 0 _ _ _ (unhide X3)
    have q1 : w3.cell? ⟨w.heap.size, 1, none⟩ = some (.bool false) := cell_of_row w3 w.heap.size 1 _ _ _ (unhide X3)
    have q2 : w3.cell? ⟨w.heap.size, 2, none⟩ = some (.int .i64 0) := cell_of_row w3 w.heap.size 2 _ _ _ (unhide X3)
    have q3 : w3.cell? ⟨w.heap.size, 3, none⟩ = some (.int .i64 0) := cell_of_row w3 w.heap.size 3 _ _ _ (unhide X3)
    have r0 := frozen_of_row w3 w.heap.size 0 _ _ (unhide X3)
    have r1 := frozen_of_row w3 w.heap.size 1 _ _ (unhide X3)
    have r2 := frozen_of_row w3 w.heap.size 2 _ _ (unhide X3)
    have r3 := frozen_of_row w3 w.heap.size 3 _ _ (unhide X3)
    have d4 := s3.c4
    have d5 := s3.c5
    have ho3 := s3.fit.o
    have FI := hide (fun K P Z => blk_fin hg (unhide X3) s3 (((unhide GP).fr oo).trans f3) (fr_not f3 (unhide XP).lt hoq) K P Z)
    clear s3 f3
    rw [unhide hk] at hS hv
    generalize cdS (cosS E.bs t2).1.1 (cosS E.bs t2).1.2 E.bs E.m F (cosS E.bs t2).2 = t3 at *
    go_wp2_with fail
    go_region
    all_goals go_wp2_with fail
    all_goals refine bodyPost_ret (results_blk rfl _ _ w.heap.size _ rfl rfl (unhide FI _ _ _).1) rfl ?_
    all_goals rw [unhide hv, unhide hS]
    all_goals exact ⟨rfl, (unhide FI _ _ _).2⟩
  · have hk := hide (show knds F E.bs E.m 3 t2 = stopS 5 t2 from rfl)
    have sc := hide (stop_any w2 5 (by omega) (by omega) (unhide S2))
    have XP := X2
    have GP := G2
    go_wp2_with fail
    refine (unhide sc).mono ?_
    rintro e w3 ⟨rfl, s3, g3⟩
    have f3 := g3.fr oo
    have X3 := hide ((unhide XP).fr f3 (by omega) hoq)
    have q0 : w3.cell? ⟨w.heap.size, 0, none⟩ = some (.int .i64 0) := cell_of_row w3 w.heap.size 0 _ _ _ (unhide X3)
    have q1 : w3.cell? ⟨w.heap.size, 1, none⟩ = some (.bool false) := cell_of_row w3 w.heap.size 1 _ _ _ (unhide X3)
    have q2 : w3.cell? ⟨w.heap.size, 2, none⟩ = some (.int .i64 0) := cell_of_row w3 w.heap.size 2 _ _ _ (unhide X3)
    have q3 : w3.cell? ⟨w.heap.size, 3, none⟩ = some (.int .i64 0) := cell_of_row w3 w.heap.size 3 _ _ _ (unhide X3)
    have r0 := frozen_of_row w3 w.heap.size 0 _ _ (unhide X3)
    have r1 := frozen_of_row w3 w.heap.size 1 _ _ (unhide X3)
    have r2 := frozen_of_row w3 w.heap.size 2 _ _ (unhide X3)
    have r3 := frozen_of_row w3 w.heap.size 3 _ _ (unhide X3)
    have d4 := s3.c4
    have d5 := s3.c5
    have ho3 := s3.fit.o
    have FI := hide (fun K P Z => blk_fin hg (unhide X3) s3 (((unhide GP).fr oo).trans f3) (fr_not f3 (unhide XP).lt hoq) K P Z)
    clear s3 f3
    rw [unhide hk] at hS hv
    generalize stopS 5 t2 = t3 at *
    go_wp2_with fail
    go_region
    all_goals go_wp2_with fail
    all_goals refine bodyPost_ret (results_blk rfl _ _ w.heap.size _ rfl rfl (unhide FI _ _ _).1) rfl ?_
    all_goals rw [unhide hv, unhide hS]
    all_goals exact ⟨rfl, (unhide FI _ _ _).2⟩
end
end Go.Proofs.YtalkeooejobjhaaDoor
