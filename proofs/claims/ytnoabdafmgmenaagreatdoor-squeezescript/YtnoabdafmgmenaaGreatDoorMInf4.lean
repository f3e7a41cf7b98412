/-
  What block, of package inflate, does to a stream and answers. Conditions: the state's own bounds.
  What begun and Inflate, of package inflate, answer for any bytes. They write nothing that was there. Conditions: at most a million bytes, a limit from 0 to a million; the tables hold what the program's text says.
  Where a stream ends: with anything behind it, or with a limit that is just met, it is the same; without its last byte, or with a smaller limit, it is just that error. No program and no memory is named here.
  What the listed variables give the walks: the cells of the program's three tables; and a world in which they lie as the program's own text lays them. Conditions: none.
-/
import Derived.Test.YtnoabdafmgmenaaGreatDoorMInf3
import Derived.Test.YtnoabdafmgmenaaGreatDoorMInf2
import Derived.Test.YtnoabdafmgmenaaGreatDoorMInf1
import Derived.ProofKit
import Derived.LaidMore
import Derived.OpenShut
import Derived.Stop.Joined
import Derived.Lib.LaidTab
namespace Go.Proofs.YtnoabdafmgmenaaGreatDoor
open Go.RowKit
set_option linter.unusedVariables false
set_option linter.unusedSimpArgs false

section
variable {E : Env} {g : Nat} {w0 : World} {oo : Option Addr} {oc : Nat} {s : PS} {ov : Bool}

/-- A block as the program has it. -/
def bv (x : Blk) : Array Value := #[.int .i64 x.kind, .bool x.last, .int .i64 (x.at_ : Int), .int .i64 x.out]

/-- Block q is a variable that holds a block. -/
def Bx (w : World) (q : Nat) (v : Array Value) : Prop := w.heap[q]? = some (.cells v 90 (0, 0))
theorem Bx.gb {w w' : World} {q : Nat} {v : Array Value} (h : Bx w q v) (hb : Gb g w w') (hq : q ≠ g) : Bx w' q v := by
  unfold Bx
  rw [hb.block q (Array.getElem?_eq_some_iff.1 h).1 hq]
  exact h
theorem Bx.fr {w w' : World} {q : Nat} {v : Array Value} (h : Bx w q v) {oo' : Option Addr} (f : Fr g oo w oo' w') (hq : q ≠ g) (ho : ¬ ob oo q) : Bx w' q v := by
  unfold Bx
  rw [f.block q (Array.getElem?_eq_some_iff.1 h).1 hq ho]
  exact h
theorem Bx.lt {w : World} {q : Nat} {v : Array Value} (h : Bx w q v) : q < w.heap.size := (Array.getElem?_eq_some_iff.1 h).1
theorem Bx.put {w : World} {q : Nat} {v : Array Value} (h : Bx w q v) (i : Nat) (u : Value) : Bx (w.setCell ⟨q, i, none⟩ u) q (v.setIfInBounds i u) := by
  unfold Bx
  rw [heap_setCell_same w q i _ _ _ h]
theorem St.other {w : World} (h : St E g w oo oc s ov) {q : Nat} (hq : g < q) (ho : ¬ ob oo q) (i : Nat) (u : Value) : St E g (w.setCell ⟨q, i, none⟩ u) oo oc s ov := by
  have hb : Below g w (w.setCell ⟨q, i, none⟩ u) := (Below.refl g w).setCell (by simp; omega) u
  have hk : ∀ k, k ≠ q → (w.setCell ⟨q, i, none⟩ u).heap[k]? = w.heap[k]? := fun k hk => heap_setCell_other w ⟨q, i, none⟩ k u hk
  refine ⟨by rw [hk g (by omega)]; exact h.st, ?_, fun w1 f => h.b w1 (hb.trans f), h.v.later h.g3 hb, h.g3, h.fit⟩
  refine ⟨h.out.len, ⟨h.out.own.1, ?_⟩, h.out.byt⟩
  rcases h.out.own.2 with hv | ⟨p, cap, cur, hv, hp, hh, r⟩
  · exact .inl hv
  · simp only [Value.slice.injEq] at hv
    obtain ⟨rfl, _, rfl⟩ := hv
    exact .inr ⟨p, _, cur, rfl, hp, by rw [hk p (fun e => ho ⟨_, rfl, e⟩)]; exact hh, r⟩
theorem Fr.other {w w' : World} {oo' : Option Addr} (f : Fr g oo w oo' w') {q : Nat} (hq : w.heap.size ≤ q) (i : Nat) (u : Value) : Fr g oo w oo' (w'.setCell ⟨q, i, none⟩ u) :=
  ⟨f.os, f.tape, f.output, by simpa using f.size, fun k hk hn hk2 => (heap_setCell_other w' ⟨q, i, none⟩ k u (by simp; omega)).trans (f.block k hk hn hk2), f.src⟩
def bz : Array Value := #[.int .i64 0, .bool false, .int .i64 0, .int .i64 0]

/-- The world in which the result's variable holds K, l, P, Z. -/
def bw (w : World) (q : Nat) (K : Int) (l : Bool) (P Z : Int) : World :=
  (((((w.setCell ⟨q, 0, none⟩ (.int .i64 K)).setCell ⟨q, 1, none⟩ (.bool l)).setCell ⟨q, 2, none⟩ (.int .i64 P)).setCell ⟨q, 3, none⟩ (.int .i64 Z))).drew
theorem blk_fin {w w3 : World} {oo3 : Option Addr} {oc3 : Nat} {t3 : PS} {l : Bool} (hg : g < w.heap.size) (X3 : Bx w3 w.heap.size bz) (s3 : St E g w3 oo3 oc3 t3 l) (f3 : Fr g oo w oo3 w3) (ho : ¬ ob oo3 w.heap.size) (K P Z : Int) :
    Bx (bw w3 w.heap.size K l P Z) w.heap.size #[.int .i64 K, .bool l, .int .i64 P, .int .i64 Z] ∧ Out E g w oo t3 l (bw w3 w.heap.size K l P Z) :=
  ⟨(((X3.put 0 _).put 1 _).put 2 _).put 3 _, oo3, oc3, ((((s3.other hg ho 0 _).other hg ho 1 _).other hg ho 2 _).other hg ho 3 _).drew, ((((f3.other (Nat.le_refl _) 0 _).other (Nat.le_refl _) 1 _).other (Nat.le_refl _) 2 _).other (Nat.le_refl _) 3 _).drew⟩
theorem fr_not {w2 w3 : World} {q : Nat} {oo3 : Option Addr} (f3 : Fr g oo w2 oo3 w3) (hq : q < w2.heap.size) (ho : ¬ ob oo q) : ¬ ob oo3 q := fun h => by
  rcases f3.src q h with h1 | h1
  · exact ho h1
  · omega
theorem results_blk {fn : Func} {p : Tmp} (h : fn.results = #[.cell p 90]) (tmps : Array Value) (w : World) (q : Nat) (v : Array Value) (hv : v.size = 4)
    (hp : tmps.getD p undef = .pointer (some ⟨q, 0, none⟩)) (hq : Bx w q v) : (results fn tmps).run Tryz.prog w = .ok (.agg v) w :=
  results_cell_row h tmps w q _ v (0, 0) _ hp hq Tryz.underlying90 rfl (by rw [hv]; kernel_rfl)

set_option maxHeartbeats 2000000 in
set_option maxRecDepth 20000 in
theorem block_any (F : Nat) (w : World) (hF : 8 * E.bn + 1 ≤ F) (h : St E g w oo oc s ov) :
    Calls Tryz.prog 55 #[.pointer (some ⟨g, 0, none⟩)] w fun e w' => e = .returned (.agg (bv (blkV F E.bs E.m s))) ∧ Out E g w oo (blkS F E.bs E.m s) (blkV F E.bs E.m s).last w' := by
  have hp := h.fit.p
  have hb := h.fit.bn
  have ho := h.fit.o
  have hg := h.lt
  have hoq : ¬ ob oo w.heap.size := fun q => by have := (h.out.ob q).2; omega
  have ha := h.later (below_alloc w (.cells #[.int .i64 0, .bool false, .int .i64 0, .int .i64 0] 90))
  have c1 := ha.c1
  have c4 := ha.c4
  have HA := hide ha
  have XA := hide (show Bx (w.alloc (.cells #[.int .i64 0, .bool false, .int .i64 0, .int .i64 0] 90)) w.heap.size bz from heap_alloc_new w _)
  have GA := hide (Gb.of (g := g) (below_alloc w (.cells #[.int .i64 0, .bool false, .int .i64 0, .int .i64 0] 90)))
  clear h ha
  have F1 := hide (fun w1 (s1 : St E g w1 oo oc s ov) => field_any w1 1 (by omega) 1 rfl s1)
  have b1 := fldN_bd E.bs 1 s
  have F2 := hide (fun w1 (ov1 : Bool) (s1 : St E g w1 oo oc (fldN E.bs 1 s).2 ov1) => field_any w1 2 (by omega) 2 rfl s1)
  have b2 := fldN_bd E.bs 2 (fldN E.bs 1 s).2
  have hv := hide (show blkV F E.bs E.m s = ⟨(fldN E.bs 2 (fldN E.bs 1 s).2).1, (fldN E.bs 1 s).1 == 1, s.p, ((knds F E.bs E.m (fldN E.bs 2 (fldN E.bs 1 s).2).1 (fldN E.bs 2 (fldN E.bs 1 s).2).2).o.length : Int) - s.o.length⟩ from rfl)
  have hS := hide (show blkS F E.bs E.m s = knds F E.bs E.m (fldN E.bs 2 (fldN E.bs 1 s).2).1 (fldN E.bs 2 (fldN E.bs 1 s).2).2 from rfl)
  generalize (fldN E.bs 2 (fldN E.bs 1 s).2).1 = K at *
  generalize (fldN E.bs 2 (fldN E.bs 1 s).2).2 = t2 at *
  generalize (fldN E.bs 1 s).1 = X at *
  generalize (fldN E.bs 1 s).2 = t1 at *
  go_enter Tryz.func55, Tryz.ntmps55
  go_wp2_with fail
  go_quiet (fail)
  go_wp2_with fail
  refine (unhide F1 _ ((unhide HA).drewN nq)).mono ?_
  rintro e w1 ⟨rfl, s1, g1⟩
  have X1 := hide ((unhide XA).gb (((Gb.refl g _).drewN nq).trans g1) (by omega))
  have G1 := hide ((unhide GA).trans (((Gb.refl g _).drewN nq).trans g1))
  have f5 := s1.free 5
  have c5 := s1.c5
  have s1' := s1.putO (X == 1)
  have F2' := hide (unhide F2 _ _ s1')
  clear s1 s1' g1
  go_wp2_with fail
  refine (unhide F2').mono ?_
  rintro e w2 ⟨rfl, s2, g2⟩
  have X2 := hide ((unhide X1).gb (((Gb.refl g _).set 5 _).trans g2) (by omega))
  have G2 := hide ((unhide G1).trans (((Gb.refl g _).set 5 _).trans g2))
  have S2 := hide s2
  clear s2 g2
  generalize (X == 1) = lst at *
  have hkk : K = 0 ∨ K = 1 ∨ K = 2 ∨ K = 3 := by omega
  rcases hkk with rfl | rfl | rfl | rfl
  · have hk := hide (show knds F E.bs E.m 0 t2 = stoS E.bs E.m t2 from rfl)
    have sc := hide (stored_any w2 (unhide S2))
    have XP := X2
    have GP := G2
    go_wp2_with fail
    refine (unhide sc).mono ?_
    rintro e w3 ⟨rfl, oo3, oc3, s3, f3⟩
    have X3 := hide ((unhide XP).fr f3 (by omega) hoq)
    have q0 : w3.cell? ⟨w.heap.size, 0, none⟩ = some (.int .i64 0) := cell_of_row w3 w.heap.size 0 _ _ _ (unhide X3)
    have q1 : w3.cell? ⟨w.heap.size, 1, none⟩ = some (.bool false) := cell_of_row w3 w.heap.size 1 _ _ _ (unhide X3)
    have q2 : w3.cell? ⟨w.heap.size, 2, none⟩ = some (.int .i64 0) := cell_of_row w3 w.heap.size 2 _ _ _ (unhide X3)
    have q3 : w3.cell? ⟨w.heap.size, 3, none⟩ = some (.int .i64 0) := cell_of_row w3 w.heap.size 3 _ _ _ (unhide X3)
    have r0 := frozen_of_row w3 w.heap.size 0 _ _ (unhide X3)
    have r1 := frozen_of_row w3 w.heap.size 1 _ _ (unhide X3)
    have r2 := frozen_of_row w3 w.heap.size 2 _ _ (unhide X3)
    have r3 := frozen_of_row w3 w.heap.size 3 _ _ (unhide X3)
    have d4 := s3.c4
    have d5 := s3.c5
    have ho3 := s3.fit.o
    have FI := hide (fun K P Z => blk_fin hg (unhide X3) s3 (((unhide GP).fr oo).trans f3) (fr_not f3 (unhide XP).lt hoq) K P Z)
    clear s3 f3
    rw [unhide hk] at hS hv
    generalize stoS E.bs E.m t2 = t3 at *
    go_wp2_with fail
    go_region
    all_goals go_wp2_with fail
    all_goals refine bodyPost_ret (results_blk rfl _ _ w.heap.size _ rfl rfl (unhide FI _ _ _).1) rfl ?_
    all_goals rw [unhide hv, unhide hS]
    all_goals exact ⟨rfl, (unhide FI _ _ _).2⟩
  · have hk := hide (show knds F E.bs E.m 1 t2 = cdS fixL fixD E.bs E.m F t2 from rfl)
    have h2 := (unhide S2).lt
    have o2 : ∀ k, ob oo k → k < w2.heap.size := fun k hk => ((unhide S2).out.ob hk).2
    go_wp2_with fail
    refine (fixed_any w2).mono ?_
    rintro e wf ⟨lo, lc, d, dc, B, rfl, hB, ml, md, bf⟩
    have ML := hide ml
    have MD := hide md
    have cc := hide (coded_any F wf lo 288 lc fixL d 32 dc fixD (fun oo' w' f => (imine_stay (unhide ML) h2 o2 f).is) (fun oo' w' f => (imine_stay (unhide MD) (by omega) (fun k hk => by have := o2 k hk; omega) f).is) hF ((unhide S2).later bf))
    have XP := hide ((unhide X2).gb (Gb.of (g := g) bf) (by omega))
    have GP := hide ((unhide G2).trans (Gb.of (g := g) bf))
    clear ml md
    go_wp2_with fail
    refine (unhide cc).mono ?_
    rintro e w3 ⟨rfl, oo3, oc3, s3, f3⟩
    have X3 := hide ((unhide XP).fr f3 (by omega) hoq)
    have q0 : w3.cell? ⟨w.heap.size, 0, none⟩ = some (.int .i64 0) := cell_of_row w3 w.heap.size 0 _ _ _ (unhide X3)
    have q1 : w3.cell? ⟨w.heap.size, 1, none⟩ = some (.bool false) := cell_of_row w3 w.heap.size 1 _ _ _ (unhide X3)
    have q2 : w3.cell? ⟨w.heap.size, 2, none⟩ = some (.int .i64 0) := cell_of_row w3 w.heap.size 2 _ _ _ (unhide X3)
    have q3 : w3.cell? ⟨w.heap.size, 3, none⟩ = some (.int .i64 0) := cell_of_row w3 w.heap.size 3 _ _ _ (unhide X3)
    have r0 := frozen_of_row w3 w.heap.size 0 _ _ (unhide X3)
    have r1 := frozen_of_row w3 w.heap.size 1 _ _ (unhide X3)
    have r2 := frozen_of_row w3 w.heap.size 2 _ _ (unhide X3)
    have r3 := frozen_of_row w3 w.heap.size 3 _ _ (unhide X3)
    have d4 := s3.c4
    have d5 := s3.c5
    have ho3 := s3.fit.o
    have FI := hide (fun K P Z => blk_fin hg (unhide X3) s3 (((unhide GP).fr oo).trans f3) (fr_not f3 (unhide XP).lt hoq) K P Z)
    clear s3 f3
    rw [unhide hk] at hS hv
    generalize cdS fixL fixD E.bs E.m F t2 = t3 at *
    go_wp2_with fail
    go_region
    all_goals go_wp2_with fail
    all_goals refine bodyPost_ret (results_blk rfl _ _ w.heap.size _ rfl rfl (unhide FI _ _ _).1) rfl ?_
    all_goals rw [unhide hv, unhide hS]
    all_goals exact ⟨rfl, (unhide FI _ _ _).2⟩
  · have hk := hide (show knds F E.bs E.m 2 t2 = cdS (cosS E.bs t2).1.1 (cosS E.bs t2).1.2 E.bs E.m F (cosS E.bs t2).2 from rfl)
    have sc := hide (codes_st w2 (unhide S2))
    go_wp2_with fail
    refine (unhide sc).mono ?_
    rintro e wf ⟨lo, ln_, lc, d, dn, dc, rfl, tl, td, sf, gf⟩
    have cc := hide (coded_any F wf lo ln_ lc _ d dn dc _ tl td hF sf)
    have XP := hide ((unhide X2).gb gf (by omega))
    have GP := hide ((unhide G2).trans gf)
    clear tl td sf
    go_wp2_with fail
    refine (unhide cc).mono ?_
    rintro e w3 ⟨rfl, oo3, oc3, s3, f3⟩
    have X3 := hide ((unhide XP).fr f3 (by omega) hoq)
    have q0 : w3.cell? ⟨w.heap.size, 0, none⟩ = some (.int .i64 0) := cell_of_row w3 w.heap.size 0 _ _ _ (unhide X3)
    have q1 : w3.cell? ⟨w.heap.size, 1, none⟩ = some (.bool false) := cell_of_row w3 w.heap.size 1 _ _ _ (unhide X3)
    have q2 : w3.cell? ⟨w.heap.size, 2, none⟩ = some (.int .i64 0) := cell_of_row w3 w.heap.size 2 _ _ _ (unhide X3)
    have q3 : w3.cell? ⟨w.heap.size, 3, none⟩ = some (.int .i64 0) := cell_of_row w3 w.heap.size 3 _ _ _ (unhide X3)
    have r0 := frozen_of_row w3 w.heap.size 0 _ _ (unhide X3)
    have r1 := frozen_of_row w3 w.heap.size 1 _ _ (unhide X3)
    have r2 := frozen_of_row w3 w.heap.size 2 _ _ (unhide X3)
    have r3 := frozen_of_row w3 w.heap.size 3 _ _ (unhide X3)
    have d4 := s3.c4
    have d5 := s3.c5
    have ho3 := s3.fit.o
    have FI := hide (fun K P Z => blk_fin hg (unhide X3) s3 (((unhide GP).fr oo).trans f3) (fr_not f3 (unhide XP).lt hoq) K P Z)
    clear s3 f3
    rw [unhide hk] at hS hv
    generalize cdS (cosS E.bs t2).1.1 (cosS E.bs t2).1.2 E.bs E.m F (cosS E.bs t2).2 = t3 at *
    go_wp2_with fail
    go_region
    all_goals go_wp2_with fail
    all_goals refine bodyPost_ret (results_blk rfl _ _ w.heap.size _ rfl rfl (unhide FI _ _ _).1) rfl ?_
    all_goals rw [unhide hv, unhide hS]
    all_goals exact ⟨rfl, (unhide FI _ _ _).2⟩
  · have hk := hide (show knds F E.bs E.m 3 t2 = stopS 5 t2 from rfl)
    have sc := hide (stop_any w2 5 (by omega) (by omega) (unhide S2))
    have XP := X2
    have GP := G2
    go_wp2_with fail
    refine (unhide sc).mono ?_
    rintro e w3 ⟨rfl, s3, g3⟩
    have f3 := g3.fr oo
    have X3 := hide ((unhide XP).fr f3 (by omega) hoq)
    have q0 : w3.cell? ⟨w.heap.size, 0, none⟩ = some (.int .i64 0) := cell_of_row w3 w.heap.size 0 _ _ _ (unhide X3)
    have q1 : w3.cell? ⟨w.heap.size, 1, none⟩ = some (.bool false) := cell_of_row w3 w.heap.size 1 _ _ _ (unhide X3)
    have q2 : w3.cell? ⟨w.heap.size, 2, none⟩ = some (.int .i64 0) := cell_of_row w3 w.heap.size 2 _ _ _ (unhide X3)
    have q3 : w3.cell? ⟨w.heap.size, 3, none⟩ = some (.int .i64 0) := cell_of_row w3 w.heap.size 3 _ _ _ (unhide X3)
    have r0 := frozen_of_row w3 w.heap.size 0 _ _ (unhide X3)
    have r1 := frozen_of_row w3 w.heap.size 1 _ _ (unhide X3)
    have r2 := frozen_of_row w3 w.heap.size 2 _ _ (unhide X3)
    have r3 := frozen_of_row w3 w.heap.size 3 _ _ (unhide X3)
    have d4 := s3.c4
    have d5 := s3.c5
    have ho3 := s3.fit.o
    have FI := hide (fun K P Z => blk_fin hg (unhide X3) s3 (((unhide GP).fr oo).trans f3) (fr_not f3 (unhide XP).lt hoq) K P Z)
    clear s3 f3
    rw [unhide hk] at hS hv
    generalize stopS 5 t2 = t3 at *
    go_wp2_with fail
    go_region
    all_goals go_wp2_with fail
    all_goals refine bodyPost_ret (results_blk rfl _ _ w.heap.size _ rfl rfl (unhide FI _ _ _).1) rfl ?_
    all_goals rw [unhide hv, unhide hS]
    all_goals exact ⟨rfl, (unhide FI _ _ _).2⟩
end
end Go.Proofs.YtnoabdafmgmenaaGreatDoor

namespace Go.Proofs.YtnoabdafmgmenaaGreatDoor
open Go.RowKit
set_option linter.unusedVariables false
set_option linter.unusedSimpArgs false

set_option maxHeartbeats 1000000 in
theorem begun_any (w : World) (bo : Option Addr) (bn bc : Nat) (bs : List Int) (m : Int) (hb : Bs w bo bn bc bs) (hv : Vars w) (hn : bn ≤ 1000000) (m0 : 0 ≤ m) (m1 : m ≤ 1000000) :
    Calls Tryz.prog 53 #[.slice bo bn bc, .int .i64 m] w fun e w' => e = .returned (.pointer (some ⟨w.heap.size, 0, none⟩)) ∧ St ⟨bo, bn, bc, bs, m⟩ w.heap.size w' .none 0 ⟨0, 0, []⟩ false ∧ Below w.heap.size w w' := by
  have hle := hb.le
  have hmx := hb.max
  have hbl := hb.len
  have HB := hide hb
  have HV := hide hv
  clear hb hv
  have m0' : ¬ m < 0 := by omega
  go_enter Tryz.func53, Tryz.ntmps53
  go_wp2_with fail
  go_ret
  refine ⟨rfl, ⟨heap_alloc_new w _, Mine.nought _ _, fun w1 f => (unhide HB).later ((below_alloc w _).trans f), (unhide HV).later (Nat.le_refl 3) ((below_alloc w _).mono (unhide HV).size), (unhide HV).size, ⟨by simp, by simp, by simp, by simp, hn, m0, m1, hle, hmx, hbl⟩⟩, below_alloc w _⟩

theorem fldN_p {b : List Int} : ∀ {n : Nat} {s : PS}, (fldN b n s).2.e = 0 → (fldN b n s).2.p = s.p + n
  | 0, s, h => rfl
  | n + 1, s, h => by
    have hl := nice_bit.live (b := b) (m := 0) (s := (fldN b n s).2) h
    have ih := fldN_p (b := b) (n := n) (s := s) hl
    simp only [fldN] at h ⊢
    by_cases hs : (fldN b n s).2.p / 8 < b.length
    · rw [bitS_live hl hs]
      simp only [ih]
      omega
    · rw [bitS_short hl hs] at h
      simp at h
theorem blk_p {F : Nat} {b : List Int} {m : Int} {s : PS} (h : (blkS F b m s).e = 0) : s.e = 0 ∧ (hd1 b s).2.e = 0 ∧ (hd2 b s).2.e = 0 ∧ s.p + 3 ≤ (blkS F b m s).p ∧ (hd2 b s).1 ≤ 2 := by
  have h2 : (hd2 b s).2.e = 0 := (nice_knd F (hd2 b s).1).live (b := b) (m := m) h
  have h1 : (hd1 b s).2.e = 0 := (nice_fld 2).live (b := b) (m := 0) h2
  have h0 : s.e = 0 := (nice_fld 1).live (b := b) (m := 0) h1
  have p1 : (hd1 b s).2.p = s.p + 1 := fldN_p h1
  have p2 : (hd2 b s).2.p = (hd1 b s).2.p + 2 := fldN_p h2
  have up := (nice_knd F (hd2 b s).1).up b m (hd2 b s).2 h2 h
  have bd := fldN_bd b 2 (hd1 b s).2
  refine ⟨h0, h1, h2, ?_, ?_⟩
  · have : (hd2 b s).2.p ≤ (blkS F b m s).p := up.1
    omega
  · by_cases h3 : (hd2 b s).1 = 3
    · exfalso
      unfold blkS at h
      rw [h3] at h
      exact absurd h (stopS_e 5 _ (by omega))
    · have : (hd2 b s).1 < 2 ^ 2 := bd.2
      omega

def ovAt (g : Nat) (w : World) : Bool := match w.cell? ⟨g, 5, none⟩ with | some (.bool z) => z | _ => true
section
variable {E : Env} {g : Nat} {w0 : World} {oo : Option Addr} {oc : Nat} {s : PS} {ov : Bool}
theorem St.ovAt (h : St E g w0 oo oc s ov) : ovAt g w0 = ov := by unfold Proofs.YtnoabdafmgmenaaGreatDoor.ovAt; rw [h.c5]

/-- How much is left to be read. -/
def msI (g K : Nat) (w : World) : Nat := if ovAt g w = false ∧ errAt g w = 0 then K + 1 - (posAt g w).toNat else 0
theorem msI_on (h : St E g w0 oo oc s ov) (ho : ov = false) (he : s.e = 0) : msI g (8 * E.bn) w0 = 8 * E.bn + 1 - s.p := by
  unfold msI
  rw [h.ovAt, h.errAt, h.posAt, if_pos ⟨ho, he⟩]
  simp
theorem msI_lt (h : St E g w0 oo oc s ov) {p : Nat} (hp : p ≤ 8 * E.bn) (hs : s.e = 0 → p + 1 ≤ s.p) : msI g (8 * E.bn) w0 < 8 * E.bn + 1 - p := by
  unfold msI
  rw [h.ovAt, h.errAt, h.posAt]
  split
  · rename_i q
    have := hs q.2
    have := h.fit.p
    simp only [Int.toNat_natCast]
    omega
  · omega
/-- What holds at the loop's head. -/
def RelI (E : Env) (F : Nat) (w : World) (R : List Blk × PS) (wr : World) : Prop :=
  ∃ (t : PS) (f : Nat) (ov : Bool) (l : List Blk) (oo : Option Addr) (oc : Nat), allS F E.bs E.m f ov l t = R ∧ (t.e = 0 → 8 * E.bn + 1 ≤ f + t.p) ∧ St E w.heap.size wr oo oc t ov ∧ Below w.heap.size w wr
end

theorem allS_end {F : Nat} {b : List Int} {m : Int} {ov : Bool} {l : List Blk} {s : PS} (h : ¬ (ov = false ∧ s.e = 0)) : ∀ f, allS F b m f ov l s = (l, s)
  | 0 => rfl
  | f + 1 => by simp only [allS]; exact if_neg h
theorem allS_on {F : Nat} {b : List Int} {m : Int} {ov : Bool} {l : List Blk} {s : PS} (ho : ov = false) (he : s.e = 0) (f : Nat) : allS F b m (f + 1) ov l s = allS F b m f (blkV F b m s).last (l ++ [blkV F b m s]) (blkS F b m s) := by
  simp only [allS]
  exact if_pos ⟨ho, he⟩

/-- What Inflate answers. -/
def infR (r : List Blk × PS) : List Int × Int × Int := if r.2.e = 0 then (r.2.o, ((r.2.p : Int) + 7) / 8, 0) else ([], 0, r.2.e)
def OutI (w : World) (r : List Int × Int × Int) (e : Ending) (w' : World) : Prop :=
  ∃ ao n c, e = .returned (.tuple #[.slice ao n c, .int .i64 r.2.1, .int .i64 r.2.2]) ∧ Mine w.heap.size w' ao n c r.1 ∧ Below w.heap.size w w'

set_option maxHeartbeats 2000000 in
theorem inflate_any (F : Nat) (w : World) (bo : Option Addr) (bn bc : Nat) (bs : List Int) (m : Int) (hb : Bs w bo bn bc bs) (hv : Vars w) (hn : bn ≤ 1000000) (m0 : 0 ≤ m) (m1 : m ≤ 1000000) (hF : 8 * bn + 1 ≤ F) :
    Calls Tryz.prog 42 #[.slice bo bn bc, .int .i64 m] w fun e w' => OutI w (infR (infS F bs m)) e w' := by
  have bc_ := hide (begun_any w bo bn bc bs m hb hv hn m0 m1)
  clear hb hv
  generalize hE : (⟨bo, bn, bc, bs, m⟩ : Env) = E at bc_
  have hE1 : E.bs = bs := by rw [← hE]
  have hE2 : E.m = m := by rw [← hE]
  have hE3 : E.bn = bn := by rw [← hE]
  generalize hR : infS F bs m = R
  have HR := hide (show allS F E.bs E.m F false [] ⟨0, 0, []⟩ = R by rw [hE1, hE2]; exact hR)
  rw [← hE3] at hF
  clear hE1 hE2 hR
  have hE3' := hide hE3
  have HE := hide hE
  clear hE hE3
  go_enter Tryz.func42, Tryz.ntmps42
  go_wp2_with fail
  refine (unhide bc_).mono ?_
  rintro e w1 ⟨rfl, s1, b1⟩
  have S1 := hide s1
  clear s1
  go_wp2_with fail
  go_loopw [] (fun wr => RelI E F w R wr) (fun wr => msI w.heap.size (8 * E.bn) wr)
  case atStart => exact ⟨⟨0, 0, []⟩, F, false, [], .none, 0, unhide HR, fun _ => by simp; omega, unhide S1, b1⟩
  case round =>
    obtain ⟨t, f, ov, l, oo, oc, ha, hf, st, bl⟩ := hrel
    have gc := hide (goesOn_any wr st)
    have c1 := st.c1
    have c2 := st.c2
    have c4 := st.c4
    have hp := st.fit.p
    have hbn := st.fit.bn
    have ST := hide st
    have HA := hide ha
    clear ha st
    by_cases hg : ov = false ∧ t.e = 0
    · have hms := hide (msI_on (unhide ST) hg.1 hg.2)
      have hfa := hf hg.2
      obtain ⟨f', hf'⟩ : ∃ f', f = f' + 1 := ⟨f - 1, by omega⟩
      subst hf'
      have hnx := hide (show allS F E.bs E.m f' (blkV F E.bs E.m t).last (l ++ [blkV F E.bs E.m t]) (blkS F E.bs E.m t) = R by rw [← unhide HA, allS_on hg.1 hg.2])
      have bk := hide (block_any F wr hF (unhide ST))
      have hd : decide (ov = false ∧ t.e = 0) = true := by simpa using hg
      rw [hd] at gc
      have up := hide (fun q => (blk_p (F := F) (b := E.bs) (m := E.m) (s := t) q).2.2.2.1)
      clear hd hf hg
      go_wp2_with fail
      refine same_world (unhide gc) ?_
      go_wp2_with fail
      refine (unhide bk).mono ?_
      rintro e w2 ⟨rfl, oo2, oc2, s2, f2⟩
      have B2 := hide (bl.trans ((unhide ST).below f2))
      have hm2 := hide (msI_lt s2 hp (fun q => by have := unhide up q; omega))
      have S2 := hide s2
      clear s2 f2
      go_wp2_with fail
      go_roundw
      case rel => exact ⟨_, f', _, _, oo2, oc2, unhide hnx, fun q => by have := unhide up q; omega, unhide S2, unhide B2⟩
      case measure => rw [unhide hms]; exact unhide hm2
    · have hd : decide (ov = false ∧ t.e = 0) = false := by simpa using hg
      rw [hd] at gc
      have hR := hide (show R = (l, t) by rw [← unhide HA]; exact allS_end hg f)
      clear hd hg hf
      by_cases he : t.e = 0
      · have he' : (t.e != 0) = false := by simpa using he
        have hfin := hide (show infR R = (t.o, ((t.p : Int) + 7) / 8, 0) by rw [unhide hR]; exact if_pos he)
        go_wp2_with fail
        refine same_world (unhide gc) ?_
        go_wp2_with fail
        go_quiet (fail)
        go_wp2_with fail
        go_ret3
        rw [unhide hfin]
        exact ⟨oo, _, oc, rfl, ((unhide ST).out.mono (by omega)).later ⟨rfl, rfl, rfl, Nat.le_refl _, fun _ _ => rfl⟩, bl.trans ⟨rfl, rfl, rfl, Nat.le_refl _, fun _ _ => rfl⟩⟩
      · have he' : (t.e != 0) = true := by simpa using he
        have hfin := hide (show infR R = ([], 0, t.e) by rw [unhide hR]; exact if_neg he)
        go_wp2_with fail
        refine same_world (unhide gc) ?_
        go_wp2_with fail
        go_quiet (fail)
        go_wp2_with fail
        go_ret3
        rw [unhide hfin]
        exact ⟨.none, 0, 0, rfl, Mine.nought _ _, bl.trans ⟨rfl, rfl, rfl, Nat.le_refl _, fun _ _ => rfl⟩⟩

end Go.Proofs.YtnoabdafmgmenaaGreatDoor

namespace Go.Proofs.YtnoabdafmgmenaaGreatDoor
set_option linter.unusedVariables false
set_option linter.unusedSimpArgs false

theorem nice_blkB (F : Nat) : Nice (fun b m s => (blkV F b m s, blkS F b m s)) := by
  have h := nice_blk F
  have key : ∀ b m b' m' s, blkN F b' m' s = blkN F b m s → (blkV F b' m' s, blkS F b' m' s) = (blkV F b m s, blkS F b m s) := by
    intro b m b' m' s e
    have e1 : (hd1 b' s).1 = (hd1 b s).1 := congrArg (fun x => x.1.1) e
    have e2 : (hd2 b' s).1 = (hd2 b s).1 := congrArg (fun x => x.1.2) e
    have e3 : blkS F b' m' s = blkS F b m s := congrArg (fun x => x.2) e
    unfold blkV
    rw [e1, e2, e3]
  refine ⟨fun b m s q => h.dead b m s q, fun b m s q he => h.up b m s q he, fun b m b' m' s q he ha hm => key b m b' m' s (h.loc b m b' m' s q he ha hm), fun z b m b' m' s hc q he => ?_⟩
  rcases h.cut z b m b' m' s hc q he with e | e
  · exact .inl (key b m b' m' s e)
  · exact .inr e
theorem nice_all (F : Nat) : ∀ f ov l, Nice (fun b m s => allS F b m f ov l s)
  | 0, ov, l => Nice.pure l
  | f + 1, ov, l => Nice.iteS (fun s => ov = false ∧ s.e = 0) (Nice.bind (f := fun b m s => (blkV F b m s, blkS F b m s)) (g := fun x b m s => allS F b m f x.last (l ++ [x]) s) (nice_blkB F) (fun x => nice_all F f _ _)) (Nice.pure l)
theorem nice_inf (F : Nat) : Nice (fun b m s => allS F b m F false [] s) := nice_all F F false []

theorem inf_up {F : Nat} {b : List Int} {m : Int} (hF : 1 ≤ F) (m0 : 0 ≤ m) (h : (infS F b m).2.e = 0) : 3 ≤ (infS F b m).2.p ∧ (infS F b m).2.p ≤ 8 * b.length ∧ ((infS F b m).2.o.length : Int) ≤ m := by
  have u := (nice_inf F).up b m ⟨0, 0, []⟩ rfl h
  refine ⟨?_, u.2.2.1 (by simp), u.2.2.2 (by simpa using m0)⟩
  obtain ⟨f, rfl⟩ : ∃ f, F = f + 1 := ⟨F - 1, by omega⟩
  unfold infS at h ⊢
  rw [allS_on rfl rfl f] at h ⊢
  have hb : (blkS (f + 1) b m ⟨0, 0, []⟩).e = 0 := (nice_all (f + 1) f _ _).live h
  have h1 := (blk_p hb).2.2.2.1
  have h2 := ((nice_all (f + 1) f (blkV (f + 1) b m ⟨0, 0, []⟩).last ([] ++ [blkV (f + 1) b m ⟨0, 0, []⟩])).up b m _ hb h).1
  have h3 : (⟨0, 0, []⟩ : PS).p = 0 := rfl
  omega
/-- Of how many bytes a bit was read. -/
theorem inf_same {F : Nat} {b : List Int} {m : Int} (n : Nat) (behind : List Int) (h : (infS F b m).2.e = 0) (hn : n = ((infS F b m).2.p + 7) / 8) (hl : n ≤ b.length) : infS F (b.take n ++ behind) ((infS F b m).2.o.length : Int) = infS F b m := by
  refine (nice_inf F).loc b m _ _ ⟨0, 0, []⟩ rfl h ⟨?_, fun i hi => ?_⟩ (Int.le_refl _)
  · have : (infS F b m).2.p ≤ 8 * n := by omega
    show (infS F b m).2.p ≤ _
    simp
    omega
  · have hi' : i < (infS F b m).2.p := hi
    have : i / 8 < n := by omega
    unfold bitAt
    rw [List.getElem?_append_left (by simp; omega), List.getElem?_take_of_lt this]
theorem inf_short {F : Nat} {b : List Int} {m : Int} (hF : 1 ≤ F) (m0 : 0 ≤ m) (n : Nat) (h : (infS F b m).2.e = 0) (hn : n = ((infS F b m).2.p + 7) / 8) : (infS F (b.take (n - 1)) m).2.e = 4 := by
  rcases (nice_inf F).cut 4 b m (b.take (n - 1)) m ⟨0, 0, []⟩ (.inl ⟨rfl, rfl, n - 1, rfl⟩) rfl h with e | e
  · exfalso
    have e' : infS F (b.take (n - 1)) m = infS F b m := e
    have h2 : (infS F (b.take (n - 1)) m).2.e = 0 := by rw [e']; exact h
    have u := (inf_up hF m0 h2).2.1
    have u1 := (inf_up hF m0 h).1
    rw [e'] at u
    simp at u
    omega
  · exact e
theorem inf_long {F : Nat} {b : List Int} {m m' : Int} (hF : 1 ≤ F) (m0 : 0 ≤ m') (h : (infS F b m).2.e = 0) (hm : m' < ((infS F b m).2.o.length : Int)) (hm2 : m' ≤ m) : (infS F b m').2.e = 3 := by
  rcases (nice_inf F).cut 3 b m b m' ⟨0, 0, []⟩ (.inr ⟨rfl, rfl, hm2⟩) rfl h with e | e
  · exfalso
    have e' : infS F b m' = infS F b m := e
    have h2 : (infS F b m').2.e = 0 := by rw [e']; exact h
    have u := (inf_up hF m0 h2).2.2
    rw [e'] at u
    omega
  · exact e
theorem infR_e (r : List Blk × PS) : (infR r).2.2 = r.2.e := by
  unfold infR
  split
  · rename_i h; exact h.symm
  · rfl
theorem infR_ok {r : List Blk × PS} (h : r.2.e = 0) : infR r = (r.2.o, ((r.2.p : Int) + 7) / 8, 0) := if_pos h
theorem infR_no {r : List Blk × PS} (h : r.2.e ≠ 0) : infR r = ([], 0, r.2.e) := if_neg h

end Go.Proofs.YtnoabdafmgmenaaGreatDoor

namespace Go.Proofs.YtnoabdafmgmenaaGreatDoor
open Go.RowKit
set_option linter.unusedVariables false
set_option linter.unusedSimpArgs false

theorem gLen : Tryz.prog.globalNamed "sluicegate/inflate.copyLengths" = some 0 := by kernel_rfl
theorem gDst : Tryz.prog.globalNamed "sluicegate/inflate.copyDistances" = some 1 := by kernel_rfl
theorem gOrd : Tryz.prog.globalNamed "sluicegate/inflate.lengthOrder" = some 2 := by kernel_rfl
theorem tLen : (Tryz.prog.globals[0]?).map (·.type) = some 148 := by kernel_rfl
theorem tDst : (Tryz.prog.globals[1]?).map (·.type) = some 162 := by kernel_rfl
theorem tOrd : (Tryz.prog.globals[2]?).map (·.type) = some 164 := by kernel_rfl

/-- The variables that the rows list. -/
def laid3 : List (String × DataW Unit) := [("sluicegate/inflate.copyLengths", Rows.laid_sluicegate_inflate_copyLengths), ("sluicegate/inflate.copyDistances", Rows.laid_sluicegate_inflate_copyDistances), ("sluicegate/inflate.lengthOrder", Rows.laid_sluicegate_inflate_lengthOrder)]

set_option maxRecDepth 100000 in
theorem door_met (os : Os) (args : Array Value) : laidMetH Tryz.prog laid3 ((World.doorLaid Tryz.prog 400 os).forCall (fun _ _ => 0) ⟨#[], args, []⟩).memory :=
  laidMetH_of_parts3 (fuel := 8) (laidMet_of_run' 8 (by kernel_rfl) (by kernel_rfl)) (by kernel_rfl) (by kernel_rfl)

def spn {H : Type} (p : Nat × Nat) : DataW H := .agg [.lit (.int .i64 (p.1 : Int)), .lit (.int .i64 (p.2 : Int))]
theorem lenD : (Rows.laid_sluicegate_inflate_copyLengths : DataW Unit) = .agg ((lenB.zip lenX).map spn) := rfl
theorem dstD : (Rows.laid_sluicegate_inflate_copyDistances : DataW Unit) = .agg ((dstB.zip dstX).map spn) := rfl
theorem ordD : (Rows.laid_sluicegate_inflate_lengthOrder : DataW Unit) = Lib.tabData .i64 (ordL.map fun (n : Nat) => (n : Int)) := rfl

theorem spans_of {W : World} {enc : TypeId × Value → Unit} {base : Nat} {sp : Nat → Bool} {held : Bool} {fuel n : Nat} {t : TypeId} {cs : List Value} {L : List (Nat × Nat)} {p : List MemPlace}
    (hu : Tryz.prog.underlying t = some (.array n 147)) (h : DataW.trod enc Tryz.prog W base sp held fuel t cs = some (.agg (L.map spn), p)) : ∀ i, i < n → ∃ q, L[i]? = some q ∧ cs[i * 2]? = some (.int .i64 (q.1 : Int)) ∧ cs[i * 2 + 1]? = some (.int .i64 (q.2 : Int)) := by
  intro i hi
  have c54 : Tryz.prog.cellsOf 147 = 2 := by kernel_rfl
  have c3 : Tryz.prog.cellsOf 3 = 1 := by kernel_rfl
  obtain ⟨xs, m, rfl, hx, hl, hn, hel⟩ := DataW.trod_array hu h
  have hxs : L.map spn = xs.map (·.1) := by
    have := congrArg Prod.fst hx
    simpa using this
  have h1 := hel i hi
  rw [c54] at h1
  obtain ⟨x, hx1⟩ : ∃ x, xs[i]? = some x := ⟨xs[i], by simp [hn, hi]⟩
  rw [hx1] at h1
  have hLl : L.length = n := by
    have := congrArg List.length hxs
    simp at this
    omega
  obtain ⟨q, hq⟩ : ∃ q, L[i]? = some q := ⟨L[i]'(by omega), by simp [hLl, hi]⟩
  have hxq : x.1 = spn q := by
    have := congrArg (·[i]?) hxs
    simp [hx1, hq] at this
    exact this.symm
  refine ⟨q, hq, ?_⟩
  obtain ⟨ys, m2, rfl, hy, hyl, hyn, hye⟩ := DataW.trod_struct Tryz.underlying147 h1
  obtain ⟨x1, x2⟩ := x
  simp only [Prod.mk.injEq] at hy
  simp only at hxq
  rw [hxq, spn] at hy
  have hys : ys.map (·.1) = [DataW.lit (.int .i64 (q.1 : Int)), .lit (.int .i64 (q.2 : Int))] := by
    have := hy.1
    simpa using this.symm
  match ys, hys, hye with
  | [y0, y1], hys, hye =>
    simp at hys
    have e0 := hye 0 _ rfl
    have e1 := hye 1 _ rfl
    simp only [List.getElem?_cons_zero, List.getElem?_cons_succ] at e0 e1
    obtain ⟨k0, d0, f0, _⟩ := DataW.trod_int Tryz.underlying3 e0
    obtain ⟨k1, d1, f1, _⟩ := DataW.trod_int Tryz.underlying3 e1
    rw [f0, f1] at hys
    simp at hys
    have d0' : List.take (Tryz.prog.cellsOf 3) (List.drop 0 (List.take 2 (List.drop (i * 2) cs))) = [Value.int .i64 k0] := d0
    have d1' : List.take (Tryz.prog.cellsOf 3) (List.drop 1 (List.take 2 (List.drop (i * 2) cs))) = [Value.int .i64 k1] := d1
    rw [c3] at d0' d1'
    constructor
    · have := congrArg (·[0]?) d0'
      simp [List.getElem?_take, List.getElem?_drop] at this
      rw [this, hys.1]
    · have := congrArg (·[0]?) d1'
      simp [List.getElem?_take, List.getElem?_drop] at this
      rw [this, hys.2]

theorem vars_of_laid {W : World} (h : laidMetH Tryz.prog laid3 W) : Vars W := by
  rw [MakeChecks.laidMetH_plain _ _ _ (by kernel_rfl)] at h
  obtain ⟨ps, ⟨g0, t0, cs0, f0, p0, q0, hg0, ht0, hv0, hd0, ⟨g1, t1, cs1, f1, p1, q1, hg1, ht1, hv1, hd1, ⟨g2, t2, cs2, f2, p2, q2, hg2, ht2, hv2, hd2, _, _⟩, _⟩, _⟩, _, _⟩ := h
  obtain rfl := Option.some.inj (gLen.symm.trans hg0)
  obtain rfl := Option.some.inj (gDst.symm.trans hg1)
  obtain rfl := Option.some.inj (gOrd.symm.trans hg2)
  obtain rfl := Option.some.inj (tLen.symm.trans ht0)
  obtain rfl := Option.some.inj (tDst.symm.trans ht1)
  obtain rfl := Option.some.inj (tOrd.symm.trans ht2)
  rw [lenD] at hd0
  rw [dstD] at hd1
  rw [ordD] at hd2
  have s0 := spans_of Tryz.underlying148 hd0
  have s1 := spans_of Tryz.underlying162 hd1
  have s2 := Lib.cells_of_tab Tryz.underlying164 Tryz.underlying3 (by kernel_rfl) (by kernel_rfl) hd2
  have zl : ∀ i, i < 29 → ∀ q, (lenB.zip lenX)[i]? = some q → q.1 = lenB[i]?.getD 0 ∧ q.2 = lenX[i]?.getD 0 := by
    intro i hi q hq
    rw [List.getElem?_zip_eq_some] at hq
    rw [hq.1, hq.2]
    exact ⟨rfl, rfl⟩
  have zd : ∀ i, i < 30 → ∀ q, (dstB.zip dstX)[i]? = some q → q.1 = dstB[i]?.getD 0 ∧ q.2 = dstX[i]?.getD 0 := by
    intro i hi q hq
    rw [List.getElem?_zip_eq_some] at hq
    rw [hq.1, hq.2]
    exact ⟨rfl, rfl⟩
  have key2 : ∀ i, i < 19 → W.cell? ⟨2, i, none⟩ = some (.int .i64 ((ordL[i]?.getD 0 : Nat) : Int)) := by
    intro i hi
    have hl : ordL.length = 19 := rfl
    rw [World.var?_cell hg2 hv2 i, ← Array.getElem?_toList, s2]
    simp [List.getElem?_eq_getElem (show i < ordL.length by omega)]
  refine ⟨fun i hi => ?_, fun i hi => ?_, fun i hi => ?_, fun i hi => ?_, key2, ?_⟩
  · obtain ⟨q, hq, a, b⟩ := s0 i hi
    rw [World.var?_cell hg0 hv0, ← Array.getElem?_toList, a, (zl i hi q hq).1]
  · obtain ⟨q, hq, a, b⟩ := s0 i hi
    rw [World.var?_cell hg0 hv0, ← Array.getElem?_toList, b, (zl i hi q hq).2]
  · obtain ⟨q, hq, a, b⟩ := s1 i hi
    rw [World.var?_cell hg1 hv1, ← Array.getElem?_toList, a, (zd i hi q hq).1]
  · obtain ⟨q, hq, a, b⟩ := s1 i hi
    rw [World.var?_cell hg1 hv1, ← Array.getElem?_toList, b, (zd i hi q hq).2]
  · have h2 := key2 0 (by omega)
    rcases Nat.lt_or_ge 2 W.heap.size with q | q
    · exact q
    · simp [World.cell?, Array.getElem?_eq_none q] at h2

end Go.Proofs.YtnoabdafmgmenaaGreatDoor
