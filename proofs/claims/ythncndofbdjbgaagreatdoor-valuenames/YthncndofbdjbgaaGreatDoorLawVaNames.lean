/-
  ValueNames walked: it returns true. Conditions: the library's variables read as their initialisers lay them.
-/
import Derived.Test.YthncndofbdjbgaaGreatDoorVaRd6
import Derived.Test.YthncndofbdjbgaaGreatDoorVaOf2
import Derived.Test.YthncndofbdjbgaaGreatDoorVaLives
import Derived.BigQuiet
namespace Go.Proofs.YthncndofbdjbgaaGreatDoor
open Go.RowKit
set_option linter.unusedVariables false
set_option linter.unusedSimpArgs false

def exM : Va := ⟨5, 0, 0, ⟨#[]⟩, ⟨false, 2026, 11, 15, 11, 57, 25, 1⟩⟩
def ex1 : Va := ⟨1, -1, 0, ⟨#[]⟩, wh0⟩
def ex2 : Va := ⟨2, 0, 255, ⟨#[]⟩, wh0⟩
def ex3 : Va := ⟨1, 128, 0, ⟨#[]⟩, wh0⟩
def ex4 : Va := ⟨5, 0, 0, ⟨#[]⟩, ⟨false, 2026, 11, 15, 0, 0, 0, 0⟩⟩
def ex5 : Va := ⟨5, 0, 0, ⟨#[]⟩, wh0⟩
def ex6 : Va := ⟨6, 0, 0, ⟨#[]⟩, ⟨false, 0, 0, 1, 2, 0, 0, 0⟩⟩
theorem exM_tx : txR exM 12 false = (⟨#[50, 48, 50, 54, 45, 49, 49, 45, 49, 53, 32, 49, 49, 58, 53, 55, 58, 50, 53, 46, 48, 48, 48, 48, 48, 49]⟩, 0) := by decide +kernel
theorem rd_1 : rdV [4, 234, 7, 13, 1] 10 false = (va0, 0, 5) := by decide +kernel
theorem rd_2 : rdV [5] 10 false = (va0, 0, 5) := by decide +kernel
theorem rd_3 : rdV [4, 1] 10 false = (va0, 0, 4) := by decide +kernel
theorem of_1 : ofV ⟨#[48, 48, 55]⟩ 3 false = (va0, 5) := by decide +kernel
theorem of_2 : ofV ⟨#[45, 48]⟩ 3 false = (va0, 5) := by decide +kernel
theorem of_3 : ofV ⟨#[50, 54, 58, 48, 48, 58, 48, 48]⟩ 11 false = (ex6, 0) := by decide +kernel
theorem b_1 : bOk ex1 8 false = true ∧ vaB ex1 8 = [255, 255, 255, 255, 255, 255, 255, 255] := by decide +kernel
theorem b_2 : bOk ex2 1 true = true ∧ vaB ex2 1 = [255] := by decide +kernel
theorem b_3 : bOk ex3 1 false = false := by decide +kernel
theorem b_4 : bOk ex4 10 false = true ∧ vaB ex4 10 = [4, 234, 7, 11, 15] := by decide +kernel
theorem b_5 : bOk exM 12 false = true ∧ vaB exM 12 = [11, 234, 7, 11, 15, 11, 57, 25, 1, 0, 0, 0] := by decide +kernel
theorem b_6 : bOk ex5 10 false = true ∧ vaB ex5 10 = [0] := by decide +kernel

set_option maxHeartbeats 4000000 in
set_option maxRecDepth 100000 in
theorem lmom_any (w : World) : Calls Tryz.prog 8 #[] w fun e w' => e = .returned (.agg (vaC exM)) ∧ Below w.heap.size w w' := by
  have R := hide (heap_alloc_new w (.cells (vaC exM) 32))
  have B := hide (below_alloc w (.cells (vaC exM) 32))
  have SV := hide (vaC_size exM)
  unfold vaC exM
  simp only
  go_enter Tryz.func8, Tryz.ntmps8
  go_wp2_with fail
  refine bodyPost_ret (results_cell_row rfl _ _ w.heap.size _ _ _ _ rfl (unhide R) Tryz.underlying32 rfl (unhide SV)) rfl ?_
  exact ⟨rfl, unhide B⟩
/-- What stands through the walk. -/
structure Nd (w0 w : World) : Prop where
  z : VarZ w
  b : Below w0.heap.size w0 w
  r0 : w.heap[w0.heap.size]? = some (.cells #[.int .u8 10, .bool false] 23 (0, 0))
  r1 : w.heap[w0.heap.size + 1]? = some (.cells #[.int .u8 1, .bool false] 23 (0, 0))
theorem Nd.later {w0 w w' : World} (h : Nd w0 w) (b : Below w.heap.size w w') : Nd w0 w' := ⟨h.z.later b, vbup h.b b, vrow_later h.r0 b, vrow_later h.r1 b⟩
theorem Nd.al {w0 w : World} (h : Nd w0 w) (o : Obj) : Nd w0 (w.alloc o) := h.later (below_alloc w o)
theorem bs_al {w : World} {ao : Option Addr} {n c : Nat} {l : List Int} (h : Bs w ao n c l) (o : Obj) : Bs (w.alloc o) ao n c l := h.later (below_alloc w o)
theorem Nd.cells {w0 w : World} (h : Nd w0 w) : w.cell? ⟨w0.heap.size, 0, none⟩ = some (.int .u8 10) ∧ w.cell? ⟨w0.heap.size, 1, none⟩ = some (.bool false) ∧ w.cell? ⟨w0.heap.size + 1, 0, none⟩ = some (.int .u8 1) ∧ w.cell? ⟨w0.heap.size + 1, 1, none⟩ = some (.bool false) :=
  ⟨vrow_cell h.r0 (j := 0) rfl, vrow_cell h.r0 (j := 1) rfl, vrow_cell h.r1 (j := 0) rfl, vrow_cell h.r1 (j := 1) rfl⟩
theorem bs_row {w : World} {g : Nat} {l : List Int} (hb : Byt l) (hl : l.length ≤ 1000) (hg : w.heap[g]? = some (.cells (l.map (Value.int .u8)).toArray 5 (0, 0))) : Bs w (some ⟨g, 0, none⟩) l.length l.length l := by
  refine ⟨rfl, Nat.le_refl _, by omega, (fun e => by cases e), hb, .inr ⟨g, 0, rfl, fun i hi => ?_⟩⟩
  rw [cell_of_row w g _ _ _ _ hg, Nat.zero_add]
  simp [hi]
theorem same_lits {w : World} {ao : Option Addr} {c : Nat} {l : List Int} {g N : Nat} (hN : l.length = N) (ha : Bs w ao N c l) (hl : l.length ≤ 1000) (hg : w.heap[g]? = some (.cells (l.map (Value.int .u8)).toArray 5 (0, 0))) : Calls Tryz.prog 7 #[.slice ao N c, .slice (some ⟨g, 0, none⟩) N N] w fun e w' => e = .returned (.bool true) ∧ w' = w := by
  subst hN
  have q := sameBytes_any ao l.length c l (some ⟨g, 0, none⟩) l.length l.length l w ha (bs_row ha.byt hl hg)
  rw [decide_eq_true rfl] at q
  exact q
theorem top1 (w : World) (o : Obj) (cs : Array Value) (T : TypeId) : ((w.alloc o).alloc (.cells cs T)).heap[w.heap.size + 1]? = some (.cells cs T (0, 0)) := by
  have q := heap_alloc_new (w.alloc o) (.cells cs T)
  rwa [show (w.alloc o).heap.size = w.heap.size + 1 by simp] at q
theorem top2 (w : World) (o p : Obj) (cs : Array Value) (T : TypeId) : (((w.alloc o).alloc p).alloc (.cells cs T)).heap[w.heap.size + 1 + 1]? = some (.cells cs T (0, 0)) := by
  have q := heap_alloc_new ((w.alloc o).alloc p) (.cells cs T)
  rwa [show ((w.alloc o).alloc p).heap.size = w.heap.size + 1 + 1 by simp] at q
theorem app_no (v : Va) (t : Int) (un : Bool) (hK : VaK v) (hs : v.t.size = 0) (q : 0 ≤ t ∧ t < 256) (hO : bOk v t un = false) (w : World) :
    Calls Tryz.prog 6 #[.slice none 0 0, .agg (vaC v), .agg #[.int .u8 t, .bool un]] w fun e w' => e = .returned (.tuple #[.slice none 0 0, .int .i64 2]) ∧ Below w.heap.size w w' := by
  have q := append_any none 0 0 [] v t un w q.1 q.2 hK (Bs.nought w) (by simp) (by omega)
  rw [if_neg (by rw [hO]; decide)] at q
  exact q
set_option maxHeartbeats 4000000 in
set_option maxRecDepth 100000 in
theorem lawVaNames (w : World) (hz : VarZ w) : Calls Tryz.prog 3 #[] w fun e w' => e = .returned (.bool true) ∧ Below w.heap.size w w' := by
  have S1 : Hid (Nd w ((w.alloc (.cells #[.int .u8 10, .bool false] 23)).alloc (.cells #[.int .u8 1, .bool false] 23))) := hide ⟨(hz.later (below_alloc w _)).later (below_alloc _ _), (below_alloc w _).trans ((below_alloc _ _).mono (by simp)), vrow_later (heap_alloc_new w _) (below_alloc _ _), by
      have q := heap_alloc_new (w.alloc (.cells #[.int .u8 10, .bool false] 23)) (.cells #[.int .u8 1, .bool false] 23)
      rw [show (w.alloc (.cells #[.int .u8 10, .bool false] 23)).heap.size = w.heap.size + 1 by simp] at q
      exact q⟩
  have c1 := hide (fun wx => app_lit ex1 8 false [255, 255, 255, 255, 255, 255, 255, 255] 8 rfl (vak_lit _ (by decide)) rfl (by decide) b_1.1 b_1.2 wx)
  unfold vaC ex1 wh0 at c1
  simp only at c1
  have c2 := hide (fun wx => app_lit ex2 1 true [255] 1 rfl (vak_lit _ (by decide)) rfl (by decide) b_2.1 b_2.2 wx)
  unfold vaC ex2 wh0 at c2
  simp only at c2
  have c4 := hide (fun wx => app_lit ex4 10 false [4, 234, 7, 11, 15] 5 rfl (vak_lit _ (by decide)) rfl (by decide) b_4.1 b_4.2 wx)
  unfold vaC ex4 at c4
  simp only at c4
  have c5 := hide (fun wx => app_lit exM 12 false [11, 234, 7, 11, 15, 11, 57, 25, 1, 0, 0, 0] 12 rfl (vak_lit _ (by decide)) rfl (by decide) b_5.1 b_5.2 wx)
  unfold vaC exM at c5
  simp only at c5
  have c6 := hide (fun wx => app_lit ex5 10 false [0] 1 rfl (vak_lit _ (by decide)) rfl (by decide) b_6.1 b_6.2 wx)
  unfold vaC ex5 wh0 at c6
  simp only at c6
  have c3 := hide (fun wx => app_no ex3 1 false (vak_lit _ (by decide)) rfl (by decide) b_3 wx)
  unfold vaC ex3 wh0 at c3
  simp only at c3
  have cM := hide lmom_any
  unfold vaC exM at cM
  simp only at cM
  have cT := hide (fun wx (hx : VarZ wx) => text_any exM 12 false wx (by decide) (by decide) hx.v (vak_lit _ (by decide)))
  rw [exM_tx] at cT
  unfold vaC exM at cT
  simp only at cT
  have d1 := hide (fun (wx : World) ao (hx : Bs wx ao 5 5 [4, 234, 7, 13, 1]) => read_any ao 5 5 [4, 234, 7, 13, 1] 10 false wx (by decide) (by decide) hx)
  rw [rd_1] at d1
  unfold vaC va0 wh0 at d1
  simp only at d1
  have d2 := hide (fun (wx : World) ao (hx : Bs wx ao 1 1 [5]) => read_any ao 1 1 [5] 10 false wx (by decide) (by decide) hx)
  rw [rd_2] at d2
  unfold vaC va0 wh0 at d2
  simp only at d2
  have d3 := hide (fun (wx : World) ao (hx : Bs wx ao 2 2 [4, 1]) => read_any ao 2 2 [4, 1] 10 false wx (by decide) (by decide) hx)
  rw [rd_3] at d3
  unfold vaC va0 wh0 at d3
  simp only at d3
  have f1 := hide (fun wx (hx : VarZ wx) => of_any ⟨#[48, 48, 55]⟩ 3 false wx (by decide) (by decide) hx (by decide))
  rw [of_1] at f1
  unfold vaC va0 wh0 at f1
  simp only at f1
  have f2 := hide (fun wx (hx : VarZ wx) => of_any ⟨#[45, 48]⟩ 3 false wx (by decide) (by decide) hx (by decide))
  rw [of_2] at f2
  unfold vaC va0 wh0 at f2
  simp only at f2
  have f3 := hide (fun wx (hx : VarZ wx) => of_any ⟨#[50, 54, 58, 48, 48, 58, 48, 48]⟩ 11 false wx (by decide) (by decide) hx (by decide))
  rw [of_3] at f3
  unfold vaC ex6 at f3
  simp only at f3
  have cL := hide (fun wx (hx : VarZ wx) => lives_any wx hx.v)
  have E1 := eqv ex6 ex6
  rw [decide_eq_true rfl] at E1
  unfold vaC ex6 at E1
  simp only at E1
  clear hz
  go_enter Tryz.func3, Tryz.ntmps3
  go_wp2_with fail
  refine (unhide c1 _).mono ?_
  rintro e w3 ⟨a, ka, rfl, ma, b3⟩
  have S3 := hide ((unhide S1).later b3)
  clear b3 S1
  try clear x0 x1 x2 x3 l0 l1
  obtain ⟨x0, x1, x2, x3⟩ := (unhide S3).cells
  have l0 := (Array.getElem?_eq_some_iff.1 (unhide S3).r0).1
  have l1 := (Array.getElem?_eq_some_iff.1 (unhide S3).r1).1
  have Aa := hide ma.bs
  clear ma c1
  go_wp2_with fail
  refine (unhide c2 _).mono ?_
  rintro e w4 ⟨b, kb, rfl, mb, b4⟩
  have S4 := hide ((unhide S3).later b4)
  have Aa := hide ((unhide Aa).later b4)
  clear b4 S3
  try clear x0 x1 x2 x3 l0 l1
  obtain ⟨x0, x1, x2, x3⟩ := (unhide S4).cells
  have l0 := (Array.getElem?_eq_some_iff.1 (unhide S4).r0).1
  have l1 := (Array.getElem?_eq_some_iff.1 (unhide S4).r1).1
  have Ab := hide mb.bs
  clear mb c2
  go_wp2_with fail
  refine (unhide c3 _).mono ?_
  rintro e w5 ⟨rfl, b5⟩
  have S5 := hide ((unhide S4).later b5)
  have Aa := hide ((unhide Aa).later b5)
  have Ab := hide ((unhide Ab).later b5)
  clear b5 S4
  try clear x0 x1 x2 x3 l0 l1
  obtain ⟨x0, x1, x2, x3⟩ := (unhide S5).cells
  have l0 := (Array.getElem?_eq_some_iff.1 (unhide S5).r0).1
  have l1 := (Array.getElem?_eq_some_iff.1 (unhide S5).r1).1
  clear c3
  go_wp2_with fail
  refine same_world (same_lits rfl (bs_al (unhide Aa) _) (by simp) (heap_alloc_new _ _)) ?_
  go_wp2_with fail
  refine same_world (same_lits rfl (bs_al (bs_al (unhide Ab) _) _) (by simp) (top1 _ _ _ _)) ?_
  go_wp2_with fail
  refine (unhide cM _).mono ?_
  rintro e w6 ⟨rfl, b6⟩
  have S6 := hide ((((unhide S5).al _).al _).later b6)
  clear b6 S5
  try clear x0 x1 x2 x3 l0 l1
  obtain ⟨x0, x1, x2, x3⟩ := (unhide S6).cells
  have l0 := (Array.getElem?_eq_some_iff.1 (unhide S6).r0).1
  have l1 := (Array.getElem?_eq_some_iff.1 (unhide S6).r1).1
  go_wp2_with fail
  clear Aa Ab
  refine (unhide c4 _).mono ?_
  rintro e w7 ⟨a, ka, rfl, ma, b7⟩
  have S7 := hide (((unhide S6).al _).later b7)
  clear b7 S6
  try clear x0 x1 x2 x3 l0 l1
  obtain ⟨x0, x1, x2, x3⟩ := (unhide S7).cells
  have l0 := (Array.getElem?_eq_some_iff.1 (unhide S7).r0).1
  have l1 := (Array.getElem?_eq_some_iff.1 (unhide S7).r1).1
  have Aa := hide ma.bs
  clear ma c4
  go_wp2_with fail
  refine (unhide cM _).mono ?_
  rintro e w8 ⟨rfl, b8⟩
  have S8 := hide ((unhide S7).later b8)
  have Aa := hide ((unhide Aa).later b8)
  clear b8 S7
  try clear x0 x1 x2 x3 l0 l1
  obtain ⟨x0, x1, x2, x3⟩ := (unhide S8).cells
  have l0 := (Array.getElem?_eq_some_iff.1 (unhide S8).r0).1
  have l1 := (Array.getElem?_eq_some_iff.1 (unhide S8).r1).1
  go_wp2_with fail
  refine (unhide c5 _).mono ?_
  rintro e w9 ⟨b, kb, rfl, mb, b9⟩
  have S9 := hide ((unhide S8).later b9)
  have Aa := hide ((unhide Aa).later b9)
  clear b9 S8
  try clear x0 x1 x2 x3 l0 l1
  obtain ⟨x0, x1, x2, x3⟩ := (unhide S9).cells
  have l0 := (Array.getElem?_eq_some_iff.1 (unhide S9).r0).1
  have l1 := (Array.getElem?_eq_some_iff.1 (unhide S9).r1).1
  have Ab := hide mb.bs
  clear mb c5
  go_wp2_with fail
  refine (unhide c6 _).mono ?_
  rintro e w10 ⟨c, kc, rfl, mc, b10⟩
  have S10 := hide ((unhide S9).later b10)
  have Aa := hide ((unhide Aa).later b10)
  have Ab := hide ((unhide Ab).later b10)
  clear b10 S9
  try clear x0 x1 x2 x3 l0 l1
  obtain ⟨x0, x1, x2, x3⟩ := (unhide S10).cells
  have l0 := (Array.getElem?_eq_some_iff.1 (unhide S10).r0).1
  have l1 := (Array.getElem?_eq_some_iff.1 (unhide S10).r1).1
  have Ac := hide mc.bs
  clear mc c6
  go_wp2_with fail
  refine same_world (same_lits rfl (bs_al (unhide Aa) _) (by simp) (heap_alloc_new _ _)) ?_
  go_wp2_with fail
  refine same_world (same_lits rfl (bs_al (bs_al (unhide Ab) _) _) (by simp) (top1 _ _ _ _)) ?_
  go_wp2_with fail
  refine same_world (same_lits rfl (bs_al (bs_al (bs_al (unhide Ac) _) _) _) (by simp) (top2 _ _ _ _ _)) ?_
  go_wp2_with fail
  refine (unhide cM _).mono ?_
  rintro e w11 ⟨rfl, b11⟩
  have S11 := hide (((((unhide S10).al _).al _).al _).later b11)
  clear b11 S10
  try clear x0 x1 x2 x3 l0 l1
  obtain ⟨x0, x1, x2, x3⟩ := (unhide S11).cells
  have l0 := (Array.getElem?_eq_some_iff.1 (unhide S11).r0).1
  have l1 := (Array.getElem?_eq_some_iff.1 (unhide S11).r1).1
  go_wp2_with fail
  clear Aa Ab Ac cM
  refine (unhide cT _ (unhide S11).z).mono ?_
  rintro e w12 ⟨rfl, b12⟩
  have S12 := hide ((unhide S11).later b12)
  clear b12 S11
  try clear x0 x1 x2 x3 l0 l1
  obtain ⟨x0, x1, x2, x3⟩ := (unhide S12).cells
  have l0 := (Array.getElem?_eq_some_iff.1 (unhide S12).r0).1
  have l1 := (Array.getElem?_eq_some_iff.1 (unhide S12).r1).1
  clear cT
  go_wp2_with fail
  refine (unhide d1 _ _ (bs_row (Byt.cons (by omega) (by omega) (Byt.cons (by omega) (by omega) (Byt.cons (by omega) (by omega) (Byt.cons (by omega) (by omega) (Byt.one (by omega) (by omega)))))) (by simp) (heap_alloc_new _ _))).mono ?_
  rintro e w13 ⟨rfl, b13⟩
  have S13 := hide (((unhide S12).al _).later b13)
  clear b13 S12
  try clear x0 x1 x2 x3 l0 l1
  obtain ⟨x0, x1, x2, x3⟩ := (unhide S13).cells
  have l0 := (Array.getElem?_eq_some_iff.1 (unhide S13).r0).1
  have l1 := (Array.getElem?_eq_some_iff.1 (unhide S13).r1).1
  clear d1
  go_wp2_with fail
  refine (unhide d2 _ _ (bs_row (Byt.one (by omega) (by omega)) (by simp) (heap_alloc_new _ _))).mono ?_
  rintro e w14 ⟨rfl, b14⟩
  have S14 := hide (((unhide S13).al _).later b14)
  clear b14 S13
  try clear x0 x1 x2 x3 l0 l1
  obtain ⟨x0, x1, x2, x3⟩ := (unhide S14).cells
  have l0 := (Array.getElem?_eq_some_iff.1 (unhide S14).r0).1
  have l1 := (Array.getElem?_eq_some_iff.1 (unhide S14).r1).1
  clear d2
  go_wp2_with fail
  refine (unhide d3 _ _ (bs_row (Byt.cons (by omega) (by omega) (Byt.one (by omega) (by omega))) (by simp) (heap_alloc_new _ _))).mono ?_
  rintro e w15 ⟨rfl, b15⟩
  have S15 := hide (((unhide S14).al _).later b15)
  clear b15 S14
  try clear x0 x1 x2 x3 l0 l1
  obtain ⟨x0, x1, x2, x3⟩ := (unhide S15).cells
  have l0 := (Array.getElem?_eq_some_iff.1 (unhide S15).r0).1
  have l1 := (Array.getElem?_eq_some_iff.1 (unhide S15).r1).1
  clear d3
  go_wp2_with fail
  refine (unhide f1 _ ((unhide S15).al _).z).mono ?_
  rintro e w16 ⟨rfl, b16⟩
  have S16 := hide (((unhide S15).al _).later b16)
  clear b16 S15
  try clear x0 x1 x2 x3 l0 l1
  obtain ⟨x0, x1, x2, x3⟩ := (unhide S16).cells
  have l0 := (Array.getElem?_eq_some_iff.1 (unhide S16).r0).1
  have l1 := (Array.getElem?_eq_some_iff.1 (unhide S16).r1).1
  clear f1
  go_wp2_with fail
  refine (unhide f2 _ (unhide S16).z).mono ?_
  rintro e w17 ⟨rfl, b17⟩
  have S17 := hide ((unhide S16).later b17)
  clear b17 S16
  try clear x0 x1 x2 x3 l0 l1
  obtain ⟨x0, x1, x2, x3⟩ := (unhide S17).cells
  have l0 := (Array.getElem?_eq_some_iff.1 (unhide S17).r0).1
  have l1 := (Array.getElem?_eq_some_iff.1 (unhide S17).r1).1
  clear f2
  go_wp2_with fail
  refine (unhide f3 _ (unhide S17).z).mono ?_
  rintro e w18 ⟨rfl, b18⟩
  have S18 := hide ((unhide S17).later b18)
  clear b18 S17
  try clear x0 x1 x2 x3 l0 l1
  obtain ⟨x0, x1, x2, x3⟩ := (unhide S18).cells
  have l0 := (Array.getElem?_eq_some_iff.1 (unhide S18).r0).1
  have l1 := (Array.getElem?_eq_some_iff.1 (unhide S18).r1).1
  clear f3
  go_wp2_with fail
  refine (unhide cL _ ((unhide S18).al _).z).mono ?_
  rintro e w19 ⟨rfl, b19⟩
  have r19 := vrow_later (heap_alloc_new w18 (.cells #[.int .i64 6, .int .i64 0, .int .u64 0, .string ⟨#[]⟩, .bool false, .int .i64 0, .int .i64 0, .int .i64 1, .int .i64 2, .int .i64 0, .int .i64 0, .int .i64 0] 32)) b19
  have y0 := vrow_cell r19 (j := 0) (v := .int .i64 6) rfl
  have y1 := vrow_cell r19 (j := 1) (v := .int .i64 0) rfl
  have y2 := vrow_cell r19 (j := 2) (v := .int .u64 0) rfl
  have y3 := vrow_cell r19 (j := 3) (v := .string ⟨#[]⟩) rfl
  have y4 := vrow_cell r19 (j := 4) (v := .bool false) rfl
  have y5 := vrow_cell r19 (j := 5) (v := .int .i64 0) rfl
  have y6 := vrow_cell r19 (j := 6) (v := .int .i64 0) rfl
  have y7 := vrow_cell r19 (j := 7) (v := .int .i64 1) rfl
  have y8 := vrow_cell r19 (j := 8) (v := .int .i64 2) rfl
  have y9 := vrow_cell r19 (j := 9) (v := .int .i64 0) rfl
  have y10 := vrow_cell r19 (j := 10) (v := .int .i64 0) rfl
  have y11 := vrow_cell r19 (j := 11) (v := .int .i64 0) rfl
  have S19 := hide (((unhide S18).al _).later b19)
  clear b19 S18
  try clear x0 x1 x2 x3 l0 l1
  obtain ⟨x0, x1, x2, x3⟩ := (unhide S19).cells
  have l0 := (Array.getElem?_eq_some_iff.1 (unhide S19).r0).1
  have l1 := (Array.getElem?_eq_some_iff.1 (unhide S19).r1).1
  clear r19 cL
  go_wp2_with fail
  go_ret
  exact ⟨rfl, (unhide S19).b⟩


end Go.Proofs.YthncndofbdjbgaaGreatDoor
