/-
  What ReadEof, ReadPrepared, ReadErr and ReadFile return. They write nothing that was there. Conditions: the slice can be read; at most 2 to the 40 bytes.
-/
import Derived.Test.YtkijdkbkbelliaaRyKind
import Derived.BigQuiet
import Derived.BigRegion
import Derived.Deep.CutRange
import Derived.Deep.CutBlock
import Derived.Deep.DeepCutAuto
namespace Go.Proofs.Ytkijdkbkbelliaa
open Go.RowKit
set_option linter.unusedVariables false
set_option linter.unusedSimpArgs false

def OutEo (w : World) (R : Eo × Int) (e : Ending) (w' : World) : Prop := e = .returned (.tuple #[.agg #[.int .u16 R.1.wa, .int .u16 R.1.st], .int .i64 R.2]) ∧ Below w.heap.size w w'

def OutPr (w : World) (R : Pr × Int) (e : Ending) (w' : World) : Prop := e = .returned (.tuple #[.agg #[.int .u32 R.1.id, .int .u16 R.1.co, .int .u16 R.1.pa, .int .u16 R.1.wa], .int .i64 R.2]) ∧ Below w.heap.size w w'

def OutEr (w : World) (R : Er × Int) (e : Ending) (w' : World) : Prop := e = .returned (.tuple #[.agg #[.int .u16 R.1.co, .string R.1.st, .string R.1.tx], .int .i64 R.2]) ∧ Below w.heap.size w w'

def OutOk (w : World) (R : Ok × Int) (e : Ending) (w' : World) : Prop := ∃ xo xn xc, e = .returned (.tuple #[.agg #[.int .u64 R.1.af, .int .u64 R.1.ins, .int .u16 R.1.st, .int .u16 R.1.wa, .string R.1.info, .slice xo xn xc], .int .i64 R.2]) ∧ Bs w' xo xn xc R.1.tr ∧ Below w.heap.size w w'

set_option maxHeartbeats 4000000 in
set_option maxRecDepth 100000 in
theorem readEof_any (bo : Option Addr) (bn bc : Nat) (b : List Int) (w : World) (h : Bs w bo bn bc b) (hn : bn ≤ 1099511627776) :
    Calls Try.prog 31 #[.slice bo bn bc] w fun e w' => OutEo w (eoR b) e w' := by
  have HR0 := hide (show Rw w 41 #[.int .u16 0, .int .u16 0] #[.int .u16 0, .int .u16 0] (((w.alloc (.cells #[.int .u16 0, .int .u16 0] 41)).alloc (.cells #[.slice bo bn bc, .int .i64 0, .int .i64 0] 105)).alloc (.cells #[.int .u16 0, .int .u16 0] 41)) ⟨b, 0⟩ from Rw.new h hn _)
  clear h
  have c1 := hide (fun wx (hx : Fx (w.heap.size + 1) wx ⟨b, 0⟩) => mark_fx (w.heap.size + 1) wx ⟨b, 0⟩ 254 hx)
  obtain ⟨s1, hs1⟩ : ∃ z, z = maS ⟨b, 0⟩ 254 := ⟨_, rfl⟩
  rw [← hs1] at c1
  have c2 := hide (fun wx (hx : Fx (w.heap.size + 1) wx s1) => fixed_fx (w.heap.size + 1) wx s1 2 2 65536 rfl (by omega) (by omega) (by decide) hx)
  obtain ⟨s2, hs2⟩ : ∃ z, z = fxS s1 2 := ⟨_, rfl⟩
  rw [← hs2] at c2
  obtain ⟨v2, hv2⟩ : ∃ z, z = fxA s1 2 := ⟨_, rfl⟩
  rw [← hv2] at c2
  have c3 := hide (fun wx (hx : Fx (w.heap.size + 1) wx s2) => fixed_fx (w.heap.size + 1) wx s2 2 2 65536 rfl (by omega) (by omega) (by decide) hx)
  obtain ⟨s3, hs3⟩ : ∃ z, z = fxS s2 2 := ⟨_, rfl⟩
  rw [← hs3] at c3
  obtain ⟨v3, hv3⟩ : ∃ z, z = fxA s2 2 := ⟨_, rfl⟩
  rw [← hv3] at c3
  have c4 := hide (fun wx (hx : Fx (w.heap.size + 1) wx s3) => end_fx (w.heap.size + 1) wx s3 hx)
  obtain ⟨s4, hs4⟩ : ∃ z, z = edS s3 := ⟨_, rfl⟩
  rw [← hs4] at c4
  have HRES := hide (show eoR b = if s4.e = 0 then (⟨v2, v3⟩, 0) else (⟨0, 0⟩, s4.e) by subst hs1 hs2 hv2 hs3 hv3 hs4; rfl)
  clear hs1 hs2 hv2 hs3 hv3 hs4
  generalize eoR b = RR at *
  go_enter Try.func31, Try.ntmps31
  go_wp2_with fail
  refine (unhide c1 _ (unhide HR0).fx).mono ?_
  rintro e w1 ⟨rfl, ho⟩
  have HR1 := hide ((unhide HR0).call ho)
  clear ho c1 HR0
  go_wp2_with fail
  refine (unhide c2 _ (unhide HR1).fx).mono ?_
  rintro e w2 ⟨⟨rfl, bl2, bh2⟩, ho⟩
  have HR2 := hide ((unhide HR1).call ho)
  clear ho c2 HR1
  have q3 := (unhide HR2).cell (j := 0) (v := .int .u16 0) rfl
  have qf3 := (unhide HR2).free 0
  have HR3 := hide ((unhide HR2).store 0 (.int .u16 v2) (cs' := #[.int .u16 v2, .int .u16 0]) rfl)
  clear HR2
  go_wp2_with fail
  clear q3 qf3
  refine (unhide c3 _ (unhide HR3).fx).mono ?_
  rintro e w4 ⟨⟨rfl, bl3, bh3⟩, ho⟩
  have HR4 := hide ((unhide HR3).call ho)
  clear ho c3 HR3
  have q5 := (unhide HR4).cell (j := 1) (v := .int .u16 0) rfl
  have qf5 := (unhide HR4).free 1
  have HR5 := hide ((unhide HR4).store 1 (.int .u16 v3) (cs' := #[.int .u16 v2, .int .u16 v3]) rfl)
  clear HR4
  go_wp2_with fail
  clear q5 qf5
  refine (unhide c4 _ (unhide HR5).fx).mono ?_
  rintro e w6 ⟨rfl, ho⟩
  have HR6 := hide ((unhide HR5).call ho)
  clear ho c4 HR5
  have t0 := (unhide HR6).cell (j := 0) (v := .int .u16 v2) rfl
  have t1 := (unhide HR6).cell (j := 1) (v := .int .u16 v3) rfl
  have u0 := (unhide HR6).rcell (j := 0) (v := .int .u16 0) rfl
  have uf0 := (unhide HR6).rfree 0
  have u1 := (unhide HR6).rcell (j := 1) (v := .int .u16 0) rfl
  have uf1 := (unhide HR6).rfree 1
  by_cases he : s4.e = 0
  · have he' : (s4.e != 0) = false := by simpa using he
    have HR' := hide (show RR = (⟨v2, v3⟩, 0) by rw [unhide HRES, if_pos he])
    clear HRES he
    generalize s4.e = E at *
    go_wp2_with fail
    refine bodyPost_ret (results_row_tmp rfl _ _ w.heap.size _ rfl (run_loadVar_row _ w.heap.size _ _ _ _ _ (show _ = some (Obj.cells #[.int .u16 v2, .int .u16 v3] 41 (0, 0)) from (heap_setCell_same _ w.heap.size 1 _ _ _ (heap_setCell_same _ w.heap.size 0 _ _ _ (unhide HR6).res))) Try.underlying41 rfl (by kernel_rfl))) rfl ?_
    rw [unhide HR']
    exact ⟨rfl, (((unhide HR6).bel.setCell (Nat.le_refl _) _).setCell (Nat.le_refl _) _)⟩
  · have he' : (s4.e != 0) = true := by simpa using he
    have HR' := hide (show RR = (⟨0, 0⟩, s4.e) by rw [unhide HRES, if_neg he])
    clear HRES he
    generalize s4.e = E at *
    go_wp2_with fail
    refine bodyPost_ret (results_row_tmp rfl _ _ w.heap.size _ rfl (run_loadVar_row _ w.heap.size _ _ _ _ _ (show _ = some (Obj.cells #[.int .u16 0, .int .u16 0] 41 (0, 0)) from (heap_setCell_same _ w.heap.size 1 _ _ _ (heap_setCell_same _ w.heap.size 0 _ _ _ (unhide HR6).res))) Try.underlying41 rfl (by kernel_rfl))) rfl ?_
    rw [unhide HR']
    exact ⟨rfl, (((unhide HR6).bel.setCell (Nat.le_refl _) _).setCell (Nat.le_refl _) _)⟩

set_option maxHeartbeats 4000000 in
set_option maxRecDepth 100000 in
theorem readPrepared_any (bo : Option Addr) (bn bc : Nat) (b : List Int) (w : World) (h : Bs w bo bn bc b) (hn : bn ≤ 1099511627776) :
    Calls Try.prog 33 #[.slice bo bn bc] w fun e w' => OutPr w (prR b) e w' := by
  have HR0 := hide (show Rw w 48 #[.int .u32 0, .int .u16 0, .int .u16 0, .int .u16 0] #[.int .u32 0, .int .u16 0, .int .u16 0, .int .u16 0] (((w.alloc (.cells #[.int .u32 0, .int .u16 0, .int .u16 0, .int .u16 0] 48)).alloc (.cells #[.slice bo bn bc, .int .i64 0, .int .i64 0] 105)).alloc (.cells #[.int .u32 0, .int .u16 0, .int .u16 0, .int .u16 0] 48)) ⟨b, 0⟩ from Rw.new h hn _)
  clear h
  have c1 := hide (fun wx (hx : Fx (w.heap.size + 1) wx ⟨b, 0⟩) => mark_fx (w.heap.size + 1) wx ⟨b, 0⟩ 0 hx)
  obtain ⟨s1, hs1⟩ : ∃ z, z = maS ⟨b, 0⟩ 0 := ⟨_, rfl⟩
  rw [← hs1] at c1
  have c2 := hide (fun wx (hx : Fx (w.heap.size + 1) wx s1) => fixed_fx (w.heap.size + 1) wx s1 4 4 4294967296 rfl (by omega) (by omega) (by decide) hx)
  obtain ⟨s2, hs2⟩ : ∃ z, z = fxS s1 4 := ⟨_, rfl⟩
  rw [← hs2] at c2
  obtain ⟨v2, hv2⟩ : ∃ z, z = fxA s1 4 := ⟨_, rfl⟩
  rw [← hv2] at c2
  have c3 := hide (fun wx (hx : Fx (w.heap.size + 1) wx s2) => fixed_fx (w.heap.size + 1) wx s2 2 2 65536 rfl (by omega) (by omega) (by decide) hx)
  obtain ⟨s3, hs3⟩ : ∃ z, z = fxS s2 2 := ⟨_, rfl⟩
  rw [← hs3] at c3
  obtain ⟨v3, hv3⟩ : ∃ z, z = fxA s2 2 := ⟨_, rfl⟩
  rw [← hv3] at c3
  have c4 := hide (fun wx (hx : Fx (w.heap.size + 1) wx s3) => fixed_fx (w.heap.size + 1) wx s3 2 2 65536 rfl (by omega) (by omega) (by decide) hx)
  obtain ⟨s4, hs4⟩ : ∃ z, z = fxS s3 2 := ⟨_, rfl⟩
  rw [← hs4] at c4
  obtain ⟨v4, hv4⟩ : ∃ z, z = fxA s3 2 := ⟨_, rfl⟩
  rw [← hv4] at c4
  have c5 := hide (fun wx (hx : Fx (w.heap.size + 1) wx s4) => mark_fx (w.heap.size + 1) wx s4 0 hx)
  obtain ⟨s5, hs5⟩ : ∃ z, z = maS s4 0 := ⟨_, rfl⟩
  rw [← hs5] at c5
  have c6 := hide (fun wx (hx : Fx (w.heap.size + 1) wx s5) => fixed_fx (w.heap.size + 1) wx s5 2 2 65536 rfl (by omega) (by omega) (by decide) hx)
  obtain ⟨s6, hs6⟩ : ∃ z, z = fxS s5 2 := ⟨_, rfl⟩
  rw [← hs6] at c6
  obtain ⟨v6, hv6⟩ : ∃ z, z = fxA s5 2 := ⟨_, rfl⟩
  rw [← hv6] at c6
  have c7 := hide (fun wx (hx : Fx (w.heap.size + 1) wx s6) => end_fx (w.heap.size + 1) wx s6 hx)
  obtain ⟨s7, hs7⟩ : ∃ z, z = edS s6 := ⟨_, rfl⟩
  rw [← hs7] at c7
  have HRES := hide (show prR b = if s7.e = 0 then (⟨v2, v3, v4, v6⟩, 0) else (⟨0, 0, 0, 0⟩, s7.e) by subst hs1 hs2 hv2 hs3 hv3 hs4 hv4 hs5 hs6 hv6 hs7; rfl)
  clear hs1 hs2 hv2 hs3 hv3 hs4 hv4 hs5 hs6 hv6 hs7
  generalize prR b = RR at *
  go_enter Try.func33, Try.ntmps33
  go_wp2_with fail
  refine (unhide c1 _ (unhide HR0).fx).mono ?_
  rintro e w1 ⟨rfl, ho⟩
  have HR1 := hide ((unhide HR0).call ho)
  clear ho c1 HR0
  go_wp2_with fail
  refine (unhide c2 _ (unhide HR1).fx).mono ?_
  rintro e w2 ⟨⟨rfl, bl2, bh2⟩, ho⟩
  have HR2 := hide ((unhide HR1).call ho)
  clear ho c2 HR1
  have q3 := (unhide HR2).cell (j := 0) (v := .int .u32 0) rfl
  have qf3 := (unhide HR2).free 0
  have HR3 := hide ((unhide HR2).store 0 (.int .u32 v2) (cs' := #[.int .u32 v2, .int .u16 0, .int .u16 0, .int .u16 0]) rfl)
  clear HR2
  go_wp2_with fail
  clear q3 qf3
  refine (unhide c3 _ (unhide HR3).fx).mono ?_
  rintro e w4 ⟨⟨rfl, bl3, bh3⟩, ho⟩
  have HR4 := hide ((unhide HR3).call ho)
  clear ho c3 HR3
  have q5 := (unhide HR4).cell (j := 1) (v := .int .u16 0) rfl
  have qf5 := (unhide HR4).free 1
  have HR5 := hide ((unhide HR4).store 1 (.int .u16 v3) (cs' := #[.int .u32 v2, .int .u16 v3, .int .u16 0, .int .u16 0]) rfl)
  clear HR4
  go_wp2_with fail
  clear q5 qf5
  refine (unhide c4 _ (unhide HR5).fx).mono ?_
  rintro e w6 ⟨⟨rfl, bl4, bh4⟩, ho⟩
  have HR6 := hide ((unhide HR5).call ho)
  clear ho c4 HR5
  have q7 := (unhide HR6).cell (j := 2) (v := .int .u16 0) rfl
  have qf7 := (unhide HR6).free 2
  have HR7 := hide ((unhide HR6).store 2 (.int .u16 v4) (cs' := #[.int .u32 v2, .int .u16 v3, .int .u16 v4, .int .u16 0]) rfl)
  clear HR6
  go_wp2_with fail
  clear q7 qf7
  refine (unhide c5 _ (unhide HR7).fx).mono ?_
  rintro e w8 ⟨rfl, ho⟩
  have HR8 := hide ((unhide HR7).call ho)
  clear ho c5 HR7
  go_wp2_with fail
  refine (unhide c6 _ (unhide HR8).fx).mono ?_
  rintro e w9 ⟨⟨rfl, bl6, bh6⟩, ho⟩
  have HR9 := hide ((unhide HR8).call ho)
  clear ho c6 HR8
  have q10 := (unhide HR9).cell (j := 3) (v := .int .u16 0) rfl
  have qf10 := (unhide HR9).free 3
  have HR10 := hide ((unhide HR9).store 3 (.int .u16 v6) (cs' := #[.int .u32 v2, .int .u16 v3, .int .u16 v4, .int .u16 v6]) rfl)
  clear HR9
  go_wp2_with fail
  clear q10 qf10
  refine (unhide c7 _ (unhide HR10).fx).mono ?_
  rintro e w11 ⟨rfl, ho⟩
  have HR11 := hide ((unhide HR10).call ho)
  clear ho c7 HR10
  have t0 := (unhide HR11).cell (j := 0) (v := .int .u32 v2) rfl
  have t1 := (unhide HR11).cell (j := 1) (v := .int .u16 v3) rfl
  have t2 := (unhide HR11).cell (j := 2) (v := .int .u16 v4) rfl
  have t3 := (unhide HR11).cell (j := 3) (v := .int .u16 v6) rfl
  have u0 := (unhide HR11).rcell (j := 0) (v := .int .u32 0) rfl
  have uf0 := (unhide HR11).rfree 0
  have u1 := (unhide HR11).rcell (j := 1) (v := .int .u16 0) rfl
  have uf1 := (unhide HR11).rfree 1
  have u2 := (unhide HR11).rcell (j := 2) (v := .int .u16 0) rfl
  have uf2 := (unhide HR11).rfree 2
  have u3 := (unhide HR11).rcell (j := 3) (v := .int .u16 0) rfl
  have uf3 := (unhide HR11).rfree 3
  by_cases he : s7.e = 0
  · have he' : (s7.e != 0) = false := by simpa using he
    have HR' := hide (show RR = (⟨v2, v3, v4, v6⟩, 0) by rw [unhide HRES, if_pos he])
    clear HRES he
    generalize s7.e = E at *
    go_wp2_with fail
    refine bodyPost_ret (results_row_tmp rfl _ _ w.heap.size _ rfl (run_loadVar_row _ w.heap.size _ _ _ _ _ (show _ = some (Obj.cells #[.int .u32 v2, .int .u16 v3, .int .u16 v4, .int .u16 v6] 48 (0, 0)) from (heap_setCell_same _ w.heap.size 3 _ _ _ (heap_setCell_same _ w.heap.size 2 _ _ _ (heap_setCell_same _ w.heap.size 1 _ _ _ (heap_setCell_same _ w.heap.size 0 _ _ _ (unhide HR11).res))))) Try.underlying48 rfl (by kernel_rfl))) rfl ?_
    rw [unhide HR']
    exact ⟨rfl, (((((unhide HR11).bel.setCell (Nat.le_refl _) _).setCell (Nat.le_refl _) _).setCell (Nat.le_refl _) _).setCell (Nat.le_refl _) _)⟩
  · have he' : (s7.e != 0) = true := by simpa using he
    have HR' := hide (show RR = (⟨0, 0, 0, 0⟩, s7.e) by rw [unhide HRES, if_neg he])
    clear HRES he
    generalize s7.e = E at *
    go_wp2_with fail
    refine bodyPost_ret (results_row_tmp rfl _ _ w.heap.size _ rfl (run_loadVar_row _ w.heap.size _ _ _ _ _ (show _ = some (Obj.cells #[.int .u32 0, .int .u16 0, .int .u16 0, .int .u16 0] 48 (0, 0)) from (heap_setCell_same _ w.heap.size 3 _ _ _ (heap_setCell_same _ w.heap.size 2 _ _ _ (heap_setCell_same _ w.heap.size 1 _ _ _ (heap_setCell_same _ w.heap.size 0 _ _ _ (unhide HR11).res))))) Try.underlying48 rfl (by kernel_rfl))) rfl ?_
    rw [unhide HR']
    exact ⟨rfl, (((((unhide HR11).bel.setCell (Nat.le_refl _) _).setCell (Nat.le_refl _) _).setCell (Nat.le_refl _) _).setCell (Nat.le_refl _) _)⟩

set_option maxHeartbeats 4000000 in
set_option maxRecDepth 100000 in
theorem readErr_any (bo : Option Addr) (bn bc : Nat) (b : List Int) (w : World) (h : Bs w bo bn bc b) (hn : bn ≤ 1099511627776) :
    Calls Try.prog 11 #[.slice bo bn bc] w fun e w' => OutEr w (erR b) e w' := by
  have HR0 := hide (show Rw w 35 #[.int .u16 0, .string ⟨#[]⟩, .string ⟨#[]⟩] #[.int .u16 0, .string ⟨#[]⟩, .string ⟨#[]⟩] (((w.alloc (.cells #[.int .u16 0, .string ⟨#[]⟩, .string ⟨#[]⟩] 35)).alloc (.cells #[.slice bo bn bc, .int .i64 0, .int .i64 0] 105)).alloc (.cells #[.int .u16 0, .string ⟨#[]⟩, .string ⟨#[]⟩] 35)) ⟨b, 0⟩ from Rw.new h hn _)
  clear h
  have c1 := hide (fun wx (hx : Fx (w.heap.size + 1) wx ⟨b, 0⟩) => mark_fx (w.heap.size + 1) wx ⟨b, 0⟩ 255 hx)
  obtain ⟨s1, hs1⟩ : ∃ z, z = maS ⟨b, 0⟩ 255 := ⟨_, rfl⟩
  rw [← hs1] at c1
  have c2 := hide (fun wx (hx : Fx (w.heap.size + 1) wx s1) => fixed_fx (w.heap.size + 1) wx s1 2 2 65536 rfl (by omega) (by omega) (by decide) hx)
  obtain ⟨s2, hs2⟩ : ∃ z, z = fxS s1 2 := ⟨_, rfl⟩
  rw [← hs2] at c2
  obtain ⟨v2, hv2⟩ : ∃ z, z = fxA s1 2 := ⟨_, rfl⟩
  rw [← hv2] at c2
  have c3 := hide (fun wx (hx : Fx (w.heap.size + 1) wx s2) => mark_fx (w.heap.size + 1) wx s2 35 hx)
  obtain ⟨s3, hs3⟩ : ∃ z, z = maS s2 35 := ⟨_, rfl⟩
  rw [← hs3] at c3
  have c4 := hide (fun wx (hx : Fx (w.heap.size + 1) wx s3) => take_fx (w.heap.size + 1) wx s3 5 5 rfl (by omega) hx)
  obtain ⟨s4, hs4⟩ : ∃ z, z = tkS s3 5 := ⟨_, rfl⟩
  rw [← hs4] at c4
  obtain ⟨v4, hv4⟩ : ∃ z, z = strOfNums (tkA s3 5) := ⟨_, rfl⟩
  rw [← hv4] at c4
  have c5 := hide (fun wx (hx : Fx (w.heap.size + 1) wx s4) => rest_fx (w.heap.size + 1) wx s4 hx)
  obtain ⟨s5, hs5⟩ : ∃ z, z = reS s4 := ⟨_, rfl⟩
  rw [← hs5] at c5
  obtain ⟨v5, hv5⟩ : ∃ z, z = strOfNums (reA s4) := ⟨_, rfl⟩
  rw [← hv5] at c5
  have c6 := hide (fun wx (hx : Fx (w.heap.size + 1) wx s5) => end_fx (w.heap.size + 1) wx s5 hx)
  obtain ⟨s6, hs6⟩ : ∃ z, z = edS s5 := ⟨_, rfl⟩
  rw [← hs6] at c6
  have HRES := hide (show erR b = if s6.e = 0 then (⟨v2, v4, v5⟩, 0) else (⟨0, ⟨#[]⟩, ⟨#[]⟩⟩, s6.e) by subst hs1 hs2 hv2 hs3 hs4 hv4 hs5 hv5 hs6; rfl)
  clear hs1 hs2 hv2 hs3 hs4 hv4 hs5 hv5 hs6
  generalize erR b = RR at *
  go_enter Try.func11, Try.ntmps11
  go_wp2_with fail
  refine (unhide c1 _ (unhide HR0).fx).mono ?_
  rintro e w1 ⟨rfl, ho⟩
  have HR1 := hide ((unhide HR0).call ho)
  clear ho c1 HR0
  go_wp2_with fail
  refine (unhide c2 _ (unhide HR1).fx).mono ?_
  rintro e w2 ⟨⟨rfl, bl2, bh2⟩, ho⟩
  have HR2 := hide ((unhide HR1).call ho)
  clear ho c2 HR1
  have q3 := (unhide HR2).cell (j := 0) (v := .int .u16 0) rfl
  have qf3 := (unhide HR2).free 0
  have HR3 := hide ((unhide HR2).store 0 (.int .u16 v2) (cs' := #[.int .u16 v2, .string ⟨#[]⟩, .string ⟨#[]⟩]) rfl)
  clear HR2
  go_wp2_with fail
  clear q3 qf3
  refine (unhide c3 _ (unhide HR3).fx).mono ?_
  rintro e w4 ⟨rfl, ho⟩
  have HR4 := hide ((unhide HR3).call ho)
  clear ho c3 HR3
  go_wp2_with fail
  refine (unhide c4 _ (unhide HR4).fx).mono ?_
  rintro e w5 ⟨rfl, ho⟩
  have HR5 := hide ((unhide HR4).call ho)
  clear ho c4 HR4
  have q6 := (unhide HR5).cell (j := 1) (v := .string ⟨#[]⟩) rfl
  have qf6 := (unhide HR5).free 1
  have HR6 := hide ((unhide HR5).store 1 (.string v4) (cs' := #[.int .u16 v2, .string v4, .string ⟨#[]⟩]) rfl)
  clear HR5
  go_wp2_with fail
  clear q6 qf6
  refine (unhide c5 _ (unhide HR6).fx).mono ?_
  rintro e w7 ⟨rfl, ho⟩
  have HR7 := hide ((unhide HR6).call ho)
  clear ho c5 HR6
  have q8 := (unhide HR7).cell (j := 2) (v := .string ⟨#[]⟩) rfl
  have qf8 := (unhide HR7).free 2
  have HR8 := hide ((unhide HR7).store 2 (.string v5) (cs' := #[.int .u16 v2, .string v4, .string v5]) rfl)
  clear HR7
  go_wp2_with fail
  clear q8 qf8
  refine (unhide c6 _ (unhide HR8).fx).mono ?_
  rintro e w9 ⟨rfl, ho⟩
  have HR9 := hide ((unhide HR8).call ho)
  clear ho c6 HR8
  have t0 := (unhide HR9).cell (j := 0) (v := .int .u16 v2) rfl
  have t1 := (unhide HR9).cell (j := 1) (v := .string v4) rfl
  have t2 := (unhide HR9).cell (j := 2) (v := .string v5) rfl
  have u0 := (unhide HR9).rcell (j := 0) (v := .int .u16 0) rfl
  have uf0 := (unhide HR9).rfree 0
  have u1 := (unhide HR9).rcell (j := 1) (v := .string ⟨#[]⟩) rfl
  have uf1 := (unhide HR9).rfree 1
  have u2 := (unhide HR9).rcell (j := 2) (v := .string ⟨#[]⟩) rfl
  have uf2 := (unhide HR9).rfree 2
  by_cases he : s6.e = 0
  · have he' : (s6.e != 0) = false := by simpa using he
    have HR' := hide (show RR = (⟨v2, v4, v5⟩, 0) by rw [unhide HRES, if_pos he])
    clear HRES he
    generalize s6.e = E at *
    go_wp2_with fail
    refine bodyPost_ret (results_row_tmp rfl _ _ w.heap.size _ rfl (run_loadVar_row _ w.heap.size _ _ _ _ _ (show _ = some (Obj.cells #[.int .u16 v2, .string v4, .string v5] 35 (0, 0)) from (heap_setCell_same _ w.heap.size 2 _ _ _ (heap_setCell_same _ w.heap.size 1 _ _ _ (heap_setCell_same _ w.heap.size 0 _ _ _ (unhide HR9).res)))) Try.underlying35 rfl (by kernel_rfl))) rfl ?_
    rw [unhide HR']
    exact ⟨rfl, ((((unhide HR9).bel.setCell (Nat.le_refl _) _).setCell (Nat.le_refl _) _).setCell (Nat.le_refl _) _)⟩
  · have he' : (s6.e != 0) = true := by simpa using he
    have HR' := hide (show RR = (⟨0, ⟨#[]⟩, ⟨#[]⟩⟩, s6.e) by rw [unhide HRES, if_neg he])
    clear HRES he
    generalize s6.e = E at *
    go_wp2_with fail
    refine bodyPost_ret (results_row_tmp rfl _ _ w.heap.size _ rfl (run_loadVar_row _ w.heap.size _ _ _ _ _ (show _ = some (Obj.cells #[.int .u16 0, .string ⟨#[]⟩, .string ⟨#[]⟩] 35 (0, 0)) from (heap_setCell_same _ w.heap.size 2 _ _ _ (heap_setCell_same _ w.heap.size 1 _ _ _ (heap_setCell_same _ w.heap.size 0 _ _ _ (unhide HR9).res)))) Try.underlying35 rfl (by kernel_rfl))) rfl ?_
    rw [unhide HR']
    exact ⟨rfl, ((((unhide HR9).bel.setCell (Nat.le_refl _) _).setCell (Nat.le_refl _) _).setCell (Nat.le_refl _) _)⟩

set_option maxHeartbeats 1000000 in
set_option maxRecDepth 100000 in
theorem readFile_any (bo : Option Addr) (bn bc : Nat) (b : List Int) (w : World) (h : Bs w bo bn bc b) (hn : bn ≤ 1099511627776) :
    Calls Try.prog 15 #[.slice bo bn bc] w fun e w' => e = .returned (.tuple #[.string (fiR b).1, .int .i64 (fiR b).2]) ∧ Below w.heap.size w w' := by
  have HF0 := hide (show Fx w.heap.size (w.alloc (.cells #[.slice bo bn bc, .int .i64 0, .int .i64 0] 105)) ⟨b, 0⟩ from ⟨_, _, _, _, _, Fl.new h hn⟩)
  have HB0 := hide (below_alloc w (.cells #[.slice bo bn bc, .int .i64 0, .int .i64 0] 105))
  clear h
  have c1 := hide (fun wx (hx : Fx w.heap.size wx ⟨b, 0⟩) => mark_fx w.heap.size wx ⟨b, 0⟩ 251 hx)
  obtain ⟨s1, hs1⟩ : ∃ z, z = maS ⟨b, 0⟩ 251 := ⟨_, rfl⟩
  rw [← hs1] at c1
  have c2 := hide (fun wx (hx : Fx w.heap.size wx s1) => need_fx w.heap.size wx s1 1 1 rfl hx)
  obtain ⟨s2, hs2⟩ : ∃ z, z = neS s1 1 := ⟨_, rfl⟩
  rw [← hs2] at c2
  have c3 := hide (fun wx (hx : Fx w.heap.size wx s2) => rest_fx w.heap.size wx s2 hx)
  obtain ⟨s3, hs3⟩ : ∃ z, z = reS s2 := ⟨_, rfl⟩
  rw [← hs3] at c3
  obtain ⟨v3, hv3⟩ : ∃ z, z = strOfNums (reA s2) := ⟨_, rfl⟩
  rw [← hv3] at c3
  have c4 := hide (fun wx (hx : Fx w.heap.size wx s3) => end_fx w.heap.size wx s3 hx)
  obtain ⟨s4, hs4⟩ : ∃ z, z = edS s3 := ⟨_, rfl⟩
  rw [← hs4] at c4
  have HRES := hide (show fiR b = if s4.e = 0 then (v3, 0) else (⟨#[]⟩, s4.e) by subst hs1 hs2 hs3 hv3 hs4; rfl)
  clear hs1 hs2 hs3 hv3 hs4
  generalize fiR b = RR at *
  go_enter Try.func15, Try.ntmps15
  go_wp2_with fail
  refine (unhide c1 _ (unhide HF0)).mono ?_
  rintro e w1 ⟨rfl, ho⟩
  have HF1 := hide ho.1
  have HB1 := hide ((unhide HB0).trans (ho.2.below (by have := (unhide HF0).lt; omega)))
  clear ho c1 HF0 HB0
  go_wp2_with fail
  refine (unhide c2 _ (unhide HF1)).mono ?_
  rintro e w2 ⟨rfl, ho⟩
  have HF2 := hide ho.1
  have HB2 := hide ((unhide HB1).trans (ho.2.below (by have := (unhide HF1).lt; omega)))
  clear ho c2 HF1 HB1
  go_wp2_with fail
  refine (unhide c3 _ (unhide HF2)).mono ?_
  rintro e w3 ⟨rfl, ho⟩
  have HF3 := hide ho.1
  have HB3 := hide ((unhide HB2).trans (ho.2.below (by have := (unhide HF2).lt; omega)))
  clear ho c3 HF2 HB2
  go_wp2_with fail
  refine (unhide c4 _ (unhide HF3)).mono ?_
  rintro e w4 ⟨rfl, ho⟩
  have HF4 := hide ho.1
  have HB4 := hide ((unhide HB3).trans (ho.2.below (by have := (unhide HF3).lt; omega)))
  clear ho c4 HF3 HB3
  by_cases he : s4.e = 0
  · have he' : (s4.e != 0) = false := by simpa using he
    have HR' := hide (show RR = (v3, 0) by rw [unhide HRES, if_pos he])
    clear HRES he
    generalize s4.e = E at *
    go_wp2_with fail
    go_ret2
    rw [unhide HR']
    exact ⟨rfl, unhide HB4⟩
  · have he' : (s4.e != 0) = true := by simpa using he
    have HR' := hide (show RR = (⟨#[]⟩, s4.e) by rw [unhide HRES, if_neg he])
    clear HRES he
    generalize s4.e = E at *
    go_wp2_with fail
    go_ret2
    rw [unhide HR']
    exact ⟨rfl, unhide HB4⟩

end Go.Proofs.Ytkijdkbkbelliaa
