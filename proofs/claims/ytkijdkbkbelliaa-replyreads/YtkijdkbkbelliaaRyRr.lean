/-
  The document's own answer for replies: ReadEof, ReadPrepared, ReadErr and ReadFile. They write nothing that was there. Conditions: the slice can be read; at most 2 to the 40 bytes.
-/
import Derived.Test.YtkijdkbkbelliaaRyFd
import Derived.Test.YtkijdkbkbelliaaRyRow
import Derived.BigQuiet
import Derived.BigRegion
import Derived.Deep.CutRange
import Derived.Deep.DeepCutAuto
namespace Go.Proofs.Ytkijdkbkbelliaa
open Go.RowKit
set_option linter.unusedVariables false
set_option linter.unusedSimpArgs false

/-- A function of the document's answer that reads a reply: the result lies in the first new block, the fields in the second. -/
structure Du (w0 : World) (T : TypeId) (zc : Array Value) (w : World) (s : FS) : Prop where
  fx : Dx (w0.heap.size + 1) w s
  bel : Below w0.heap.size w0 w
  res : w.heap[w0.heap.size]? = some (.cells zc T (0, 0))
/-- .. and the reply itself in block g. -/
structure Dw (w0 : World) (T : TypeId) (zc cs : Array Value) (g : Nat) (w : World) (s : FS) : Prop where
  u : Du w0 T zc w s
  loc : w.heap[g]? = some (.cells cs T (0, 0))
  hg : w0.heap.size + 1 < g
section
variable {w0 : World} {T : TypeId} {zc cs : Array Value} {g : Nat} {w : World} {s : FS}
theorem Du.lt (h : Du w0 T zc w s) : w0.heap.size + 1 < w.heap.size := h.fx.lt
theorem Du.call (h : Du w0 T zc w s) {s' : FS} {w' : World} (o : OutY (w0.heap.size + 1) w s' w') : Du w0 T zc w' s' := by
  have := h.lt
  exact ⟨o.1, h.bel.trans ((o.2.below (by omega)).mono (by omega)), (o.2.block _ (by omega) (by omega)).trans h.res⟩
theorem Du.later (h : Du w0 T zc w s) {w' : World} (hb : Below w.heap.size w w') : Du w0 T zc w' s := by
  have := h.lt
  exact ⟨h.fx.later hb, h.bel.trans (hb.mono (by omega)), (hb.block _ (by omega)).trans h.res⟩
theorem Du.mk' (h : Du w0 T zc w s) {w' : World} {cs : Array Value} (hh : w'.heap[w.heap.size]? = some (.cells cs T (0, 0))) (hb : Below w.heap.size w w') : Dw w0 T zc cs w.heap.size w' s := ⟨h.later hb, hh, h.lt⟩
theorem Dw.lt (h : Dw w0 T zc cs g w s) : g < w.heap.size := row_lt h.loc
theorem Dw.call (h : Dw w0 T zc cs g w s) {s' : FS} {w' : World} (o : OutY (w0.heap.size + 1) w s' w') : Dw w0 T zc cs g w' s' := by
  have h1 := h.hg
  have h2 := h.lt
  exact ⟨h.u.call o, (o.2.block _ h2 (by omega)).trans h.loc, h.hg⟩
theorem Dw.later (h : Dw w0 T zc cs g w s) {w' : World} (hb : Below w.heap.size w w') : Dw w0 T zc cs g w' s := ⟨h.u.later hb, row_later h.loc hb, h.hg⟩
theorem Dw.store (h : Dw w0 T zc cs g w s) (j : Nat) (v : Value) {cs' : Array Value} (hc : cs.setIfInBounds j v = cs') : Dw w0 T zc cs' g (w.setCell ⟨g, j, none⟩ v) s := by
  have h1 := h.hg
  subst hc
  exact ⟨⟨h.u.fx.above ((Below.refl _ _).setCell (by simp only; omega) _), h.u.bel.setCell (by simp only; omega) _, (heap_setCell_other w ⟨g, j, none⟩ _ _ (by simp only; omega)).trans h.u.res⟩, heap_setCell_same w _ j _ _ _ h.loc, h.hg⟩
theorem Dw.cell (h : Dw w0 T zc cs g w s) {j : Nat} {v : Value} (hj : cs[j]? = some v) : w.cell? ⟨g, j, none⟩ = some v := row_cell h.loc hj
theorem Dw.free (h : Dw w0 T zc cs g w s) (j : Nat) : w.frozen? ⟨g, j, none⟩ = false := frozen_of_row w _ j _ _ h.loc
theorem Dw.rcell (h : Dw w0 T zc cs g w s) {j : Nat} {v : Value} (hj : zc[j]? = some v) : w.cell? ⟨w0.heap.size, j, none⟩ = some v := row_cell h.u.res hj
theorem Dw.rfree (h : Dw w0 T zc cs g w s) (j : Nat) : w.frozen? ⟨w0.heap.size, j, none⟩ = false := frozen_of_row w _ j _ _ h.u.res
theorem Du.new {bo : Option Addr} {bn bc : Nat} {b : List Int} (h : Bs w0 bo bn bc b) (hn : bn ≤ 1099511627776) (zc : Array Value) :
    Du w0 T zc ((w0.alloc (.cells zc T)).alloc (.cells #[.slice bo bn bc, .int .i64 0] 120)) ⟨b, 0⟩ := by
  have b1 := below_alloc w0 (.cells zc T)
  have f1 := Dl.new (h.later b1)
  have b2 := below_alloc (w0.alloc (.cells zc T)) (.cells #[.slice bo bn bc, .int .i64 0] 120)
  have e1 : (w0.alloc (.cells zc T)).heap.size = w0.heap.size + 1 := by simp
  rw [e1] at f1
  refine ⟨⟨⟨_, _, _, f1⟩, by rw [h.len]; exact hn⟩, b1.trans (b2.mono (by omega)), ?_⟩
  rw [b2.block _ (by omega)]
  exact heap_alloc_new w0 _
end
theorem ed_re (s : FS) : edS (reS s) = reS s := by
  unfold edS reS waS
  by_cases he : s.e = 0
  · simp [he]
  · simp [he]
theorem re_e (s : FS) : (reS s).e = s.e := by unfold reS; split <;> rfl
theorem by_tk {s : FS} {n : Nat} (h : (tkS s n).e = 0) : byA s n = tkA s n := by
  unfold tkS at h
  unfold byA tkA
  by_cases he : s.e = 0
  · rw [if_pos he] at h
    by_cases hl : s.b.length < n
    · rw [if_pos hl] at h
      exact absurd (show (4 : Int) = 0 from h) (by decide)
    · rw [if_pos ⟨he, by omega⟩, if_pos ⟨he, by omega⟩]
  · rw [if_neg he] at h
    exact absurd h he

theorem str_sz (l : List Int) : (strOfNums l).size = l.length := by rw [show (strOfNums l).size = (strOfNums l).data.toList.length by simp, strOfNums_data]; simp
theorem reA_len (s : FS) (h : s.e = 0) : (reA s).length = s.b.length := by unfold reA; rw [if_pos h]

set_option maxHeartbeats 4000000 in
set_option maxRecDepth 100000 in
theorem readEof_ref (bo : Option Addr) (bn bc : Nat) (b : List Int) (w : World) (h : Bs w bo bn bc b) (hn : bn ≤ 1099511627776) :
    Calls Try.prog 32 #[.slice bo bn bc] w fun e w' => OutEo w (eoR b) e w' := by
  have HR0 := hide (show Du w 41 #[.int .u16 0, .int .u16 0] ((w.alloc (.cells #[.int .u16 0, .int .u16 0] 41)).alloc (.cells #[.slice bo bn bc, .int .i64 0] 120)) ⟨b, 0⟩ from Du.new h hn _)
  clear h
  have c1 := hide (fun wx (hx : Dx (w.heap.size + 1) wx ⟨b, 0⟩) => byte_dx (w.heap.size + 1) wx ⟨b, 0⟩ hx)
  obtain ⟨s1, hs1⟩ : ∃ z, z = fxS ⟨b, 0⟩ 1 := ⟨_, rfl⟩
  rw [← hs1] at c1
  obtain ⟨v1, hv1⟩ : ∃ z, z = fxA ⟨b, 0⟩ 1 := ⟨_, rfl⟩
  rw [← hv1] at c1
  have c2 := hide (fun wx (hx : Dx (w.heap.size + 1) wx s1) => wrong_dx (w.heap.size + 1) wx s1 (v1 == 254) (v1 != 254) (rfl) hx)
  obtain ⟨s2, hs2⟩ : ∃ z, z = waS s1 (v1 == 254) := ⟨_, rfl⟩
  rw [← hs2] at c2
  have c3 := hide (fun wx (hx : Dx (w.heap.size + 1) wx s2) => fixed_dx (w.heap.size + 1) wx s2 2 2 65536 rfl (by omega) (by omega) (by decide) hx)
  obtain ⟨s3, hs3⟩ : ∃ z, z = fxS s2 2 := ⟨_, rfl⟩
  rw [← hs3] at c3
  obtain ⟨v3, hv3⟩ : ∃ z, z = fxA s2 2 := ⟨_, rfl⟩
  rw [← hv3] at c3
  have SZ := hide (show (Try.prog.info? 41).map (·.size) = some (#[.int .u16 v3, .int .u16 0] : Array Value).size by kernel_rfl)
  have c4 := hide (fun wx (hx : Dx (w.heap.size + 1) wx s3) => fixed_dx (w.heap.size + 1) wx s3 2 2 65536 rfl (by omega) (by omega) (by decide) hx)
  obtain ⟨s4, hs4⟩ : ∃ z, z = fxS s3 2 := ⟨_, rfl⟩
  rw [← hs4] at c4
  obtain ⟨v4, hv4⟩ : ∃ z, z = fxA s3 2 := ⟨_, rfl⟩
  rw [← hv4] at c4
  have c5 := hide (fun wx (hx : Dx (w.heap.size + 1) wx s4) => done_dx (w.heap.size + 1) wx s4 hx)
  obtain ⟨s5, hs5⟩ : ∃ z, z = edS s4 := ⟨_, rfl⟩
  rw [← hs5] at c5
  have HRES := hide (show eoR b = if s5.e = 0 then (⟨v3, v4⟩, 0) else (⟨0, 0⟩, s5.e) by subst hs1 hv1 hs2 hs3 hv3 hs4 hv4 hs5; rfl)
  clear hs1 hv1 hs2 hs3 hv3 hs4 hv4 hs5
  generalize eoR b = RR at *
  go_enter Try.func32, Try.ntmps32
  go_wp2_with fail
  refine (unhide c1 _ (unhide HR0).fx).mono ?_
  rintro e w1 ⟨⟨rfl, bl1, bh1⟩, ho⟩
  have HR1 := hide ((unhide HR0).call ho)
  clear ho c1 HR0
  go_wp2_with fail
  refine (unhide c2 _ (unhide HR1).fx).mono ?_
  rintro e w2 ⟨rfl, ho⟩
  have HR2 := hide ((unhide HR1).call ho)
  clear ho c2 HR1
  go_wp2_with fail
  refine (unhide c3 _ (unhide HR2).fx).mono ?_
  rintro e w3 ⟨⟨rfl, bl3, bh3⟩, ho⟩
  have HR3 := hide ((unhide HR2).call ho)
  clear ho c3 HR2
  go_wp2_with (with_reducible show wpList Try.prog _ _ (Oper.mk _ (Op.store 41 _ _) _ _ _ none :: _) _ _; refine wpList_stN rfl _ (.tmp 6) (.tmp 19) rfl #[.int .u16 v3, .int .u16 0] (by simp [Act.eval, Act.put]) (by simp [Act.eval, Act.put]) (unhide SZ) rfl (by simp [Value.oneCell']) ?_; intro w4 hh hb hz; have HR4 := hide ((unhide HR3).mk' hh hb); clear hh hb hz HR3)
  refine (unhide c4 _ (unhide HR4).u.fx).mono ?_
  rintro e w5 ⟨⟨rfl, bl4, bh4⟩, ho⟩
  have HR5 := hide ((unhide HR4).call ho)
  clear ho c4 HR4
  have q6 := (unhide HR5).cell (j := 1) (v := .int .u16 0) rfl
  have qf6 := (unhide HR5).free 1
  have HR6 := hide ((unhide HR5).store 1 (.int .u16 v4) (cs' := #[.int .u16 v3, .int .u16 v4]) rfl)
  clear HR5
  go_wp2_with fail
  clear q6 qf6
  refine (unhide c5 _ (unhide HR6).u.fx).mono ?_
  rintro e w7 ⟨rfl, ho⟩
  have HR7 := hide ((unhide HR6).call ho)
  clear ho c5 HR6
  have kE := (unhide HR7).u.fx.c1
  have t0 := (unhide HR7).cell (j := 0) (v := .int .u16 v3) rfl
  have t1 := (unhide HR7).cell (j := 1) (v := .int .u16 v4) rfl
  have u0 := (unhide HR7).rcell (j := 0) (v := .int .u16 0) rfl
  have uf0 := (unhide HR7).rfree 0
  have u1 := (unhide HR7).rcell (j := 1) (v := .int .u16 0) rfl
  have uf1 := (unhide HR7).rfree 1
  by_cases he : s5.e = 0
  · have he' : (s5.e != 0) = false := by simpa using he
    have HR' := hide (show RR = (⟨v3, v4⟩, 0) by rw [unhide HRES, if_pos he])
    clear HRES he
    generalize s5.e = E at *
    go_wp2_with fail
    refine bodyPost_ret (results_row_tmp rfl _ _ w.heap.size _ rfl (run_loadVar_row _ w.heap.size _ _ _ _ _ (show _ = some (Obj.cells #[.int .u16 v3, .int .u16 v4] 41 (0, 0)) from (heap_setCell_same _ w.heap.size 1 _ _ _ (heap_setCell_same _ w.heap.size 0 _ _ _ (unhide HR7).u.res))) Try.underlying41 rfl (by kernel_rfl))) rfl ?_
    rw [unhide HR']
    exact ⟨rfl, (((unhide HR7).u.bel.setCell (Nat.le_refl _) _).setCell (Nat.le_refl _) _)⟩
  · have he' : (s5.e != 0) = true := by simpa using he
    have HR' := hide (show RR = (⟨0, 0⟩, s5.e) by rw [unhide HRES, if_neg he])
    clear HRES he
    generalize s5.e = E at *
    go_wp2_with fail
    go_region
    go_wp2_with fail
    refine bodyPost_ret (results_row_tmp rfl _ _ w.heap.size _ rfl (run_loadVar_row _ w.heap.size _ _ _ _ _ (show _ = some (Obj.cells #[.int .u16 0, .int .u16 0] 41 (0, 0)) from (drew_row (heap_setCell_same _ w.heap.size 1 _ _ _ (heap_setCell_same _ w.heap.size 0 _ _ _ (unhide HR7).u.res)))) Try.underlying41 rfl (by kernel_rfl))) rfl ?_
    rw [unhide HR']
    exact ⟨rfl, (((unhide HR7).u.bel.setCell (Nat.le_refl _) _).setCell (Nat.le_refl _) _).drew⟩

set_option maxHeartbeats 4000000 in
set_option maxRecDepth 100000 in
theorem readPrepared_ref (bo : Option Addr) (bn bc : Nat) (b : List Int) (w : World) (h : Bs w bo bn bc b) (hn : bn ≤ 1099511627776) :
    Calls Try.prog 34 #[.slice bo bn bc] w fun e w' => OutPr w (prR b) e w' := by
  have HR0 := hide (show Du w 48 #[.int .u32 0, .int .u16 0, .int .u16 0, .int .u16 0] ((w.alloc (.cells #[.int .u32 0, .int .u16 0, .int .u16 0, .int .u16 0] 48)).alloc (.cells #[.slice bo bn bc, .int .i64 0] 120)) ⟨b, 0⟩ from Du.new h hn _)
  clear h
  have c1 := hide (fun wx (hx : Dx (w.heap.size + 1) wx ⟨b, 0⟩) => zero_dx (w.heap.size + 1) wx ⟨b, 0⟩ hx)
  obtain ⟨s1, hs1⟩ : ∃ z, z = maS ⟨b, 0⟩ 0 := ⟨_, rfl⟩
  rw [← hs1] at c1
  have c2 := hide (fun wx (hx : Dx (w.heap.size + 1) wx s1) => fixed_dx (w.heap.size + 1) wx s1 4 4 4294967296 rfl (by omega) (by omega) (by decide) hx)
  obtain ⟨s2, hs2⟩ : ∃ z, z = fxS s1 4 := ⟨_, rfl⟩
  rw [← hs2] at c2
  obtain ⟨v2, hv2⟩ : ∃ z, z = fxA s1 4 := ⟨_, rfl⟩
  rw [← hv2] at c2
  have SZ := hide (show (Try.prog.info? 48).map (·.size) = some (#[.int .u32 v2, .int .u16 0, .int .u16 0, .int .u16 0] : Array Value).size by kernel_rfl)
  have c3 := hide (fun wx (hx : Dx (w.heap.size + 1) wx s2) => fixed_dx (w.heap.size + 1) wx s2 2 2 65536 rfl (by omega) (by omega) (by decide) hx)
  obtain ⟨s3, hs3⟩ : ∃ z, z = fxS s2 2 := ⟨_, rfl⟩
  rw [← hs3] at c3
  obtain ⟨v3, hv3⟩ : ∃ z, z = fxA s2 2 := ⟨_, rfl⟩
  rw [← hv3] at c3
  have c4 := hide (fun wx (hx : Dx (w.heap.size + 1) wx s3) => fixed_dx (w.heap.size + 1) wx s3 2 2 65536 rfl (by omega) (by omega) (by decide) hx)
  obtain ⟨s4, hs4⟩ : ∃ z, z = fxS s3 2 := ⟨_, rfl⟩
  rw [← hs4] at c4
  obtain ⟨v4, hv4⟩ : ∃ z, z = fxA s3 2 := ⟨_, rfl⟩
  rw [← hv4] at c4
  have c5 := hide (fun wx (hx : Dx (w.heap.size + 1) wx s4) => zero_dx (w.heap.size + 1) wx s4 hx)
  obtain ⟨s5, hs5⟩ : ∃ z, z = maS s4 0 := ⟨_, rfl⟩
  rw [← hs5] at c5
  have c6 := hide (fun wx (hx : Dx (w.heap.size + 1) wx s5) => fixed_dx (w.heap.size + 1) wx s5 2 2 65536 rfl (by omega) (by omega) (by decide) hx)
  obtain ⟨s6, hs6⟩ : ∃ z, z = fxS s5 2 := ⟨_, rfl⟩
  rw [← hs6] at c6
  obtain ⟨v6, hv6⟩ : ∃ z, z = fxA s5 2 := ⟨_, rfl⟩
  rw [← hv6] at c6
  have c7 := hide (fun wx (hx : Dx (w.heap.size + 1) wx s6) => done_dx (w.heap.size + 1) wx s6 hx)
  obtain ⟨s7, hs7⟩ : ∃ z, z = edS s6 := ⟨_, rfl⟩
  rw [← hs7] at c7
  have HRES := hide (show prR b = if s7.e = 0 then (⟨v2, v3, v4, v6⟩, 0) else (⟨0, 0, 0, 0⟩, s7.e) by subst hs1 hs2 hv2 hs3 hv3 hs4 hv4 hs5 hs6 hv6 hs7; rfl)
  clear hs1 hs2 hv2 hs3 hv3 hs4 hv4 hs5 hs6 hv6 hs7
  generalize prR b = RR at *
  go_enter Try.func34, Try.ntmps34
  go_wp2_with fail
  refine (unhide c1 _ (unhide HR0).fx).mono ?_
  rintro e w1 ⟨rfl, ho⟩
  have HR1 := hide ((unhide HR0).call ho)
  clear ho c1 HR0
  go_wp2_with fail
  refine (unhide c2 _ (unhide HR1).fx).mono ?_
  rintro e w2 ⟨⟨rfl, bl2, bh2⟩, ho⟩
  have HR2 := hide ((unhide HR1).call ho)
  clear ho c2 HR1
  go_wp2_with (with_reducible show wpList Try.prog _ _ (Oper.mk _ (Op.store 48 _ _) _ _ _ none :: _) _ _; refine wpList_stN rfl _ (.tmp 5) (.tmp 14) rfl #[.int .u32 v2, .int .u16 0, .int .u16 0, .int .u16 0] (by simp [Act.eval, Act.put]) (by simp [Act.eval, Act.put]) (unhide SZ) rfl (by simp [Value.oneCell']) ?_; intro w3 hh hb hz; have HR3 := hide ((unhide HR2).mk' hh hb); clear hh hb hz HR2)
  refine (unhide c3 _ (unhide HR3).u.fx).mono ?_
  rintro e w4 ⟨⟨rfl, bl3, bh3⟩, ho⟩
  have HR4 := hide ((unhide HR3).call ho)
  clear ho c3 HR3
  have q5 := (unhide HR4).cell (j := 1) (v := .int .u16 0) rfl
  have qf5 := (unhide HR4).free 1
  have HR5 := hide ((unhide HR4).store 1 (.int .u16 v3) (cs' := #[.int .u32 v2, .int .u16 v3, .int .u16 0, .int .u16 0]) rfl)
  clear HR4
  go_wp2_with fail
  clear q5 qf5
  refine (unhide c4 _ (unhide HR5).u.fx).mono ?_
  rintro e w6 ⟨⟨rfl, bl4, bh4⟩, ho⟩
  have HR6 := hide ((unhide HR5).call ho)
  clear ho c4 HR5
  have q7 := (unhide HR6).cell (j := 2) (v := .int .u16 0) rfl
  have qf7 := (unhide HR6).free 2
  have HR7 := hide ((unhide HR6).store 2 (.int .u16 v4) (cs' := #[.int .u32 v2, .int .u16 v3, .int .u16 v4, .int .u16 0]) rfl)
  clear HR6
  go_wp2_with fail
  clear q7 qf7
  refine (unhide c5 _ (unhide HR7).u.fx).mono ?_
  rintro e w8 ⟨rfl, ho⟩
  have HR8 := hide ((unhide HR7).call ho)
  clear ho c5 HR7
  go_wp2_with fail
  refine (unhide c6 _ (unhide HR8).u.fx).mono ?_
  rintro e w9 ⟨⟨rfl, bl6, bh6⟩, ho⟩
  have HR9 := hide ((unhide HR8).call ho)
  clear ho c6 HR8
  have q10 := (unhide HR9).cell (j := 3) (v := .int .u16 0) rfl
  have qf10 := (unhide HR9).free 3
  have HR10 := hide ((unhide HR9).store 3 (.int .u16 v6) (cs' := #[.int .u32 v2, .int .u16 v3, .int .u16 v4, .int .u16 v6]) rfl)
  clear HR9
  go_wp2_with fail
  clear q10 qf10
  refine (unhide c7 _ (unhide HR10).u.fx).mono ?_
  rintro e w11 ⟨rfl, ho⟩
  have HR11 := hide ((unhide HR10).call ho)
  clear ho c7 HR10
  have kE := (unhide HR11).u.fx.c1
  have t0 := (unhide HR11).cell (j := 0) (v := .int .u32 v2) rfl
  have t1 := (unhide HR11).cell (j := 1) (v := .int .u16 v3) rfl
  have t2 := (unhide HR11).cell (j := 2) (v := .int .u16 v4) rfl
  have t3 := (unhide HR11).cell (j := 3) (v := .int .u16 v6) rfl
  have u0 := (unhide HR11).rcell (j := 0) (v := .int .u32 0) rfl
  have uf0 := (unhide HR11).rfree 0
  have u1 := (unhide HR11).rcell (j := 1) (v := .int .u16 0) rfl
  have uf1 := (unhide HR11).rfree 1
  have u2 := (unhide HR11).rcell (j := 2) (v := .int .u16 0) rfl
  have uf2 := (unhide HR11).rfree 2
  have u3 := (unhide HR11).rcell (j := 3) (v := .int .u16 0) rfl
  have uf3 := (unhide HR11).rfree 3
  by_cases he : s7.e = 0
  · have he' : (s7.e != 0) = false := by simpa using he
    have HR' := hide (show RR = (⟨v2, v3, v4, v6⟩, 0) by rw [unhide HRES, if_pos he])
    clear HRES he
    generalize s7.e = E at *
    go_wp2_with fail
    refine bodyPost_ret (results_row_tmp rfl _ _ w.heap.size _ rfl (run_loadVar_row _ w.heap.size _ _ _ _ _ (show _ = some (Obj.cells #[.int .u32 v2, .int .u16 v3, .int .u16 v4, .int .u16 v6] 48 (0, 0)) from (heap_setCell_same _ w.heap.size 3 _ _ _ (heap_setCell_same _ w.heap.size 2 _ _ _ (heap_setCell_same _ w.heap.size 1 _ _ _ (heap_setCell_same _ w.heap.size 0 _ _ _ (unhide HR11).u.res))))) Try.underlying48 rfl (by kernel_rfl))) rfl ?_
    rw [unhide HR']
    exact ⟨rfl, (((((unhide HR11).u.bel.setCell (Nat.le_refl _) _).setCell (Nat.le_refl _) _).setCell (Nat.le_refl _) _).setCell (Nat.le_refl _) _)⟩
  · have he' : (s7.e != 0) = true := by simpa using he
    have HR' := hide (show RR = (⟨0, 0, 0, 0⟩, s7.e) by rw [unhide HRES, if_neg he])
    clear HRES he
    generalize s7.e = E at *
    go_wp2_with fail
    go_region
    go_wp2_with fail
    refine bodyPost_ret (results_row_tmp rfl _ _ w.heap.size _ rfl (run_loadVar_row _ w.heap.size _ _ _ _ _ (show _ = some (Obj.cells #[.int .u32 0, .int .u16 0, .int .u16 0, .int .u16 0] 48 (0, 0)) from (drew_row (heap_setCell_same _ w.heap.size 3 _ _ _ (heap_setCell_same _ w.heap.size 2 _ _ _ (heap_setCell_same _ w.heap.size 1 _ _ _ (heap_setCell_same _ w.heap.size 0 _ _ _ (unhide HR11).u.res)))))) Try.underlying48 rfl (by kernel_rfl))) rfl ?_
    rw [unhide HR']
    exact ⟨rfl, (((((unhide HR11).u.bel.setCell (Nat.le_refl _) _).setCell (Nat.le_refl _) _).setCell (Nat.le_refl _) _).setCell (Nat.le_refl _) _).drew⟩

set_option maxHeartbeats 4000000 in
set_option maxRecDepth 100000 in
theorem readErr_ref (bo : Option Addr) (bn bc : Nat) (b : List Int) (w : World) (h : Bs w bo bn bc b) (hn : bn ≤ 1099511627776) :
    Calls Try.prog 30 #[.slice bo bn bc] w fun e w' => OutEr w (erR b) e w' := by
  have HR0 := hide (show Du w 35 #[.int .u16 0, .string ⟨#[]⟩, .string ⟨#[]⟩] ((w.alloc (.cells #[.int .u16 0, .string ⟨#[]⟩, .string ⟨#[]⟩] 35)).alloc (.cells #[.slice bo bn bc, .int .i64 0] 120)) ⟨b, 0⟩ from Du.new h hn _)
  clear h
  have c1 := hide (fun wx (hx : Dx (w.heap.size + 1) wx ⟨b, 0⟩) => byte_dx (w.heap.size + 1) wx ⟨b, 0⟩ hx)
  obtain ⟨s1, hs1⟩ : ∃ z, z = fxS ⟨b, 0⟩ 1 := ⟨_, rfl⟩
  rw [← hs1] at c1
  obtain ⟨v1, hv1⟩ : ∃ z, z = fxA ⟨b, 0⟩ 1 := ⟨_, rfl⟩
  rw [← hv1] at c1
  have c2 := hide (fun wx (hx : Dx (w.heap.size + 1) wx s1) => wrong_dx (w.heap.size + 1) wx s1 (v1 == 255) (v1 != 255) (rfl) hx)
  obtain ⟨s2, hs2⟩ : ∃ z, z = waS s1 (v1 == 255) := ⟨_, rfl⟩
  rw [← hs2] at c2
  have c3 := hide (fun wx (hx : Dx (w.heap.size + 1) wx s2) => fixed_dx (w.heap.size + 1) wx s2 2 2 65536 rfl (by omega) (by omega) (by decide) hx)
  obtain ⟨s3, hs3⟩ : ∃ z, z = fxS s2 2 := ⟨_, rfl⟩
  rw [← hs3] at c3
  obtain ⟨v3, hv3⟩ : ∃ z, z = fxA s2 2 := ⟨_, rfl⟩
  rw [← hv3] at c3
  have SZ := hide (show (Try.prog.info? 35).map (·.size) = some (#[.int .u16 v3, .string ⟨#[]⟩, .string ⟨#[]⟩] : Array Value).size by kernel_rfl)
  have c4 := hide (fun wx (hx : Dx (w.heap.size + 1) wx s3) => byte_dx (w.heap.size + 1) wx s3 hx)
  obtain ⟨s4, hs4⟩ : ∃ z, z = fxS s3 1 := ⟨_, rfl⟩
  rw [← hs4] at c4
  obtain ⟨v4, hv4⟩ : ∃ z, z = fxA s3 1 := ⟨_, rfl⟩
  rw [← hv4] at c4
  have c5 := hide (fun wx (hx : Dx (w.heap.size + 1) wx s4) => wrong_dx (w.heap.size + 1) wx s4 (v4 == 35) (v4 != 35) (rfl) hx)
  obtain ⟨s5, hs5⟩ : ∃ z, z = waS s4 (v4 == 35) := ⟨_, rfl⟩
  rw [← hs5] at c5
  have c6 := hide (fun wx (hx : Dx (w.heap.size + 1) wx s5) => five_dx (w.heap.size + 1) wx s5 hx)
  obtain ⟨s6, hs6⟩ : ∃ z, z = tkS s5 5 := ⟨_, rfl⟩
  rw [← hs6] at c6
  obtain ⟨v6, hv6⟩ : ∃ z, z = byA s5 5 := ⟨_, rfl⟩
  rw [← hv6] at c6
  have c7 := hide (fun wx (hx : Dx (w.heap.size + 1) wx s6) => rest_dx (w.heap.size + 1) wx s6 hx)
  obtain ⟨s7, hs7⟩ : ∃ z, z = reS s6 := ⟨_, rfl⟩
  rw [← hs7] at c7
  obtain ⟨v7, hv7⟩ : ∃ z, z = reA s6 := ⟨_, rfl⟩
  rw [← hv7] at c7
  obtain ⟨vT, hvT⟩ : ∃ z, z = strOfNums (tkA s5 5) := ⟨_, rfl⟩
  have HTK := hide (fun (q : s7.e = 0) => show strOfNums v6 = vT by rw [hv6, hvT]; exact congrArg _ (by_tk (show (tkS s5 5).e = 0 by rw [← hs6, ← re_e, ← hs7]; exact q)))
  have HRES := hide (show erR b = if s7.e = 0 then (⟨v3, vT, strOfNums v7⟩, 0) else (⟨0, ⟨#[]⟩, ⟨#[]⟩⟩, s7.e) by subst hvT hs1 hv1 hs2 hs3 hv3 hs4 hv4 hs5 hs6 hv6 hs7 hv7; unfold erR erQ; simp only [ed_re]; rfl)
  clear hvT hs1 hv1 hs2 hs3 hv3 hs4 hv4 hs5 hs6 hv6 hs7 hv7
  generalize erR b = RR at *
  go_enter Try.func30, Try.ntmps30
  go_wp2_with fail
  refine (unhide c1 _ (unhide HR0).fx).mono ?_
  rintro e w1 ⟨⟨rfl, bl1, bh1⟩, ho⟩
  have HR1 := hide ((unhide HR0).call ho)
  clear ho c1 HR0
  go_wp2_with fail
  refine (unhide c2 _ (unhide HR1).fx).mono ?_
  rintro e w2 ⟨rfl, ho⟩
  have HR2 := hide ((unhide HR1).call ho)
  clear ho c2 HR1
  go_wp2_with fail
  refine (unhide c3 _ (unhide HR2).fx).mono ?_
  rintro e w3 ⟨⟨rfl, bl3, bh3⟩, ho⟩
  have HR3 := hide ((unhide HR2).call ho)
  clear ho c3 HR2
  go_wp2_with (with_reducible show wpList Try.prog _ _ (Oper.mk _ (Op.store 35 _ _) _ _ _ none :: _) _ _; refine wpList_stN rfl _ (.tmp 6) (.tmp 19) rfl #[.int .u16 v3, .string ⟨#[]⟩, .string ⟨#[]⟩] (by simp [Act.eval, Act.put]) (by simp [Act.eval, Act.put]) (unhide SZ) rfl (by simp [Value.oneCell']) ?_; intro w4 hh hb hz; have HR4 := hide ((unhide HR3).mk' hh hb); clear hh hb hz HR3)
  refine (unhide c4 _ (unhide HR4).u.fx).mono ?_
  rintro e w5 ⟨⟨rfl, bl4, bh4⟩, ho⟩
  have HR5 := hide ((unhide HR4).call ho)
  clear ho c4 HR4
  go_wp2_with fail
  refine (unhide c5 _ (unhide HR5).u.fx).mono ?_
  rintro e w6 ⟨rfl, ho⟩
  have HR6 := hide ((unhide HR5).call ho)
  clear ho c5 HR5
  go_wp2_with fail
  refine (unhide c6 _ (unhide HR6).u.fx).mono ?_
  rintro e w7 ⟨xo6, xc6, rfl, hm, ho⟩
  have HR7 := hide ((unhide HR6).call ho)
  have hstr := hm.str
  clear ho c6 HR6 hm
  have q8 := (unhide HR7).cell (j := 1) (v := .string ⟨#[]⟩) rfl
  have qf8 := (unhide HR7).free 1
  have HR8 := hide ((unhide HR7).store 1 (.string (strOfNums v6)) (cs' := #[.int .u16 v3, .string (strOfNums v6), .string ⟨#[]⟩]) rfl)
  clear HR7
  go_wp2_with fail
  clear hstr q8 qf8
  refine (unhide c7 _ (unhide HR8).u.fx).mono ?_
  rintro e w9 ⟨xo7, xn7, xc7, rfl, hm, ho⟩
  have HR9 := hide ((unhide HR8).call ho)
  have hstr := hm.str
  clear ho c7 HR8 hm
  have q10 := (unhide HR9).cell (j := 2) (v := .string ⟨#[]⟩) rfl
  have qf10 := (unhide HR9).free 2
  have HR10 := hide ((unhide HR9).store 2 (.string (strOfNums v7)) (cs' := #[.int .u16 v3, .string (strOfNums v6), .string (strOfNums v7)]) rfl)
  clear HR9
  have kE := (unhide HR10).u.fx.c1
  have t0 := (unhide HR10).cell (j := 0) (v := .int .u16 v3) rfl
  have t1 := (unhide HR10).cell (j := 1) (v := .string (strOfNums v6)) rfl
  have t2 := (unhide HR10).cell (j := 2) (v := .string (strOfNums v7)) rfl
  have u0 := (unhide HR10).rcell (j := 0) (v := .int .u16 0) rfl
  have uf0 := (unhide HR10).rfree 0
  have u1 := (unhide HR10).rcell (j := 1) (v := .string ⟨#[]⟩) rfl
  have uf1 := (unhide HR10).rfree 1
  have u2 := (unhide HR10).rcell (j := 2) (v := .string ⟨#[]⟩) rfl
  have uf2 := (unhide HR10).rfree 2
  by_cases he : s7.e = 0
  · have he' : (s7.e != 0) = false := by simpa using he
    have HR' := hide (show RR = (⟨v3, vT, strOfNums v7⟩, 0) by rw [unhide HRES, if_pos he])
    have HEQ := hide (unhide HTK he)
    clear HRES he
    generalize s7.e = E at *
    go_wp2_with fail
    refine bodyPost_ret (results_row_tmp rfl _ _ w.heap.size _ rfl (run_loadVar_row _ w.heap.size _ _ _ _ _ (show _ = some (Obj.cells #[.int .u16 v3, .string (strOfNums v6), .string (strOfNums v7)] 35 (0, 0)) from (heap_setCell_same _ w.heap.size 2 _ _ _ (heap_setCell_same _ w.heap.size 1 _ _ _ (heap_setCell_same _ w.heap.size 0 _ _ _ (unhide HR10).u.res)))) Try.underlying35 rfl (by kernel_rfl))) rfl ?_
    rw [unhide HR']
    rw [← unhide HEQ]
    exact ⟨rfl, ((((unhide HR10).u.bel.setCell (Nat.le_refl _) _).setCell (Nat.le_refl _) _).setCell (Nat.le_refl _) _)⟩
  · have he' : (s7.e != 0) = true := by simpa using he
    have HR' := hide (show RR = (⟨0, ⟨#[]⟩, ⟨#[]⟩⟩, s7.e) by rw [unhide HRES, if_neg he])
    clear HRES he
    generalize s7.e = E at *
    go_wp2_with fail
    go_region
    go_wp2_with fail
    refine bodyPost_ret (results_row_tmp rfl _ _ w.heap.size _ rfl (run_loadVar_row _ w.heap.size _ _ _ _ _ (show _ = some (Obj.cells #[.int .u16 0, .string ⟨#[]⟩, .string ⟨#[]⟩] 35 (0, 0)) from (drew_row (heap_setCell_same _ w.heap.size 2 _ _ _ (heap_setCell_same _ w.heap.size 1 _ _ _ (heap_setCell_same _ w.heap.size 0 _ _ _ (unhide HR10).u.res))))) Try.underlying35 rfl (by kernel_rfl))) rfl ?_
    rw [unhide HR']
    exact ⟨rfl, ((((unhide HR10).u.bel.setCell (Nat.le_refl _) _).setCell (Nat.le_refl _) _).setCell (Nat.le_refl _) _).drew⟩

set_option maxHeartbeats 2000000 in
set_option maxRecDepth 100000 in
theorem readFile_ref (bo : Option Addr) (bn bc : Nat) (b : List Int) (w : World) (h : Bs w bo bn bc b) (hn : bn ≤ 1099511627776) :
    Calls Try.prog 35 #[.slice bo bn bc] w fun e w' => e = .returned (.tuple #[.string (fiR b).1, .int .i64 (fiR b).2]) ∧ Below w.heap.size w w' := by
  have HF0 := hide (show Dx w.heap.size (w.alloc (.cells #[.slice bo bn bc, .int .i64 0] 120)) ⟨b, 0⟩ from ⟨⟨_, _, _, Dl.new h⟩, by rw [h.len]; exact hn⟩)
  have HB0 := hide (below_alloc w (.cells #[.slice bo bn bc, .int .i64 0] 120))
  clear h
  have c1 := hide (fun wx (hx : Dx w.heap.size wx ⟨b, 0⟩) => byte_dx w.heap.size wx ⟨b, 0⟩ hx)
  obtain ⟨s1, hs1⟩ : ∃ z, z = fxS ⟨b, 0⟩ 1 := ⟨_, rfl⟩
  rw [← hs1] at c1
  obtain ⟨v1, hv1⟩ : ∃ z, z = fxA ⟨b, 0⟩ 1 := ⟨_, rfl⟩
  rw [← hv1] at c1
  have c2 := hide (fun wx (hx : Dx w.heap.size wx s1) => wrong_dx w.heap.size wx s1 (v1 == 251) (v1 != 251) rfl hx)
  obtain ⟨s2, hs2⟩ : ∃ z, z = waS s1 (v1 == 251) := ⟨_, rfl⟩
  rw [← hs2] at c2
  have c3 := hide (fun wx (hx : Dx w.heap.size wx s2) => rest_dx w.heap.size wx s2 hx)
  have HRE := hide (show fiR b = (strOfNums (reA s2), if s2.e = 0 ∧ s2.b = [] then 4 else s2.e) by
    have e : maS ⟨b, 0⟩ 251 = s2 := by subst hs1 hv1 hs2; rfl
    unfold fiR fiQ
    simp only [e, ed_re]
    unfold neS reS reA
    by_cases he : s2.e = 0
    · cases hb : s2.b with
      | nil => simp [he, hb]; rfl
      | cons x l => simp [he, hb]
    · simp [he]
      rfl)
  have HLEN := hide (reA_len s2)
  obtain ⟨s3, hs3⟩ : ∃ z, z = reS s2 := ⟨_, rfl⟩
  rw [← hs3] at c3
  obtain ⟨v3, hv3⟩ : ∃ z, z = reA s2 := ⟨_, rfl⟩
  rw [← hv3] at c3 HRE HLEN
  have HE3 := hide (show s3.e = s2.e by rw [hs3]; exact re_e s2)
  clear hs1 hv1 hs2 hs3 hv3
  generalize fiR b = RR at *
  go_enter Try.func35, Try.ntmps35
  go_wp2_with fail
  refine (unhide c1 _ (unhide HF0)).mono ?_
  rintro e w1 ⟨⟨rfl, bl, bh⟩, ho⟩
  have HF1 := hide ho.1
  have HB1 := hide ((unhide HB0).trans (ho.2.below (by have := (unhide HF0).lt; omega)))
  clear ho c1 HF0 HB0
  go_wp2_with fail
  refine (unhide c2 _ (unhide HF1)).mono ?_
  rintro e w2 ⟨rfl, ho⟩
  have HF2 := hide ho.1
  have HB2 := hide ((unhide HB1).trans (ho.2.below (by have := (unhide HF1).lt; omega)))
  clear ho c2 HF1 HB1
  go_wp2_with fail
  refine (unhide c3 _ (unhide HF2)).mono ?_
  rintro e w3 ⟨xo, xn, xc, rfl, hm, ho⟩
  have HF3 := hide ho.1
  have HB3 := hide ((unhide HB2).trans (ho.2.below (by have := (unhide HF2).lt; omega)))
  have hstr := hm.str
  clear hm
  clear ho c3 HF2 HB2
  have kE := (unhide HF3).c1
  have kF := (unhide HF3).free 1
  rw [unhide HE3] at kE
  by_cases he : s2.e = 0
  · by_cases hz : s2.b = []
    · have HR' := hide (show RR = (strOfNums v3, 4) by rw [unhide HRE, if_pos ⟨he, hz⟩])
      have q1 : (s2.e == 0) = true := by simpa using he
      have q2 : (strOfNums v3).toList.isEmpty = true := by rw [ba_isEmpty, str_sz, unhide HLEN he, hz]; rfl
      have HFS := hide ((unhide HF3).putE 4)
      have kS := (unhide HFS).c1
      have HBS := hide (show Below w.heap.size w (w3.setCell ⟨w.heap.size, 1, none⟩ (.int .i64 4)) from (unhide HB3).setCell (Nat.le_refl _) _)
      clear HRE he hz HLEN
      generalize s2.e = E at *
      generalize strOfNums v3 = V at *
      go_wp2_with fail
      go_quiet (fail)
      go_wp2_with fail
      go_ret2
      rw [unhide HR']
      exact ⟨rfl, (unhide HBS).trans ⟨rfl, rfl, rfl, Nat.le_refl _, fun _ _ => rfl⟩⟩
    · have HR' := hide (show RR = (strOfNums v3, s2.e) by rw [unhide HRE, if_neg (fun q => hz q.2)])
      have q1 : (s2.e == 0) = true := by simpa using he
      have q2 : (strOfNums v3).toList.isEmpty = false := by rw [ba_isEmpty, str_sz, unhide HLEN he]; exact decide_eq_false (fun q => hz (List.eq_nil_of_length_eq_zero q))
      clear HRE he hz HLEN
      generalize s2.e = E at *
      generalize strOfNums v3 = V at *
      go_wp2_with fail
      go_quiet (fail)
      go_wp2_with fail
      go_ret2
      rw [unhide HR']
      exact ⟨rfl, (unhide HB3).trans ⟨rfl, rfl, rfl, Nat.le_refl _, fun _ _ => rfl⟩⟩
  · have HR' := hide (show RR = (strOfNums v3, s2.e) by rw [unhide HRE, if_neg (fun q => he q.1)])
    have q1 : (s2.e == 0) = false := by simpa using he
    clear HRE he HLEN
    generalize s2.e = E at *
    generalize strOfNums v3 = V at *
    go_wp2_with fail
    go_quiet (fail)
    go_wp2_with fail
    go_ret2
    rw [unhide HR']
    exact ⟨rfl, (unhide HB3).trans ⟨rfl, rfl, rfl, Nat.le_refl _, fun _ _ => rfl⟩⟩

end Go.Proofs.Ytkijdkbkbelliaa
