/-
  What the document's own answer returns for the bytes of a column, and of a count. It writes nothing that was there. Conditions: the slice can be read; at most 2 to the 40 bytes.
-/
import Derived.Test.YtgdjeooiimjjcaaClFd
import Derived.Test.YtgdjeooiimjjcaaClRn
import Derived.Test.YtgdjeooiimjjcaaClRead
import Derived.Test.YtgdjeooiimjjcaaLeWritesRef
import Derived.BigQuiet
import Derived.BigRegion
import Derived.Deep.CutRange
import Derived.Deep.DeepCutAuto
namespace Go.Proofs.Ytgdjeooiimjjcaa
open Go.RowKit
set_option linter.unusedVariables false
set_option linter.unusedSimpArgs false

/-- A function of the document's answer that reads a reply: the result lies in the first new block, the fields in the second. -/
structure Du (w0 : World) (T : TypeId) (zc : Array Value) (w : World) (s : FS) : Prop where
  fx : Dx (w0.heap.size + 1) w s
  bel : Below w0.heap.size w0 w
  res : w.heap[w0.heap.size]? = some (.cells zc T (0, 0))
/-- .. and the reply itself in block g. -/
structure Dw (w0 : World) (T : TypeId) (zc cs : Array Value) (g : Nat) (w : World) (s : FS) : Prop where
  u : Du w0 T zc w s
  loc : w.heap[g]? = some (.cells cs T (0, 0))
  hg : w0.heap.size + 1 < g
section
variable {w0 : World} {T : TypeId} {zc cs : Array Value} {g : Nat} {w : World} {s : FS}
theorem Du.lt (h : Du w0 T zc w s) : w0.heap.size + 1 < w.heap.size := h.fx.lt
theorem Du.call (h : Du w0 T zc w s) {s' : FS} {w' : World} (o : OutY (w0.heap.size + 1) w s' w') : Du w0 T zc w' s' := by
  have := h.lt
  exact ⟨o.1, h.bel.trans ((o.2.below (by omega)).mono (by omega)), (o.2.block _ (by omega) (by omega)).trans h.res⟩
theorem Du.later (h : Du w0 T zc w s) {w' : World} (hb : Below w.heap.size w w') : Du w0 T zc w' s := by
  have := h.lt
  exact ⟨h.fx.later hb, h.bel.trans (hb.mono (by omega)), (hb.block _ (by omega)).trans h.res⟩
theorem Du.mk' (h : Du w0 T zc w s) {w' : World} {cs : Array Value} (hh : w'.heap[w.heap.size]? = some (.cells cs T (0, 0))) (hb : Below w.heap.size w w') : Dw w0 T zc cs w.heap.size w' s := ⟨h.later hb, hh, h.lt⟩
theorem Dw.lt (h : Dw w0 T zc cs g w s) : g < w.heap.size := row_lt h.loc
theorem Dw.call (h : Dw w0 T zc cs g w s) {s' : FS} {w' : World} (o : OutY (w0.heap.size + 1) w s' w') : Dw w0 T zc cs g w' s' := by
  have h1 := h.hg
  have h2 := h.lt
  exact ⟨h.u.call o, (o.2.block _ h2 (by omega)).trans h.loc, h.hg⟩
theorem Dw.later (h : Dw w0 T zc cs g w s) {w' : World} (hb : Below w.heap.size w w') : Dw w0 T zc cs g w' s := ⟨h.u.later hb, row_later h.loc hb, h.hg⟩
theorem Dw.store (h : Dw w0 T zc cs g w s) (j : Nat) (v : Value) {cs' : Array Value} (hc : cs.setIfInBounds j v = cs') : Dw w0 T zc cs' g (w.setCell ⟨g, j, none⟩ v) s := by
  have h1 := h.hg
  subst hc
  exact ⟨⟨h.u.fx.above ((Below.refl _ _).setCell (by simp only; omega) _), h.u.bel.setCell (by simp only; omega) _, (heap_setCell_other w ⟨g, j, none⟩ _ _ (by simp only; omega)).trans h.u.res⟩, heap_setCell_same w _ j _ _ _ h.loc, h.hg⟩
theorem Dw.cell (h : Dw w0 T zc cs g w s) {j : Nat} {v : Value} (hj : cs[j]? = some v) : w.cell? ⟨g, j, none⟩ = some v := row_cell h.loc hj
theorem Dw.free (h : Dw w0 T zc cs g w s) (j : Nat) : w.frozen? ⟨g, j, none⟩ = false := frozen_of_row w _ j _ _ h.loc
theorem Dw.rcell (h : Dw w0 T zc cs g w s) {j : Nat} {v : Value} (hj : zc[j]? = some v) : w.cell? ⟨w0.heap.size, j, none⟩ = some v := row_cell h.u.res hj
theorem Dw.rfree (h : Dw w0 T zc cs g w s) (j : Nat) : w.frozen? ⟨w0.heap.size, j, none⟩ = false := frozen_of_row w _ j _ _ h.u.res
theorem Du.new {bo : Option Addr} {bn bc : Nat} {b : List Int} (h : Bs w0 bo bn bc b) (hn : bn ≤ 1099511627776) (zc : Array Value) :
    Du w0 T zc ((w0.alloc (.cells zc T)).alloc (.cells #[.slice bo bn bc, .int .i64 0] 58)) ⟨b, 0⟩ := by
  have b1 := below_alloc w0 (.cells zc T)
  have f1 := Dl.new (h.later b1)
  have b2 := below_alloc (w0.alloc (.cells zc T)) (.cells #[.slice bo bn bc, .int .i64 0] 58)
  have e1 : (w0.alloc (.cells zc T)).heap.size = w0.heap.size + 1 := by simp
  rw [e1] at f1
  refine ⟨⟨⟨_, _, _, f1⟩, by rw [h.len]; exact hn⟩, b1.trans (b2.mono (by omega)), ?_⟩
  rw [b2.block _ (by omega)]
  exact heap_alloc_new w0 _
end
set_option maxHeartbeats 8000000 in
set_option maxRecDepth 100000 in
theorem read_ref (bo : Option Addr) (bn bc : Nat) (b : List Int) (w : World) (h : Bs w bo bn bc b) (hn : bn ≤ 1099511627776) :
    Calls Try.prog 8 #[.slice bo bn bc] w fun e w' => OutCo w (coR b) e w' := by
  have HR0 := hide (show Du w 28 #[.string ⟨#[]⟩, .string ⟨#[]⟩, .string ⟨#[]⟩, .string ⟨#[]⟩, .string ⟨#[]⟩, .int .u16 0, .int .u32 0, .int .u8 0, .int .u16 0, .int .u8 0] ((w.alloc (.cells #[.string ⟨#[]⟩, .string ⟨#[]⟩, .string ⟨#[]⟩, .string ⟨#[]⟩, .string ⟨#[]⟩, .int .u16 0, .int .u32 0, .int .u8 0, .int .u16 0, .int .u8 0] 28)).alloc (.cells #[.slice bo bn bc, .int .i64 0] 58)) ⟨b, 0⟩ from Du.new h hn _)
  clear h
  have c1 := hide (fun wx (hx : Dx (w.heap.size + 1) wx ⟨b, 0⟩)  => text_dx (w.heap.size + 1) wx ⟨b, 0⟩ hx)
  obtain ⟨s1, hs1⟩ : ∃ z, z = txS ⟨b, 0⟩ := ⟨_, rfl⟩
  rw [← hs1] at c1
  obtain ⟨v1, hv1⟩ : ∃ z, z = txA ⟨b, 0⟩ := ⟨_, rfl⟩
  rw [← hv1] at c1
  have c2 := hide (fun wx (hx : Dx (w.heap.size + 1) wx s1) (y : Bool) (hy : y = !(isDef v1)) => wrong_dx (w.heap.size + 1) wx s1 (isDef v1) y hy hx)
  obtain ⟨s2, hs2⟩ : ∃ z, z = waS s1 (isDef v1) := ⟨_, rfl⟩
  rw [← hs2] at c2
  have c3 := hide (fun wx (hx : Dx (w.heap.size + 1) wx s2)  => ctext_dx _ wx _ hx)
  obtain ⟨s3, hs3⟩ : ∃ z, z = ctS s2 := ⟨_, rfl⟩
  rw [← hs3] at c3
  obtain ⟨v3, hv3⟩ : ∃ z, z = txA s2 := ⟨_, rfl⟩
  rw [← hv3] at c3
  have SZ := hide (show (Try.prog.info? 28).map (·.size) = some (#[.string v3, .string ⟨#[]⟩, .string ⟨#[]⟩, .string ⟨#[]⟩, .string ⟨#[]⟩, .int .u16 0, .int .u32 0, .int .u8 0, .int .u16 0, .int .u8 0] : Array Value).size by kernel_rfl)
  have c4 := hide (fun wx (hx : Dx (w.heap.size + 1) wx s3)  => ctext_dx _ wx _ hx)
  obtain ⟨s4, hs4⟩ : ∃ z, z = ctS s3 := ⟨_, rfl⟩
  rw [← hs4] at c4
  obtain ⟨v4, hv4⟩ : ∃ z, z = txA s3 := ⟨_, rfl⟩
  rw [← hv4] at c4
  have c5 := hide (fun wx (hx : Dx (w.heap.size + 1) wx s4)  => ctext_dx _ wx _ hx)
  obtain ⟨s5, hs5⟩ : ∃ z, z = ctS s4 := ⟨_, rfl⟩
  rw [← hs5] at c5
  obtain ⟨v5, hv5⟩ : ∃ z, z = txA s4 := ⟨_, rfl⟩
  rw [← hv5] at c5
  have c6 := hide (fun wx (hx : Dx (w.heap.size + 1) wx s5)  => ctext_dx _ wx _ hx)
  obtain ⟨s6, hs6⟩ : ∃ z, z = ctS s5 := ⟨_, rfl⟩
  rw [← hs6] at c6
  obtain ⟨v6, hv6⟩ : ∃ z, z = txA s5 := ⟨_, rfl⟩
  rw [← hv6] at c6
  have c7 := hide (fun wx (hx : Dx (w.heap.size + 1) wx s6)  => ctext_dx _ wx _ hx)
  obtain ⟨s7, hs7⟩ : ∃ z, z = ctS s6 := ⟨_, rfl⟩
  rw [← hs7] at c7
  obtain ⟨v7, hv7⟩ : ∃ z, z = txA s6 := ⟨_, rfl⟩
  rw [← hv7] at c7
  have c8 := hide (fun wx (hx : Dx (w.heap.size + 1) wx s7)  => byte_dx (w.heap.size + 1) wx s7 hx)
  obtain ⟨s8, hs8⟩ : ∃ z, z = fxS s7 1 := ⟨_, rfl⟩
  rw [← hs8] at c8
  obtain ⟨v8, hv8⟩ : ∃ z, z = fxA s7 1 := ⟨_, rfl⟩
  rw [← hv8] at c8
  have c9 := hide (fun wx (hx : Dx (w.heap.size + 1) wx s8) (y : Bool) (hy : y = !(v8 == 12)) => wrong_dx (w.heap.size + 1) wx s8 (v8 == 12) y hy hx)
  obtain ⟨s9, hs9⟩ : ∃ z, z = waS s8 (v8 == 12) := ⟨_, rfl⟩
  rw [← hs9] at c9
  have c10 := hide (fun wx (hx : Dx (w.heap.size + 1) wx s9)  => fixed_dx (w.heap.size + 1) wx s9 2 2 65536 rfl (by omega) (by omega) (by decide) hx)
  obtain ⟨s10, hs10⟩ : ∃ z, z = fxS s9 2 := ⟨_, rfl⟩
  rw [← hs10] at c10
  obtain ⟨v10, hv10⟩ : ∃ z, z = fxA s9 2 := ⟨_, rfl⟩
  rw [← hv10] at c10
  have c11 := hide (fun wx (hx : Dx (w.heap.size + 1) wx s10)  => fixed_dx (w.heap.size + 1) wx s10 4 4 4294967296 rfl (by omega) (by omega) (by decide) hx)
  obtain ⟨s11, hs11⟩ : ∃ z, z = fxS s10 4 := ⟨_, rfl⟩
  rw [← hs11] at c11
  obtain ⟨v11, hv11⟩ : ∃ z, z = fxA s10 4 := ⟨_, rfl⟩
  rw [← hv11] at c11
  have c12 := hide (fun wx (hx : Dx (w.heap.size + 1) wx s11)  => byte_dx (w.heap.size + 1) wx s11 hx)
  obtain ⟨s12, hs12⟩ : ∃ z, z = fxS s11 1 := ⟨_, rfl⟩
  rw [← hs12] at c12
  obtain ⟨v12, hv12⟩ : ∃ z, z = fxA s11 1 := ⟨_, rfl⟩
  rw [← hv12] at c12
  have c13 := hide (fun wx (hx : Dx (w.heap.size + 1) wx s12) (y : Bool) (hy : y = !(kn v12)) => wrong_dx (w.heap.size + 1) wx s12 (kn v12) y hy hx)
  obtain ⟨s13, hs13⟩ : ∃ z, z = waS s12 (kn v12) := ⟨_, rfl⟩
  rw [← hs13] at c13
  have c14 := hide (fun wx (hx : Dx (w.heap.size + 1) wx s13)  => fixed_dx (w.heap.size + 1) wx s13 2 2 65536 rfl (by omega) (by omega) (by decide) hx)
  obtain ⟨s14, hs14⟩ : ∃ z, z = fxS s13 2 := ⟨_, rfl⟩
  rw [← hs14] at c14
  obtain ⟨v14, hv14⟩ : ∃ z, z = fxA s13 2 := ⟨_, rfl⟩
  rw [← hv14] at c14
  have c15 := hide (fun wx (hx : Dx (w.heap.size + 1) wx s14)  => byte_dx (w.heap.size + 1) wx s14 hx)
  obtain ⟨s15, hs15⟩ : ∃ z, z = fxS s14 1 := ⟨_, rfl⟩
  rw [← hs15] at c15
  obtain ⟨v15, hv15⟩ : ∃ z, z = fxA s14 1 := ⟨_, rfl⟩
  rw [← hv15] at c15
  have c16 := hide (fun wx (hx : Dx (w.heap.size + 1) wx s15)  => zeros_dx (w.heap.size + 1) wx s15 hx)
  obtain ⟨s16, hs16⟩ : ∃ z, z = waS (fxS s15 2) (fxA s15 2 == 0) := ⟨_, rfl⟩
  rw [← hs16] at c16
  have c17 := hide (fun wx (hx : Dx (w.heap.size + 1) wx s16)  => done_dx (w.heap.size + 1) wx s16 hx)
  obtain ⟨s17, hs17⟩ : ∃ z, z = edS s16 := ⟨_, rfl⟩
  rw [← hs17] at c17
  have HRES := hide (show coR b = if s17.e = 0 then ((⟨v3, v4, v5, v6, v7, v10, v11, v12, v14, v15⟩ : Co), 0) else (co0, s17.e) by subst hs1 hv1 hs2 hs3 hv3 hs4 hv4 hs5 hv5 hs6 hv6 hs7 hv7 hs8 hv8 hs9 hs10 hv10 hs11 hv11 hs12 hv12 hs13 hs14 hv14 hs15 hv15 hs16 hs17; rfl)
  clear hs1 hv1 hs2 hs3 hv3 hs4 hv4 hs5 hv5 hs6 hv6 hs7 hv7 hs8 hv8 hs9 hs10 hv10 hs11 hv11 hs12 hv12 hs13 hs14 hv14 hs15 hv15 hs16 hs17
  generalize coR b = RR at *
  go_enter Try.func8, Try.ntmps8
  go_wp2_with fail
  refine (unhide c1 _ (unhide HR0).fx).mono ?_
  rintro e w1 ⟨⟨rfl, tl1⟩, ho⟩
  have HR1 := hide ((unhide HR0).call ho)
  clear ho c1 HR0
  have hd : (v1.toList == [100, 101, 102]) = isDef v1 := rfl
  go_wp2_with fail
  clear hd
  refine (unhide c2 _ (unhide HR1).fx _ ?_).mono ?_
  · first | rfl | (unfold isDef; rfl) | (simp [isDef, bne])
  rintro e w2 ⟨rfl, ho⟩
  have HR2 := hide ((unhide HR1).call ho)
  clear ho c2 HR1
  go_wp2_with fail
  refine (unhide c3 _ (unhide HR2).fx).mono ?_
  rintro e w3 ⟨⟨rfl, tl3⟩, ho⟩
  have HR3 := hide ((unhide HR2).call ho)
  clear ho c3 HR2
  go_wp2_with (with_reducible show wpList Try.prog _ _ (Oper.mk _ (Op.store 28 _ _) _ _ _ none :: _) _ _; refine wpList_stN rfl _ (.tmp 6) (.tmp 19) rfl #[.string v3, .string ⟨#[]⟩, .string ⟨#[]⟩, .string ⟨#[]⟩, .string ⟨#[]⟩, .int .u16 0, .int .u32 0, .int .u8 0, .int .u16 0, .int .u8 0] (by simp [Act.eval, Act.put]) (by simp [Act.eval, Act.put]) (unhide SZ) rfl (by simp [Value.oneCell']) ?_; intro w4 hh hb hz; have HR4 := hide ((unhide HR3).mk' hh hb); clear hh hb hz HR3)
  refine (unhide c4 _ (unhide HR4).u.fx).mono ?_
  rintro e w5 ⟨⟨rfl, tl4⟩, ho⟩
  have HR5 := hide ((unhide HR4).call ho)
  clear ho c4 HR4
  have q6 := (unhide HR5).cell (j := 1) (v := .string ⟨#[]⟩) rfl
  have qf6 := (unhide HR5).free 1
  have HR6 := hide ((unhide HR5).store 1 (.string v4) (cs' := #[.string v3, .string v4, .string ⟨#[]⟩, .string ⟨#[]⟩, .string ⟨#[]⟩, .int .u16 0, .int .u32 0, .int .u8 0, .int .u16 0, .int .u8 0]) rfl)
  have qn6 := (unhide HR6).cell (j := 1) (v := .string v4) rfl
  clear HR5
  go_wp2_with fail
  clear q6 qf6 qn6
  refine (unhide c5 _ (unhide HR6).u.fx).mono ?_
  rintro e w7 ⟨⟨rfl, tl5⟩, ho⟩
  have HR7 := hide ((unhide HR6).call ho)
  clear ho c5 HR6
  have q8 := (unhide HR7).cell (j := 2) (v := .string ⟨#[]⟩) rfl
  have qf8 := (unhide HR7).free 2
  have HR8 := hide ((unhide HR7).store 2 (.string v5) (cs' := #[.string v3, .string v4, .string v5, .string ⟨#[]⟩, .string ⟨#[]⟩, .int .u16 0, .int .u32 0, .int .u8 0, .int .u16 0, .int .u8 0]) rfl)
  have qn8 := (unhide HR8).cell (j := 2) (v := .string v5) rfl
  clear HR7
  go_wp2_with fail
  clear q8 qf8 qn8
  refine (unhide c6 _ (unhide HR8).u.fx).mono ?_
  rintro e w9 ⟨⟨rfl, tl6⟩, ho⟩
  have HR9 := hide ((unhide HR8).call ho)
  clear ho c6 HR8
  have q10 := (unhide HR9).cell (j := 3) (v := .string ⟨#[]⟩) rfl
  have qf10 := (unhide HR9).free 3
  have HR10 := hide ((unhide HR9).store 3 (.string v6) (cs' := #[.string v3, .string v4, .string v5, .string v6, .string ⟨#[]⟩, .int .u16 0, .int .u32 0, .int .u8 0, .int .u16 0, .int .u8 0]) rfl)
  have qn10 := (unhide HR10).cell (j := 3) (v := .string v6) rfl
  clear HR9
  go_wp2_with fail
  clear q10 qf10 qn10
  refine (unhide c7 _ (unhide HR10).u.fx).mono ?_
  rintro e w11 ⟨⟨rfl, tl7⟩, ho⟩
  have HR11 := hide ((unhide HR10).call ho)
  clear ho c7 HR10
  have q12 := (unhide HR11).cell (j := 4) (v := .string ⟨#[]⟩) rfl
  have qf12 := (unhide HR11).free 4
  have HR12 := hide ((unhide HR11).store 4 (.string v7) (cs' := #[.string v3, .string v4, .string v5, .string v6, .string v7, .int .u16 0, .int .u32 0, .int .u8 0, .int .u16 0, .int .u8 0]) rfl)
  have qn12 := (unhide HR12).cell (j := 4) (v := .string v7) rfl
  clear HR11
  go_wp2_with fail
  clear q12 qf12 qn12
  refine (unhide c8 _ (unhide HR12).u.fx).mono ?_
  rintro e w13 ⟨⟨rfl, bl8, bh8⟩, ho⟩
  have HR13 := hide ((unhide HR12).call ho)
  clear ho c8 HR12
  go_wp2_with fail
  refine (unhide c9 _ (unhide HR13).u.fx _ ?_).mono ?_
  · rfl
  rintro e w14 ⟨rfl, ho⟩
  have HR14 := hide ((unhide HR13).call ho)
  clear ho c9 HR13
  go_wp2_with fail
  refine (unhide c10 _ (unhide HR14).u.fx).mono ?_
  rintro e w15 ⟨⟨rfl, bl10, bh10⟩, ho⟩
  have HR15 := hide ((unhide HR14).call ho)
  clear ho c10 HR14
  have q16 := (unhide HR15).cell (j := 5) (v := .int .u16 0) rfl
  have qf16 := (unhide HR15).free 5
  have HR16 := hide ((unhide HR15).store 5 (.int .u16 v10) (cs' := #[.string v3, .string v4, .string v5, .string v6, .string v7, .int .u16 v10, .int .u32 0, .int .u8 0, .int .u16 0, .int .u8 0]) rfl)
  have qn16 := (unhide HR16).cell (j := 5) (v := .int .u16 v10) rfl
  clear HR15
  go_wp2_with fail
  clear q16 qf16 qn16
  refine (unhide c11 _ (unhide HR16).u.fx).mono ?_
  rintro e w17 ⟨⟨rfl, bl11, bh11⟩, ho⟩
  have HR17 := hide ((unhide HR16).call ho)
  clear ho c11 HR16
  have q18 := (unhide HR17).cell (j := 6) (v := .int .u32 0) rfl
  have qf18 := (unhide HR17).free 6
  have HR18 := hide ((unhide HR17).store 6 (.int .u32 v11) (cs' := #[.string v3, .string v4, .string v5, .string v6, .string v7, .int .u16 v10, .int .u32 v11, .int .u8 0, .int .u16 0, .int .u8 0]) rfl)
  have qn18 := (unhide HR18).cell (j := 6) (v := .int .u32 v11) rfl
  clear HR17
  go_wp2_with fail
  clear q18 qf18 qn18
  refine (unhide c12 _ (unhide HR18).u.fx).mono ?_
  rintro e w19 ⟨⟨rfl, bl12, bh12⟩, ho⟩
  have HR19 := hide ((unhide HR18).call ho)
  clear ho c12 HR18
  have q20 := (unhide HR19).cell (j := 7) (v := .int .u8 0) rfl
  have qf20 := (unhide HR19).free 7
  have HR20 := hide ((unhide HR19).store 7 (.int .u8 v12) (cs' := #[.string v3, .string v4, .string v5, .string v6, .string v7, .int .u16 v10, .int .u32 v11, .int .u8 v12, .int .u16 0, .int .u8 0]) rfl)
  have qn20 := (unhide HR20).cell (j := 7) (v := .int .u8 v12) rfl
  clear HR19
  go_wp2_with fail
  clear q20 qf20 qn20
  refine (known_ref v12 _ bl12 bh12).mono ?_
  rintro e w21 ⟨rfl, hb⟩
  have HR21 := hide ((unhide HR20).later hb)
  clear hb HR20
  go_wp2_with fail
  refine (unhide c13 _ (unhide HR21).u.fx _ ?_).mono ?_
  · rfl
  rintro e w22 ⟨rfl, ho⟩
  have HR22 := hide ((unhide HR21).call ho)
  clear ho c13 HR21
  go_wp2_with fail
  refine (unhide c14 _ (unhide HR22).u.fx).mono ?_
  rintro e w23 ⟨⟨rfl, bl14, bh14⟩, ho⟩
  have HR23 := hide ((unhide HR22).call ho)
  clear ho c14 HR22
  have q24 := (unhide HR23).cell (j := 8) (v := .int .u16 0) rfl
  have qf24 := (unhide HR23).free 8
  have HR24 := hide ((unhide HR23).store 8 (.int .u16 v14) (cs' := #[.string v3, .string v4, .string v5, .string v6, .string v7, .int .u16 v10, .int .u32 v11, .int .u8 v12, .int .u16 v14, .int .u8 0]) rfl)
  have qn24 := (unhide HR24).cell (j := 8) (v := .int .u16 v14) rfl
  clear HR23
  go_wp2_with fail
  clear q24 qf24 qn24
  refine (unhide c15 _ (unhide HR24).u.fx).mono ?_
  rintro e w25 ⟨⟨rfl, bl15, bh15⟩, ho⟩
  have HR25 := hide ((unhide HR24).call ho)
  clear ho c15 HR24
  have q26 := (unhide HR25).cell (j := 9) (v := .int .u8 0) rfl
  have qf26 := (unhide HR25).free 9
  have HR26 := hide ((unhide HR25).store 9 (.int .u8 v15) (cs' := #[.string v3, .string v4, .string v5, .string v6, .string v7, .int .u16 v10, .int .u32 v11, .int .u8 v12, .int .u16 v14, .int .u8 v15]) rfl)
  have qn26 := (unhide HR26).cell (j := 9) (v := .int .u8 v15) rfl
  clear HR25
  go_wp2_with fail
  clear q26 qf26 qn26
  refine (unhide c16 _ (unhide HR26).u.fx).mono ?_
  rintro e w27 ⟨rfl, ho⟩
  have HR27 := hide ((unhide HR26).call ho)
  clear ho c16 HR26
  go_wp2_with fail
  refine (unhide c17 _ (unhide HR27).u.fx).mono ?_
  rintro e w28 ⟨rfl, ho⟩
  have HR28 := hide ((unhide HR27).call ho)
  clear ho c17 HR27
  have kE := (unhide HR28).u.fx.c1
  have SY := hide (show (Try.prog.info? 28).map (·.size) = some (#[.string v3, .string v4, .string v5, .string v6, .string v7, .int .u16 v10, .int .u32 v11, .int .u8 v12, .int .u16 v14, .int .u8 v15] : Array Value).size by kernel_rfl)
  by_cases he : s17.e = 0
  · have he' : (s17.e != 0) = false := by simpa using he
    have HR' := hide (show RR = (⟨v3, v4, v5, v6, v7, v10, v11, v12, v14, v15⟩, 0) by rw [unhide HRES, if_pos he])
    clear HRES he
    generalize s17.e = E at *
    go_wp2_with (first | (with_reducible show wpList Try.prog _ _ (Oper.mk _ (Op.load 28 _) _ _ _ none :: _) _ _; refine wpList_load_row rfl _ (.tmp 6) rfl (w3.heap.size) rfl _ #[.string v3, .string v4, .string v5, .string v6, .string v7, .int .u16 v10, .int .u32 v11, .int .u8 v12, .int .u16 v14, .int .u8 v15] (0, 0) _ (unhide HR28).loc Try.underlying28 rfl (unhide SY) ?_) | (with_reducible show wpList Try.prog _ _ (Oper.mk _ (Op.store 28 _ _) _ _ _ none :: _) _ _; refine wpList_stG rfl _ (.tmp 2) (.tmp 72) rfl w.heap.size #[.string v3, .string v4, .string v5, .string v6, .string v7, .int .u16 v10, .int .u32 v11, .int .u8 v12, .int .u16 v14, .int .u8 v15] #[.string ⟨#[]⟩, .string ⟨#[]⟩, .string ⟨#[]⟩, .string ⟨#[]⟩, .string ⟨#[]⟩, .int .u16 0, .int .u32 0, .int .u8 0, .int .u16 0, .int .u8 0] (by simp [Act.eval, Act.put]) (by simp [Act.eval, Act.put]) (unhide HR28).u.res (unhide SY) rfl (by simp [Value.oneCell']) ?_; intro wz hh hg hs))
    refine bodyPost_ret (results_row_tmp rfl _ _ w.heap.size _ rfl (run_loadVar_row _ w.heap.size _ _ _ _ _ hh Try.underlying28 rfl (by kernel_rfl))) rfl ?_
    rw [unhide HR']
    exact ⟨rfl, (unhide HR28).u.bel.trans (hg.below (by have := (unhide HR28).u.lt; omega))⟩
  · have he' : (s17.e != 0) = true := by simpa using he
    have HR' := hide (show RR = (co0, s17.e) by rw [unhide HRES, if_neg he])
    clear HRES he
    generalize s17.e = E at *
    have u0 := (unhide HR28).rcell (j := 0) (v := .string ⟨#[]⟩) rfl
    have uf0 := (unhide HR28).rfree 0
    have u1 := (unhide HR28).rcell (j := 1) (v := .string ⟨#[]⟩) rfl
    have uf1 := (unhide HR28).rfree 1
    have u2 := (unhide HR28).rcell (j := 2) (v := .string ⟨#[]⟩) rfl
    have uf2 := (unhide HR28).rfree 2
    have u3 := (unhide HR28).rcell (j := 3) (v := .string ⟨#[]⟩) rfl
    have uf3 := (unhide HR28).rfree 3
    have u4 := (unhide HR28).rcell (j := 4) (v := .string ⟨#[]⟩) rfl
    have uf4 := (unhide HR28).rfree 4
    have u5 := (unhide HR28).rcell (j := 5) (v := .int .u16 0) rfl
    have uf5 := (unhide HR28).rfree 5
    have u6 := (unhide HR28).rcell (j := 6) (v := .int .u32 0) rfl
    have uf6 := (unhide HR28).rfree 6
    have u7 := (unhide HR28).rcell (j := 7) (v := .int .u8 0) rfl
    have uf7 := (unhide HR28).rfree 7
    have u8 := (unhide HR28).rcell (j := 8) (v := .int .u16 0) rfl
    have uf8 := (unhide HR28).rfree 8
    have u9 := (unhide HR28).rcell (j := 9) (v := .int .u8 0) rfl
    have uf9 := (unhide HR28).rfree 9
    go_wp2_with fail
    go_region
    go_wp2_with fail
    refine bodyPost_ret (results_row_tmp rfl _ _ w.heap.size _ rfl (run_loadVar_row _ w.heap.size _ _ _ _ _ (row_sets (unhide HR28).u.res) Try.underlying28 rfl (by kernel_rfl))) rfl ?_
    rw [unhide HR']
    exact ⟨rfl, below_sets (unhide HR28).u.bel (Nat.le_refl _)⟩

set_option maxHeartbeats 4000000 in
set_option maxRecDepth 100000 in
theorem readCount_ref (bo : Option Addr) (bn bc : Nat) (b : List Int) (w : World) (hb : Bs w bo bn bc b) :
    Calls Try.prog 10 #[.slice bo bn bc] w fun e w' => e = .returned (.tuple #[.int .i64 (ctR b).1, .int .i64 (ctR b).2]) ∧ w' = w := by
  have hbl := hb.len
  have cR := hide (readInt_ref bo bn bc b w hb)
  have bd := readInt_bd hb.byt
  have hR := hide (show ctR b = if (readInt b).2.2 ≠ 0 then (0, (readInt b).2.2) else if nOk (readInt b).1 = true ∧ (readInt b).2.1 = ((form (readInt b).1).length : Int) ∧ (readInt b).2.1 = (b.length : Int) then ((readInt b).1, 0) else (0, 5) from rfl)
  rw [hbl] at hR bd
  generalize ctR b = RR at *
  generalize (readInt b).1 = X at *
  generalize (readInt b).2.1 = Q at *
  generalize (readInt b).2.2 = E at *
  have hle := hb.le
  have hmx := hb.max
  clear hb hbl
  by_cases he : E = 0
  · subst he
    have cS := hide (fun wx => size_ref X wx bd.2.2.1)
    rw [if_neg (by decide)] at hR
    by_cases h1 : X < 1
    · rw [if_neg (fun z => by have := of_decide_eq_true z.1; omega)] at hR
      rw [unhide hR]
      clear bd hR cS
      go_enter Try.func10, Try.ntmps10
      go_wp2_with fail
      refine same_world (unhide cR) ?_
      clear cR
      go_wp2_with fail
      go_ret2
      exact ⟨rfl, rfl⟩
    by_cases h2 : 4096 < X
    · rw [if_neg (fun z => by have := of_decide_eq_true z.1; omega)] at hR
      rw [unhide hR]
      clear bd hR cS
      go_enter Try.func10, Try.ntmps10
      go_wp2_with fail
      refine same_world (unhide cR) ?_
      clear cR
      go_wp2_with fail
      go_ret2
      exact ⟨rfl, rfl⟩
    generalize ((form X).length : Int) = Z at *
    by_cases h3 : Q = Z
    · subst h3
      have h3 : (Q != Q) = false := by simp
      by_cases h4 : Q = (bn : Int)
      · rw [if_pos ⟨decide_eq_true ⟨by omega, by omega⟩, rfl, h4⟩] at hR
        rw [unhide hR]
        have h4' : (Q != (bn : Int)) = false := by simpa using h4
        have HH := hide h4
        clear hR h4 bd
        go_enter Try.func10, Try.ntmps10
        go_wp2_with fail
        refine same_world (unhide cR) ?_
        clear cR
        go_wp2_with (go_at_call 35; refine same_world (unhide cS _) ?_)
        go_ret2
        exact ⟨rfl, rfl⟩
      · rw [if_neg (fun z => h4 z.2.2)] at hR
        rw [unhide hR]
        have h4' : (Q != (bn : Int)) = true := by simpa using h4
        clear hR h4 bd
        go_enter Try.func10, Try.ntmps10
        go_wp2_with fail
        refine same_world (unhide cR) ?_
        clear cR
        go_wp2_with (go_at_call 35; refine same_world (unhide cS _) ?_)
        go_ret2
        exact ⟨rfl, rfl⟩
    · rw [if_neg (fun z => h3 z.2.1)] at hR
      rw [unhide hR]
      have h3' : (Q != Z) = true := by simpa using h3
      clear hR h3 bd
      go_enter Try.func10, Try.ntmps10
      go_wp2_with fail
      refine same_world (unhide cR) ?_
      clear cR
      go_wp2_with (go_at_call 35; refine same_world (unhide cS _) ?_)
      go_ret2
      exact ⟨rfl, rfl⟩
  · rw [if_pos he] at hR
    rw [unhide hR]
    have he' : (E != 0) = true := by simpa using he
    clear hR he bd
    go_enter Try.func10, Try.ntmps10
    go_wp2_with fail
    refine same_world (unhide cR) ?_
    clear cR
    go_wp2_with fail
    go_ret2
    exact ⟨rfl, rfl⟩

end Go.Proofs.Ytgdjeooiimjjcaa
