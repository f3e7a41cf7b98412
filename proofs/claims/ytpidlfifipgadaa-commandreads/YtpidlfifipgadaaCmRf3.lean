/-
  The document's own answer for commands: Read. Conditions: the slice can be read; at most 2 to the 40 bytes.
-/
import Derived.Test.YtpidlfifipgadaaCmRf2
import Derived.BigRegion
namespace Go.Proofs.Ytpidlfifipgadaa
open Go.RowKit
set_option linter.unusedVariables false
set_option linter.unusedSimpArgs false

set_option maxHeartbeats 8000000 in
set_option maxRecDepth 100000 in
theorem read_ref (bo : Option Addr) (bn bc : Nat) (b : List Int) (w : World) (h : Bs w bo bn bc b) (hn : bn ≤ 1099511627776) :
    Calls Try.prog 10 #[.slice bo bn bc] w fun e w' => OutR w (rdP b) e w' := by
  have b1 := below_alloc w (.cells #[.int .u8 0, .string ⟨#[]⟩, .int .u32 0, .int .u16 0, .int .u8 0, .int .u32 0, .int .u16 0, .slice none 0 0] 28)
  have hA := heap_alloc_new w (.cells #[.int .u8 0, .string ⟨#[]⟩, .int .u32 0, .int .u16 0, .int .u8 0, .int .u32 0, .int .u16 0, .slice none 0 0] 28)
  have e1 : (w.alloc (.cells #[.int .u8 0, .string ⟨#[]⟩, .int .u32 0, .int .u16 0, .int .u8 0, .int .u32 0, .int .u16 0, .slice none 0 0] 28)).heap.size = w.heap.size + 1 := by simp
  have f1 := Gl.new (h.later b1)
  rw [e1] at f1
  have b2 := below_alloc (w.alloc (.cells #[.int .u8 0, .string ⟨#[]⟩, .int .u32 0, .int .u16 0, .int .u8 0, .int .u32 0, .int .u16 0, .slice none 0 0] 28)) (.cells #[.slice bo bn bc, .int .i64 0] 85)
  rw [e1] at b2
  have HA2 := hide ((b2.block w.heap.size (by omega)).trans hA)
  have B2 := hide (b1.trans (b2.mono (by omega)))
  have z2 : ((w.alloc (.cells #[.int .u8 0, .string ⟨#[]⟩, .int .u32 0, .int .u16 0, .int .u8 0, .int .u32 0, .int .u16 0, .slice none 0 0] 28)).alloc (.cells #[.slice bo bn bc, .int .i64 0] 85)).heap.size = w.heap.size + 2 := by simp
  have hbl := h.len
  have cc := hide (byte_g (w.heap.size + 1) _ ⟨b, 0⟩ ⟨⟨_, _, _, f1⟩, by simp only; omega⟩)
  have hle1 := fxS_le ⟨b, 0⟩ 1
  have HQ0 := hide (show rdQ b = (fl (fxA ⟨b, 0⟩ 1)).foldl tkP (fxS ⟨b, 0⟩ 1, cm0 (fxA ⟨b, 0⟩ 1)) from rfl)
  generalize fxS ⟨b, 0⟩ 1 = s1 at *
  generalize fxA ⟨b, 0⟩ 1 = V at *
  simp only at hle1
  have cS := hide (fun wx => shape_ref V wx)
  clear h f1 b1 hA b2 e1
  go_enter Try.func10, Try.ntmps10
  go_wp2_with fail
  refine (unhide cc).mono ?_
  rintro e w3 ⟨⟨rfl, v0, v1⟩, ho3, hg3⟩
  have z3 := hg3.size
  rw [z2] at z3
  have b4 := below_alloc w3 (.cells #[.int .u8 V, .string ⟨#[]⟩, .int .u32 0, .int .u16 0, .int .u8 0, .int .u32 0, .int .u16 0, .slice none 0 0] 28)
  have hg4 := hg3.trans (Gb.of b4)
  have HR4 := hide (show Rr w w3.heap.size (w3.alloc (.cells #[.int .u8 V, .string ⟨#[]⟩, .int .u32 0, .int .u16 0, .int .u8 0, .int .u32 0, .int .u16 0, .slice none 0 0] 28)) s1 (cm0 V) from ⟨⟨⟨_, _, _, ho3.choose_spec.choose_spec.choose_spec.later b4⟩, by omega⟩, ⟨none, 0, 0, heap_alloc_new w3 _, Bs.nought _, fun k hk => absurd hk ob_none⟩, (hg4.block _ (by omega) (by omega)).trans (unhide HA2), (unhide B2).trans ((hg4.below (by omega)).mono (by omega)), by omega⟩)
  clear ho3 hg3 cc b4 hg4 HA2 B2
  have hw := shp_fl V
  generalize shp V = S at *
  rcases hw with ⟨rfl, hfl⟩ | ⟨rfl, hfl⟩ | ⟨rfl, hfl⟩ | ⟨rfl, hfl⟩ | ⟨rfl, hfl⟩ | ⟨rfl, hfl⟩ | ⟨rfl, hfl⟩ | ⟨rfl, hfl⟩ | ⟨rfl, hfl⟩
  · have HQ := hide (show rdQ b = (s1, (cm0 V : Cm)) by rw [unhide HQ0, hfl]; rfl)
    clear hfl HQ0
    have HRn := hide (unhide HR4)
    clear HR4
    have cD := hide (done_g (w.heap.size + 1) _ s1 (unhide HRn).gx)
    obtain ⟨s9, hs9⟩ : ∃ z, z = edS s1 := ⟨_, rfl⟩
    rw [← hs9] at cD
    have HRES := hide (show rdP b = if s9.e = 0 then (cm0 V, 0) else (cm0 0, s9.e) by unfold rdP; rw [unhide HQ, hs9])
    have hle9 : s9.b.length ≤ s1.b.length := by rw [hs9]; exact waS_le _ _
    clear hs9 HQ
    go_wp2_with (go_at_call 40; refine same_world (unhide cS _) ?_)
    refine (unhide cD).mono ?_
    rintro e w9 ⟨rfl, ho⟩
    have HR9 := hide ((unhide HRn).call ho hle9)
    clear ho cD HRn hle9
    have k1 := (unhide HR9).gx.c1
    by_cases he : s9.e = 0
    · have he' : (s9.e != 0) = false := by simpa using he
      rw [if_pos he] at HRES
      clear he
      generalize s9.e = E at *
      obtain ⟨xo, xn, xc, hst, hbs, hob⟩ := (unhide HR9).cx
      have HS7 := hide hst
      have HBS := hide hbs
      have HOB := hide hob
      have hlt9 := (unhide HR9).lt
      have HA9 := hide (unhide HR9).res
      have HB9 := hide (unhide HR9).bel
      clear hst hbs hob HR9
      go_wp2_with (first
        | (with_reducible show wpList Try.prog _ _ (Oper.mk _ (Op.load 28 _) _ _ _ none :: _) _ _; refine wpList_loadC rfl (.tmp 5) rfl w3.heap.size (Cm.cd (cm0 V) xo xn xc) (by simp [Act.eval, Act.put]) (unhide HS7) ?_)
        | (with_reducible show wpList Try.prog _ _ (Oper.mk _ (Op.store 28 _ _) _ _ _ none :: _) _ _; refine wpList_storeC rfl (.tmp 2) (.tmp 92) rfl w.heap.size (Cm.cd (cm0 V) xo xn xc) ((cm0 0).cd none 0 0) (by simp [Act.eval, Act.put]) (by simp [Act.eval, Act.put]) (unhide HA9) ?_; intro w10 h10 g10 z10; have H10 := hide h10; have G10 := hide g10; clear h10 g10))
      refine bodyPost_ret (results_row_tmp rfl _ _ w.heap.size _ rfl (run_loadVar_row _ w.heap.size _ _ _ _ _ (unhide H10) Try.underlying28 rfl (by kernel_rfl))) rfl ?_
      rw [unhide HRES]
      exact ⟨xo, xn, xc, rfl, (unhide HBS).keepB fun k hk hl => (unhide G10).block k hl (by have := unhide HOB k hk; omega), fun k hk => by have := unhide HOB k hk; omega, (unhide HB9).trans ((unhide G10).below (by have := (unhide HB9).size; omega))⟩
    · have he' : (s9.e != 0) = true := by simpa using he
      rw [if_neg he] at HRES
      clear he
      generalize s9.e = E at *
      have HA7 := hide (unhide HR9).res
      have HB7 := hide (unhide HR9).bel
      have u0 : w9.cell? ⟨w.heap.size, 0, none⟩ = some (.int .u8 0) := by rw [cell_of_row _ _ 0 _ _ _ (unhide HA7)]; rfl
      have u1 : w9.cell? ⟨w.heap.size, 1, none⟩ = some (.string ⟨#[]⟩) := by rw [cell_of_row _ _ 1 _ _ _ (unhide HA7)]; rfl
      have u2 : w9.cell? ⟨w.heap.size, 2, none⟩ = some (.int .u32 0) := by rw [cell_of_row _ _ 2 _ _ _ (unhide HA7)]; rfl
      have u3 : w9.cell? ⟨w.heap.size, 3, none⟩ = some (.int .u16 0) := by rw [cell_of_row _ _ 3 _ _ _ (unhide HA7)]; rfl
      have u4 : w9.cell? ⟨w.heap.size, 4, none⟩ = some (.int .u8 0) := by rw [cell_of_row _ _ 4 _ _ _ (unhide HA7)]; rfl
      have u5 : w9.cell? ⟨w.heap.size, 5, none⟩ = some (.int .u32 0) := by rw [cell_of_row _ _ 5 _ _ _ (unhide HA7)]; rfl
      have u6 : w9.cell? ⟨w.heap.size, 6, none⟩ = some (.int .u16 0) := by rw [cell_of_row _ _ 6 _ _ _ (unhide HA7)]; rfl
      have u7 : w9.cell? ⟨w.heap.size, 7, none⟩ = some (.slice none 0 0) := by rw [cell_of_row _ _ 7 _ _ _ (unhide HA7)]; rfl
      have uf : ∀ i, w9.frozen? ⟨w.heap.size, i, none⟩ = false := fun i => frozen_of_row w9 w.heap.size i _ _ (unhide HA7)
      have uf0 := uf 0
      have uf1 := uf 1
      have uf2 := uf 2
      have uf3 := uf 3
      have uf4 := uf 4
      have uf5 := uf 5
      have uf6 := uf 6
      have uf7 := uf 7
      clear uf
      go_wp2_with fail
      go_region
      go_wp2_with fail
      refine bodyPost_ret (results_row_tmp rfl _ _ w.heap.size _ rfl (run_loadVar_row _ w.heap.size _ _ _ _ _ (show _ = some (Obj.cells #[.int .u8 0, .string ⟨#[]⟩, .int .u32 0, .int .u16 0, .int .u8 0, .int .u32 0, .int .u16 0, .slice none 0 0] 28 (0, 0)) from (drew_row (heap_setCell_same _ w.heap.size 7 _ _ _ (heap_setCell_same _ w.heap.size 6 _ _ _ (heap_setCell_same _ w.heap.size 5 _ _ _ (heap_setCell_same _ w.heap.size 4 _ _ _ (heap_setCell_same _ w.heap.size 3 _ _ _ (heap_setCell_same _ w.heap.size 2 _ _ _ (heap_setCell_same _ w.heap.size 1 _ _ _ (heap_setCell_same _ w.heap.size 0 _ _ _ (unhide HA7))))))))))) Try.underlying28 rfl (by kernel_rfl))) rfl ?_
      rw [unhide HRES]
      exact ⟨none, 0, 0, rfl, Bs.nought _, fun k hk => absurd hk ob_none, (((((((((unhide HB7).setCell (Nat.le_refl _) _).setCell (Nat.le_refl _) _).setCell (Nat.le_refl _) _).setCell (Nat.le_refl _) _).setCell (Nat.le_refl _) _).setCell (Nat.le_refl _) _).setCell (Nat.le_refl _) _).setCell (Nat.le_refl _) _).drew⟩
  · obtain ⟨q1, hq1⟩ : ∃ z, z = reS s1 := ⟨_, rfl⟩
    obtain ⟨v1, hv1⟩ : ∃ z, z = reA s1 := ⟨_, rfl⟩
    have le1 : q1.b.length ≤ s1.b.length := by rw [hq1]; exact reS_le _
    have HQ := hide (show rdQ b = (q1, ({ cm0 V with t := strOfNums v1 } : Cm)) by rw [unhide HQ0, hfl]; subst hq1 hv1; rfl)
    have c1 := hide (fun wx (hx : Gx (w.heap.size + 1) wx s1) => rest_g (w.heap.size + 1) wx s1 hx)
    rw [← hq1, ← hv1] at c1
    clear hq1 hv1
    clear hfl HQ0
    have HRn := hide (unhide HR4)
    clear HR4
    go_wp2_with (go_at_call 40; refine same_world (unhide cS _) ?_)
    refine (unhide c1 _ (unhide HRn).gx).mono ?_
    rintro e x5 ⟨yo, yn, yc, rfl, hm, ho⟩
    have hstr := hm.bs.str
    have HRo := hide ((unhide HRn).call ho le1)
    clear ho hm c1 HRn
    have HRn := hide (unhide HRo)
    clear HRo
    obtain ⟨kv, kc⟩ := (unhide HRn).cell 1 (by omega)
    have kf := (unhide HRn).free 1
    have HRm := hide (show Rr w w3.heap.size (x5.setCell ⟨w3.heap.size, 1, none⟩ (.string (strOfNums v1))) q1 ({ cm0 V with t := strOfNums v1 } : Cm) from (unhide HRn).num 1 _ rfl (fun _ _ _ => rfl))
    clear HRn
    go_wp2_with fail
    clear kc kf
    have HRn := hide (unhide HRm)
    clear HRm
    have cD := hide (done_g (w.heap.size + 1) _ q1 (unhide HRn).gx)
    obtain ⟨s9, hs9⟩ : ∃ z, z = edS q1 := ⟨_, rfl⟩
    rw [← hs9] at cD
    have HRES := hide (show rdP b = if s9.e = 0 then ({ cm0 V with t := strOfNums v1 }, 0) else (cm0 0, s9.e) by unfold rdP; rw [unhide HQ, hs9])
    have hle9 : s9.b.length ≤ q1.b.length := by rw [hs9]; exact waS_le _ _
    clear hs9 HQ
    refine (unhide cD).mono ?_
    rintro e w9 ⟨rfl, ho⟩
    have HR9 := hide ((unhide HRn).call ho hle9)
    clear ho cD HRn hle9
    have k1 := (unhide HR9).gx.c1
    by_cases he : s9.e = 0
    · have he' : (s9.e != 0) = false := by simpa using he
      rw [if_pos he] at HRES
      clear he
      generalize s9.e = E at *
      obtain ⟨xo, xn, xc, hst, hbs, hob⟩ := (unhide HR9).cx
      have HS7 := hide hst
      have HBS := hide hbs
      have HOB := hide hob
      have hlt9 := (unhide HR9).lt
      have HA9 := hide (unhide HR9).res
      have HB9 := hide (unhide HR9).bel
      clear hst hbs hob HR9
      go_wp2_with (first
        | (with_reducible show wpList Try.prog _ _ (Oper.mk _ (Op.load 28 _) _ _ _ none :: _) _ _; refine wpList_loadC rfl (.tmp 5) rfl w3.heap.size (Cm.cd ({ cm0 V with t := strOfNums v1 }) xo xn xc) (by simp [Act.eval, Act.put]) (unhide HS7) ?_)
        | (with_reducible show wpList Try.prog _ _ (Oper.mk _ (Op.store 28 _ _) _ _ _ none :: _) _ _; refine wpList_storeC rfl (.tmp 2) (.tmp 92) rfl w.heap.size (Cm.cd ({ cm0 V with t := strOfNums v1 }) xo xn xc) ((cm0 0).cd none 0 0) (by simp [Act.eval, Act.put]) (by simp [Act.eval, Act.put]) (unhide HA9) ?_; intro w10 h10 g10 z10; have H10 := hide h10; have G10 := hide g10; clear h10 g10))
      refine bodyPost_ret (results_row_tmp rfl _ _ w.heap.size _ rfl (run_loadVar_row _ w.heap.size _ _ _ _ _ (unhide H10) Try.underlying28 rfl (by kernel_rfl))) rfl ?_
      rw [unhide HRES]
      exact ⟨xo, xn, xc, rfl, (unhide HBS).keepB fun k hk hl => (unhide G10).block k hl (by have := unhide HOB k hk; omega), fun k hk => by have := unhide HOB k hk; omega, (unhide HB9).trans ((unhide G10).below (by have := (unhide HB9).size; omega))⟩
    · have he' : (s9.e != 0) = true := by simpa using he
      rw [if_neg he] at HRES
      clear he
      generalize s9.e = E at *
      have HA7 := hide (unhide HR9).res
      have HB7 := hide (unhide HR9).bel
      have u0 : w9.cell? ⟨w.heap.size, 0, none⟩ = some (.int .u8 0) := by rw [cell_of_row _ _ 0 _ _ _ (unhide HA7)]; rfl
      have u1 : w9.cell? ⟨w.heap.size, 1, none⟩ = some (.string ⟨#[]⟩) := by rw [cell_of_row _ _ 1 _ _ _ (unhide HA7)]; rfl
      have u2 : w9.cell? ⟨w.heap.size, 2, none⟩ = some (.int .u32 0) := by rw [cell_of_row _ _ 2 _ _ _ (unhide HA7)]; rfl
      have u3 : w9.cell? ⟨w.heap.size, 3, none⟩ = some (.int .u16 0) := by rw [cell_of_row _ _ 3 _ _ _ (unhide HA7)]; rfl
      have u4 : w9.cell? ⟨w.heap.size, 4, none⟩ = some (.int .u8 0) := by rw [cell_of_row _ _ 4 _ _ _ (unhide HA7)]; rfl
      have u5 : w9.cell? ⟨w.heap.size, 5, none⟩ = some (.int .u32 0) := by rw [cell_of_row _ _ 5 _ _ _ (unhide HA7)]; rfl
      have u6 : w9.cell? ⟨w.heap.size, 6, none⟩ = some (.int .u16 0) := by rw [cell_of_row _ _ 6 _ _ _ (unhide HA7)]; rfl
      have u7 : w9.cell? ⟨w.heap.size, 7, none⟩ = some (.slice none 0 0) := by rw [cell_of_row _ _ 7 _ _ _ (unhide HA7)]; rfl
      have uf : ∀ i, w9.frozen? ⟨w.heap.size, i, none⟩ = false := fun i => frozen_of_row w9 w.heap.size i _ _ (unhide HA7)
      have uf0 := uf 0
      have uf1 := uf 1
      have uf2 := uf 2
      have uf3 := uf 3
      have uf4 := uf 4
      have uf5 := uf 5
      have uf6 := uf 6
      have uf7 := uf 7
      clear uf
      go_wp2_with fail
      go_region
      go_wp2_with fail
      refine bodyPost_ret (results_row_tmp rfl _ _ w.heap.size _ rfl (run_loadVar_row _ w.heap.size _ _ _ _ _ (show _ = some (Obj.cells #[.int .u8 0, .string ⟨#[]⟩, .int .u32 0, .int .u16 0, .int .u8 0, .int .u32 0, .int .u16 0, .slice none 0 0] 28 (0, 0)) from (drew_row (heap_setCell_same _ w.heap.size 7 _ _ _ (heap_setCell_same _ w.heap.size 6 _ _ _ (heap_setCell_same _ w.heap.size 5 _ _ _ (heap_setCell_same _ w.heap.size 4 _ _ _ (heap_setCell_same _ w.heap.size 3 _ _ _ (heap_setCell_same _ w.heap.size 2 _ _ _ (heap_setCell_same _ w.heap.size 1 _ _ _ (heap_setCell_same _ w.heap.size 0 _ _ _ (unhide HA7))))))))))) Try.underlying28 rfl (by kernel_rfl))) rfl ?_
      rw [unhide HRES]
      exact ⟨none, 0, 0, rfl, Bs.nought _, fun k hk => absurd hk ob_none, (((((((((unhide HB7).setCell (Nat.le_refl _) _).setCell (Nat.le_refl _) _).setCell (Nat.le_refl _) _).setCell (Nat.le_refl _) _).setCell (Nat.le_refl _) _).setCell (Nat.le_refl _) _).setCell (Nat.le_refl _) _).setCell (Nat.le_refl _) _).drew⟩
  · obtain ⟨q1, hq1⟩ : ∃ z, z = fxS s1 4 := ⟨_, rfl⟩
    obtain ⟨v1, hv1⟩ : ∃ z, z = fxA s1 4 := ⟨_, rfl⟩
    have le1 : q1.b.length ≤ s1.b.length := by rw [hq1]; exact fxS_le _ _
    have HQ := hide (show rdQ b = (q1, ({ cm0 V with n := v1 } : Cm)) by rw [unhide HQ0, hfl]; subst hq1 hv1; rfl)
    have c1 := hide (fun wx (hx : Gx (w.heap.size + 1) wx s1) => fixed_g (w.heap.size + 1) wx s1 4 4 4294967296 rfl (by omega) (by omega) (by decide) hx)
    rw [← hq1, ← hv1] at c1
    clear hq1 hv1
    clear hfl HQ0
    have HRn := hide (unhide HR4)
    clear HR4
    go_wp2_with (go_at_call 40; refine same_world (unhide cS _) ?_)
    refine (unhide c1 _ (unhide HRn).gx).mono ?_
    rintro e x5 ⟨⟨rfl, b01, b11⟩, ho⟩
    have HRo := hide ((unhide HRn).call ho le1)
    clear ho c1 HRn
    have HRn := hide (unhide HRo)
    clear HRo
    obtain ⟨kv, kc⟩ := (unhide HRn).cell 5 (by omega)
    have kf := (unhide HRn).free 5
    have HRm := hide (show Rr w w3.heap.size (x5.setCell ⟨w3.heap.size, 5, none⟩ (.int .u32 v1)) q1 ({ cm0 V with n := v1 } : Cm) from (unhide HRn).num 5 _ rfl (fun _ _ _ => rfl))
    clear HRn
    go_wp2_with fail
    clear kc kf
    have HRn := hide (unhide HRm)
    clear HRm
    have cD := hide (done_g (w.heap.size + 1) _ q1 (unhide HRn).gx)
    obtain ⟨s9, hs9⟩ : ∃ z, z = edS q1 := ⟨_, rfl⟩
    rw [← hs9] at cD
    have HRES := hide (show rdP b = if s9.e = 0 then ({ cm0 V with n := v1 }, 0) else (cm0 0, s9.e) by unfold rdP; rw [unhide HQ, hs9])
    have hle9 : s9.b.length ≤ q1.b.length := by rw [hs9]; exact waS_le _ _
    clear hs9 HQ
    refine (unhide cD).mono ?_
    rintro e w9 ⟨rfl, ho⟩
    have HR9 := hide ((unhide HRn).call ho hle9)
    clear ho cD HRn hle9
    have k1 := (unhide HR9).gx.c1
    by_cases he : s9.e = 0
    · have he' : (s9.e != 0) = false := by simpa using he
      rw [if_pos he] at HRES
      clear he
      generalize s9.e = E at *
      obtain ⟨xo, xn, xc, hst, hbs, hob⟩ := (unhide HR9).cx
      have HS7 := hide hst
      have HBS := hide hbs
      have HOB := hide hob
      have hlt9 := (unhide HR9).lt
      have HA9 := hide (unhide HR9).res
      have HB9 := hide (unhide HR9).bel
      clear hst hbs hob HR9
      go_wp2_with (first
        | (with_reducible show wpList Try.prog _ _ (Oper.mk _ (Op.load 28 _) _ _ _ none :: _) _ _; refine wpList_loadC rfl (.tmp 5) rfl w3.heap.size (Cm.cd ({ cm0 V with n := v1 }) xo xn xc) (by simp [Act.eval, Act.put]) (unhide HS7) ?_)
        | (with_reducible show wpList Try.prog _ _ (Oper.mk _ (Op.store 28 _ _) _ _ _ none :: _) _ _; refine wpList_storeC rfl (.tmp 2) (.tmp 92) rfl w.heap.size (Cm.cd ({ cm0 V with n := v1 }) xo xn xc) ((cm0 0).cd none 0 0) (by simp [Act.eval, Act.put]) (by simp [Act.eval, Act.put]) (unhide HA9) ?_; intro w10 h10 g10 z10; have H10 := hide h10; have G10 := hide g10; clear h10 g10))
      refine bodyPost_ret (results_row_tmp rfl _ _ w.heap.size _ rfl (run_loadVar_row _ w.heap.size _ _ _ _ _ (unhide H10) Try.underlying28 rfl (by kernel_rfl))) rfl ?_
      rw [unhide HRES]
      exact ⟨xo, xn, xc, rfl, (unhide HBS).keepB fun k hk hl => (unhide G10).block k hl (by have := unhide HOB k hk; omega), fun k hk => by have := unhide HOB k hk; omega, (unhide HB9).trans ((unhide G10).below (by have := (unhide HB9).size; omega))⟩
    · have he' : (s9.e != 0) = true := by simpa using he
      rw [if_neg he] at HRES
      clear he
      generalize s9.e = E at *
      have HA7 := hide (unhide HR9).res
      have HB7 := hide (unhide HR9).bel
      have u0 : w9.cell? ⟨w.heap.size, 0, none⟩ = some (.int .u8 0) := by rw [cell_of_row _ _ 0 _ _ _ (unhide HA7)]; rfl
      have u1 : w9.cell? ⟨w.heap.size, 1, none⟩ = some (.string ⟨#[]⟩) := by rw [cell_of_row _ _ 1 _ _ _ (unhide HA7)]; rfl
      have u2 : w9.cell? ⟨w.heap.size, 2, none⟩ = some (.int .u32 0) := by rw [cell_of_row _ _ 2 _ _ _ (unhide HA7)]; rfl
      have u3 : w9.cell? ⟨w.heap.size, 3, none⟩ = some (.int .u16 0) := by rw [cell_of_row _ _ 3 _ _ _ (unhide HA7)]; rfl
      have u4 : w9.cell? ⟨w.heap.size, 4, none⟩ = some (.int .u8 0) := by rw [cell_of_row _ _ 4 _ _ _ (unhide HA7)]; rfl
      have u5 : w9.cell? ⟨w.heap.size, 5, none⟩ = some (.int .u32 0) := by rw [cell_of_row _ _ 5 _ _ _ (unhide HA7)]; rfl
      have u6 : w9.cell? ⟨w.heap.size, 6, none⟩ = some (.int .u16 0) := by rw [cell_of_row _ _ 6 _ _ _ (unhide HA7)]; rfl
      have u7 : w9.cell? ⟨w.heap.size, 7, none⟩ = some (.slice none 0 0) := by rw [cell_of_row _ _ 7 _ _ _ (unhide HA7)]; rfl
      have uf : ∀ i, w9.frozen? ⟨w.heap.size, i, none⟩ = false := fun i => frozen_of_row w9 w.heap.size i _ _ (unhide HA7)
      have uf0 := uf 0
      have uf1 := uf 1
      have uf2 := uf 2
      have uf3 := uf 3
      have uf4 := uf 4
      have uf5 := uf 5
      have uf6 := uf 6
      have uf7 := uf 7
      clear uf
      go_wp2_with fail
      go_region
      go_wp2_with fail
      refine bodyPost_ret (results_row_tmp rfl _ _ w.heap.size _ rfl (run_loadVar_row _ w.heap.size _ _ _ _ _ (show _ = some (Obj.cells #[.int .u8 0, .string ⟨#[]⟩, .int .u32 0, .int .u16 0, .int .u8 0, .int .u32 0, .int .u16 0, .slice none 0 0] 28 (0, 0)) from (drew_row (heap_setCell_same _ w.heap.size 7 _ _ _ (heap_setCell_same _ w.heap.size 6 _ _ _ (heap_setCell_same _ w.heap.size 5 _ _ _ (heap_setCell_same _ w.heap.size 4 _ _ _ (heap_setCell_same _ w.heap.size 3 _ _ _ (heap_setCell_same _ w.heap.size 2 _ _ _ (heap_setCell_same _ w.heap.size 1 _ _ _ (heap_setCell_same _ w.heap.size 0 _ _ _ (unhide HA7))))))))))) Try.underlying28 rfl (by kernel_rfl))) rfl ?_
      rw [unhide HRES]
      exact ⟨none, 0, 0, rfl, Bs.nought _, fun k hk => absurd hk ob_none, (((((((((unhide HB7).setCell (Nat.le_refl _) _).setCell (Nat.le_refl _) _).setCell (Nat.le_refl _) _).setCell (Nat.le_refl _) _).setCell (Nat.le_refl _) _).setCell (Nat.le_refl _) _).setCell (Nat.le_refl _) _).setCell (Nat.le_refl _) _).drew⟩
  · obtain ⟨q1, hq1⟩ : ∃ z, z = fxS s1 4 := ⟨_, rfl⟩
    obtain ⟨v1, hv1⟩ : ∃ z, z = fxA s1 4 := ⟨_, rfl⟩
    have le1 : q1.b.length ≤ s1.b.length := by rw [hq1]; exact fxS_le _ _
    obtain ⟨p2, hp2⟩ : ∃ z, z = fxS q1 1 := ⟨_, rfl⟩
    obtain ⟨v2, hv2⟩ : ∃ z, z = fxA q1 1 := ⟨_, rfl⟩
    obtain ⟨q2, hq2⟩ : ∃ z, z = waS p2 (!decide (v2 > 1)) := ⟨_, rfl⟩
    have lp2 : p2.b.length ≤ q1.b.length := by rw [hp2]; exact fxS_le _ _
    have le2 : q2.b.length ≤ p2.b.length := by rw [hq2]; exact waS_le _ _
    obtain ⟨p3, hp3⟩ : ∃ z, z = fxS q2 4 := ⟨_, rfl⟩
    obtain ⟨v3, hv3⟩ : ∃ z, z = fxA q2 4 := ⟨_, rfl⟩
    obtain ⟨q3, hq3⟩ : ∃ z, z = waS p3 (!(v3 != 1)) := ⟨_, rfl⟩
    have lp3 : p3.b.length ≤ q2.b.length := by rw [hp3]; exact fxS_le _ _
    have le3 : q3.b.length ≤ p3.b.length := by rw [hq3]; exact waS_le _ _
    obtain ⟨q4, hq4⟩ : ∃ z, z = reS q3 := ⟨_, rfl⟩
    obtain ⟨v4, hv4⟩ : ∃ z, z = reA q3 := ⟨_, rfl⟩
    have le4 : q4.b.length ≤ q3.b.length := by rw [hq4]; exact reS_le _
    have HQ := hide (show rdQ b = (q4, ({ cm0 V with s := v1, f := v2, d := v4 } : Cm)) by rw [unhide HQ0, hfl]; subst hq1 hv1 hp2 hv2 hq2 hp3 hv3 hq3 hq4 hv4; simp only [flag_bool, once_bool]; rfl)
    have c1 := hide (fun wx (hx : Gx (w.heap.size + 1) wx s1) => fixed_g (w.heap.size + 1) wx s1 4 4 4294967296 rfl (by omega) (by omega) (by decide) hx)
    rw [← hq1, ← hv1] at c1
    have c2 := hide (fun wx (hx : Gx (w.heap.size + 1) wx q1) => byte_g (w.heap.size + 1) wx q1 hx)
    rw [← hp2, ← hv2] at c2
    have d2 := hide (fun wx (hx : Gx (w.heap.size + 1) wx p2) => wrong_g (w.heap.size + 1) wx p2 (decide (v2 > 1)) hx)
    rw [← hq2] at d2
    have c3 := hide (fun wx (hx : Gx (w.heap.size + 1) wx q2) => fixed_g (w.heap.size + 1) wx q2 4 4 4294967296 rfl (by omega) (by omega) (by decide) hx)
    rw [← hp3, ← hv3] at c3
    have d3 := hide (fun wx (hx : Gx (w.heap.size + 1) wx p3) => wrong_g (w.heap.size + 1) wx p3 (v3 != 1) hx)
    rw [← hq3] at d3
    have c4 := hide (fun wx (hx : Gx (w.heap.size + 1) wx q3) => rest_g (w.heap.size + 1) wx q3 hx)
    rw [← hq4, ← hv4] at c4
    clear hq1 hv1 hp2 hv2 hq2 hp3 hv3 hq3 hq4 hv4
    clear hfl HQ0
    have HRn := hide (unhide HR4)
    clear HR4
    go_wp2_with (go_at_call 40; refine same_world (unhide cS _) ?_)
    refine (unhide c1 _ (unhide HRn).gx).mono ?_
    rintro e x5 ⟨⟨rfl, b01, b11⟩, ho⟩
    have HRo := hide ((unhide HRn).call ho le1)
    clear ho c1 HRn
    have HRn := hide (unhide HRo)
    clear HRo
    obtain ⟨kv, kc⟩ := (unhide HRn).cell 2 (by omega)
    have kf := (unhide HRn).free 2
    have HRm := hide (show Rr w w3.heap.size (x5.setCell ⟨w3.heap.size, 2, none⟩ (.int .u32 v1)) q1 ({ cm0 V with s := v1 } : Cm) from (unhide HRn).num 2 _ rfl (fun _ _ _ => rfl))
    clear HRn
    go_wp2_with fail
    clear kc kf
    have HRn := hide (unhide HRm)
    clear HRm
    refine (unhide c2 _ (unhide HRn).gx).mono ?_
    rintro e x6 ⟨⟨rfl, b02, b12⟩, ho⟩
    have HRo := hide ((unhide HRn).call ho lp2)
    clear ho c2 HRn
    have HRn := hide (unhide HRo)
    clear HRo
    obtain ⟨kv, kc⟩ := (unhide HRn).cell 4 (by omega)
    have kf := (unhide HRn).free 4
    have HRm := hide (show Rr w w3.heap.size (x6.setCell ⟨w3.heap.size, 4, none⟩ (.int .u8 v2)) p2 ({ cm0 V with s := v1, f := v2 } : Cm) from (unhide HRn).num 4 _ rfl (fun _ _ _ => rfl))
    clear HRn
    go_wp2_with fail
    clear kc kf
    have HRn := hide (unhide HRm)
    clear HRm
    refine (unhide d2 _ (unhide HRn).gx).mono ?_
    rintro e x7 ⟨rfl, ho⟩
    have HRo := hide ((unhide HRn).call ho le2)
    clear ho d2 HRn
    have HRn := hide (unhide HRo)
    clear HRo
    go_wp2_with fail
    refine (unhide c3 _ (unhide HRn).gx).mono ?_
    rintro e x8 ⟨⟨rfl, b03, b13⟩, ho⟩
    have HRo := hide ((unhide HRn).call ho lp3)
    clear ho c3 HRn
    have HRn := hide (unhide HRo)
    clear HRo
    go_wp2_with fail
    refine (unhide d3 _ (unhide HRn).gx).mono ?_
    rintro e x9 ⟨rfl, ho⟩
    have HRo := hide ((unhide HRn).call ho le3)
    clear ho d3 HRn
    have HRn := hide (unhide HRo)
    clear HRo
    go_wp2_with fail
    have hlc := (unhide HRn).cx.lt
    refine (unhide c4 _ (unhide HRn).gx).mono ?_
    rintro e x10 ⟨yo, yn, yc, rfl, hm, ho⟩
    have HY := hide hm.bs
    have HK := hide (show ∀ k, ob yo k → w3.heap.size < k from fun k hk => Nat.lt_of_lt_of_le hlc (hm.ob hk).1)
    have HRo := hide ((unhide HRn).call ho le4)
    clear ho hm c4 HRn
    have HRn := hide (unhide HRo)
    clear HRo hlc
    obtain ⟨kv, kc⟩ := (unhide HRn).cell 7 (by omega)
    have kf := (unhide HRn).free 7
    have HRm := hide (show Rr w w3.heap.size (x10.setCell ⟨w3.heap.size, 7, none⟩ (.slice yo yn yc)) q4 ({ cm0 V with s := v1, f := v2, d := v4 } : Cm) from (unhide HRn).dat (unhide HY) (unhide HK))
    clear HRn
    go_wp2_with fail
    clear kc kf
    have HRn := hide (unhide HRm)
    clear HRm
    have cD := hide (done_g (w.heap.size + 1) _ q4 (unhide HRn).gx)
    obtain ⟨s9, hs9⟩ : ∃ z, z = edS q4 := ⟨_, rfl⟩
    rw [← hs9] at cD
    have HRES := hide (show rdP b = if s9.e = 0 then ({ cm0 V with s := v1, f := v2, d := v4 }, 0) else (cm0 0, s9.e) by unfold rdP; rw [unhide HQ, hs9])
    have hle9 : s9.b.length ≤ q4.b.length := by rw [hs9]; exact waS_le _ _
    clear hs9 HQ
    refine (unhide cD).mono ?_
    rintro e w9 ⟨rfl, ho⟩
    have HR9 := hide ((unhide HRn).call ho hle9)
    clear ho cD HRn hle9
    have k1 := (unhide HR9).gx.c1
    by_cases he : s9.e = 0
    · have he' : (s9.e != 0) = false := by simpa using he
      rw [if_pos he] at HRES
      clear he
      generalize s9.e = E at *
      obtain ⟨xo, xn, xc, hst, hbs, hob⟩ := (unhide HR9).cx
      have HS7 := hide hst
      have HBS := hide hbs
      have HOB := hide hob
      have hlt9 := (unhide HR9).lt
      have HA9 := hide (unhide HR9).res
      have HB9 := hide (unhide HR9).bel
      clear hst hbs hob HR9
      go_wp2_with (first
        | (with_reducible show wpList Try.prog _ _ (Oper.mk _ (Op.load 28 _) _ _ _ none :: _) _ _; refine wpList_loadC rfl (.tmp 5) rfl w3.heap.size (Cm.cd ({ cm0 V with s := v1, f := v2, d := v4 }) xo xn xc) (by simp [Act.eval, Act.put]) (unhide HS7) ?_)
        | (with_reducible show wpList Try.prog _ _ (Oper.mk _ (Op.store 28 _ _) _ _ _ none :: _) _ _; refine wpList_storeC rfl (.tmp 2) (.tmp 92) rfl w.heap.size (Cm.cd ({ cm0 V with s := v1, f := v2, d := v4 }) xo xn xc) ((cm0 0).cd none 0 0) (by simp [Act.eval, Act.put]) (by simp [Act.eval, Act.put]) (unhide HA9) ?_; intro w10 h10 g10 z10; have H10 := hide h10; have G10 := hide g10; clear h10 g10))
      refine bodyPost_ret (results_row_tmp rfl _ _ w.heap.size _ rfl (run_loadVar_row _ w.heap.size _ _ _ _ _ (unhide H10) Try.underlying28 rfl (by kernel_rfl))) rfl ?_
      rw [unhide HRES]
      exact ⟨xo, xn, xc, rfl, (unhide HBS).keepB fun k hk hl => (unhide G10).block k hl (by have := unhide HOB k hk; omega), fun k hk => by have := unhide HOB k hk; omega, (unhide HB9).trans ((unhide G10).below (by have := (unhide HB9).size; omega))⟩
    · have he' : (s9.e != 0) = true := by simpa using he
      rw [if_neg he] at HRES
      clear he
      generalize s9.e = E at *
      have HA7 := hide (unhide HR9).res
      have HB7 := hide (unhide HR9).bel
      have u0 : w9.cell? ⟨w.heap.size, 0, none⟩ = some (.int .u8 0) := by rw [cell_of_row _ _ 0 _ _ _ (unhide HA7)]; rfl
      have u1 : w9.cell? ⟨w.heap.size, 1, none⟩ = some (.string ⟨#[]⟩) := by rw [cell_of_row _ _ 1 _ _ _ (unhide HA7)]; rfl
      have u2 : w9.cell? ⟨w.heap.size, 2, none⟩ = some (.int .u32 0) := by rw [cell_of_row _ _ 2 _ _ _ (unhide HA7)]; rfl
      have u3 : w9.cell? ⟨w.heap.size, 3, none⟩ = some (.int .u16 0) := by rw [cell_of_row _ _ 3 _ _ _ (unhide HA7)]; rfl
      have u4 : w9.cell? ⟨w.heap.size, 4, none⟩ = some (.int .u8 0) := by rw [cell_of_row _ _ 4 _ _ _ (unhide HA7)]; rfl
      have u5 : w9.cell? ⟨w.heap.size, 5, none⟩ = some (.int .u32 0) := by rw [cell_of_row _ _ 5 _ _ _ (unhide HA7)]; rfl
      have u6 : w9.cell? ⟨w.heap.size, 6, none⟩ = some (.int .u16 0) := by rw [cell_of_row _ _ 6 _ _ _ (unhide HA7)]; rfl
      have u7 : w9.cell? ⟨w.heap.size, 7, none⟩ = some (.slice none 0 0) := by rw [cell_of_row _ _ 7 _ _ _ (unhide HA7)]; rfl
      have uf : ∀ i, w9.frozen? ⟨w.heap.size, i, none⟩ = false := fun i => frozen_of_row w9 w.heap.size i _ _ (unhide HA7)
      have uf0 := uf 0
      have uf1 := uf 1
      have uf2 := uf 2
      have uf3 := uf 3
      have uf4 := uf 4
      have uf5 := uf 5
      have uf6 := uf 6
      have uf7 := uf 7
      clear uf
      go_wp2_with fail
      go_region
      go_wp2_with fail
      refine bodyPost_ret (results_row_tmp rfl _ _ w.heap.size _ rfl (run_loadVar_row _ w.heap.size _ _ _ _ _ (show _ = some (Obj.cells #[.int .u8 0, .string ⟨#[]⟩, .int .u32 0, .int .u16 0, .int .u8 0, .int .u32 0, .int .u16 0, .slice none 0 0] 28 (0, 0)) from (drew_row (heap_setCell_same _ w.heap.size 7 _ _ _ (heap_setCell_same _ w.heap.size 6 _ _ _ (heap_setCell_same _ w.heap.size 5 _ _ _ (heap_setCell_same _ w.heap.size 4 _ _ _ (heap_setCell_same _ w.heap.size 3 _ _ _ (heap_setCell_same _ w.heap.size 2 _ _ _ (heap_setCell_same _ w.heap.size 1 _ _ _ (heap_setCell_same _ w.heap.size 0 _ _ _ (unhide HA7))))))))))) Try.underlying28 rfl (by kernel_rfl))) rfl ?_
      rw [unhide HRES]
      exact ⟨none, 0, 0, rfl, Bs.nought _, fun k hk => absurd hk ob_none, (((((((((unhide HB7).setCell (Nat.le_refl _) _).setCell (Nat.le_refl _) _).setCell (Nat.le_refl _) _).setCell (Nat.le_refl _) _).setCell (Nat.le_refl _) _).setCell (Nat.le_refl _) _).setCell (Nat.le_refl _) _).setCell (Nat.le_refl _) _).drew⟩
  · obtain ⟨q1, hq1⟩ : ∃ z, z = fxS s1 4 := ⟨_, rfl⟩
    obtain ⟨v1, hv1⟩ : ∃ z, z = fxA s1 4 := ⟨_, rfl⟩
    have le1 : q1.b.length ≤ s1.b.length := by rw [hq1]; exact fxS_le _ _
    obtain ⟨q2, hq2⟩ : ∃ z, z = fxS q1 2 := ⟨_, rfl⟩
    obtain ⟨v2, hv2⟩ : ∃ z, z = fxA q1 2 := ⟨_, rfl⟩
    have le2 : q2.b.length ≤ q1.b.length := by rw [hq2]; exact fxS_le _ _
    obtain ⟨q3, hq3⟩ : ∃ z, z = reS q2 := ⟨_, rfl⟩
    obtain ⟨v3, hv3⟩ : ∃ z, z = reA q2 := ⟨_, rfl⟩
    have le3 : q3.b.length ≤ q2.b.length := by rw [hq3]; exact reS_le _
    have HQ := hide (show rdQ b = (q3, ({ cm0 V with s := v1, p := v2, d := v3 } : Cm)) by rw [unhide HQ0, hfl]; subst hq1 hv1 hq2 hv2 hq3 hv3; rfl)
    have c1 := hide (fun wx (hx : Gx (w.heap.size + 1) wx s1) => fixed_g (w.heap.size + 1) wx s1 4 4 4294967296 rfl (by omega) (by omega) (by decide) hx)
    rw [← hq1, ← hv1] at c1
    have c2 := hide (fun wx (hx : Gx (w.heap.size + 1) wx q1) => fixed_g (w.heap.size + 1) wx q1 2 2 65536 rfl (by omega) (by omega) (by decide) hx)
    rw [← hq2, ← hv2] at c2
    have c3 := hide (fun wx (hx : Gx (w.heap.size + 1) wx q2) => rest_g (w.heap.size + 1) wx q2 hx)
    rw [← hq3, ← hv3] at c3
    clear hq1 hv1 hq2 hv2 hq3 hv3
    clear hfl HQ0
    have HRn := hide (unhide HR4)
    clear HR4
    go_wp2_with (go_at_call 40; refine same_world (unhide cS _) ?_)
    refine (unhide c1 _ (unhide HRn).gx).mono ?_
    rintro e x5 ⟨⟨rfl, b01, b11⟩, ho⟩
    have HRo := hide ((unhide HRn).call ho le1)
    clear ho c1 HRn
    have HRn := hide (unhide HRo)
    clear HRo
    obtain ⟨kv, kc⟩ := (unhide HRn).cell 2 (by omega)
    have kf := (unhide HRn).free 2
    have HRm := hide (show Rr w w3.heap.size (x5.setCell ⟨w3.heap.size, 2, none⟩ (.int .u32 v1)) q1 ({ cm0 V with s := v1 } : Cm) from (unhide HRn).num 2 _ rfl (fun _ _ _ => rfl))
    clear HRn
    go_wp2_with fail
    clear kc kf
    have HRn := hide (unhide HRm)
    clear HRm
    refine (unhide c2 _ (unhide HRn).gx).mono ?_
    rintro e x6 ⟨⟨rfl, b02, b12⟩, ho⟩
    have HRo := hide ((unhide HRn).call ho le2)
    clear ho c2 HRn
    have HRn := hide (unhide HRo)
    clear HRo
    obtain ⟨kv, kc⟩ := (unhide HRn).cell 3 (by omega)
    have kf := (unhide HRn).free 3
    have HRm := hide (show Rr w w3.heap.size (x6.setCell ⟨w3.heap.size, 3, none⟩ (.int .u16 v2)) q2 ({ cm0 V with s := v1, p := v2 } : Cm) from (unhide HRn).num 3 _ rfl (fun _ _ _ => rfl))
    clear HRn
    go_wp2_with fail
    clear kc kf
    have HRn := hide (unhide HRm)
    clear HRm
    have hlc := (unhide HRn).cx.lt
    refine (unhide c3 _ (unhide HRn).gx).mono ?_
    rintro e x7 ⟨yo, yn, yc, rfl, hm, ho⟩
    have HY := hide hm.bs
    have HK := hide (show ∀ k, ob yo k → w3.heap.size < k from fun k hk => Nat.lt_of_lt_of_le hlc (hm.ob hk).1)
    have HRo := hide ((unhide HRn).call ho le3)
    clear ho hm c3 HRn
    have HRn := hide (unhide HRo)
    clear HRo hlc
    obtain ⟨kv, kc⟩ := (unhide HRn).cell 7 (by omega)
    have kf := (unhide HRn).free 7
    have HRm := hide (show Rr w w3.heap.size (x7.setCell ⟨w3.heap.size, 7, none⟩ (.slice yo yn yc)) q3 ({ cm0 V with s := v1, p := v2, d := v3 } : Cm) from (unhide HRn).dat (unhide HY) (unhide HK))
    clear HRn
    go_wp2_with fail
    clear kc kf
    have HRn := hide (unhide HRm)
    clear HRm
    have cD := hide (done_g (w.heap.size + 1) _ q3 (unhide HRn).gx)
    obtain ⟨s9, hs9⟩ : ∃ z, z = edS q3 := ⟨_, rfl⟩
    rw [← hs9] at cD
    have HRES := hide (show rdP b = if s9.e = 0 then ({ cm0 V with s := v1, p := v2, d := v3 }, 0) else (cm0 0, s9.e) by unfold rdP; rw [unhide HQ, hs9])
    have hle9 : s9.b.length ≤ q3.b.length := by rw [hs9]; exact waS_le _ _
    clear hs9 HQ
    refine (unhide cD).mono ?_
    rintro e w9 ⟨rfl, ho⟩
    have HR9 := hide ((unhide HRn).call ho hle9)
    clear ho cD HRn hle9
    have k1 := (unhide HR9).gx.c1
    by_cases he : s9.e = 0
    · have he' : (s9.e != 0) = false := by simpa using he
      rw [if_pos he] at HRES
      clear he
      generalize s9.e = E at *
      obtain ⟨xo, xn, xc, hst, hbs, hob⟩ := (unhide HR9).cx
      have HS7 := hide hst
      have HBS := hide hbs
      have HOB := hide hob
      have hlt9 := (unhide HR9).lt
      have HA9 := hide (unhide HR9).res
      have HB9 := hide (unhide HR9).bel
      clear hst hbs hob HR9
      go_wp2_with (first
        | (with_reducible show wpList Try.prog _ _ (Oper.mk _ (Op.load 28 _) _ _ _ none :: _) _ _; refine wpList_loadC rfl (.tmp 5) rfl w3.heap.size (Cm.cd ({ cm0 V with s := v1, p := v2, d := v3 }) xo xn xc) (by simp [Act.eval, Act.put]) (unhide HS7) ?_)
        | (with_reducible show wpList Try.prog _ _ (Oper.mk _ (Op.store 28 _ _) _ _ _ none :: _) _ _; refine wpList_storeC rfl (.tmp 2) (.tmp 92) rfl w.heap.size (Cm.cd ({ cm0 V with s := v1, p := v2, d := v3 }) xo xn xc) ((cm0 0).cd none 0 0) (by simp [Act.eval, Act.put]) (by simp [Act.eval, Act.put]) (unhide HA9) ?_; intro w10 h10 g10 z10; have H10 := hide h10; have G10 := hide g10; clear h10 g10))
      refine bodyPost_ret (results_row_tmp rfl _ _ w.heap.size _ rfl (run_loadVar_row _ w.heap.size _ _ _ _ _ (unhide H10) Try.underlying28 rfl (by kernel_rfl))) rfl ?_
      rw [unhide HRES]
      exact ⟨xo, xn, xc, rfl, (unhide HBS).keepB fun k hk hl => (unhide G10).block k hl (by have := unhide HOB k hk; omega), fun k hk => by have := unhide HOB k hk; omega, (unhide HB9).trans ((unhide G10).below (by have := (unhide HB9).size; omega))⟩
    · have he' : (s9.e != 0) = true := by simpa using he
      rw [if_neg he] at HRES
      clear he
      generalize s9.e = E at *
      have HA7 := hide (unhide HR9).res
      have HB7 := hide (unhide HR9).bel
      have u0 : w9.cell? ⟨w.heap.size, 0, none⟩ = some (.int .u8 0) := by rw [cell_of_row _ _ 0 _ _ _ (unhide HA7)]; rfl
      have u1 : w9.cell? ⟨w.heap.size, 1, none⟩ = some (.string ⟨#[]⟩) := by rw [cell_of_row _ _ 1 _ _ _ (unhide HA7)]; rfl
      have u2 : w9.cell? ⟨w.heap.size, 2, none⟩ = some (.int .u32 0) := by rw [cell_of_row _ _ 2 _ _ _ (unhide HA7)]; rfl
      have u3 : w9.cell? ⟨w.heap.size, 3, none⟩ = some (.int .u16 0) := by rw [cell_of_row _ _ 3 _ _ _ (unhide HA7)]; rfl
      have u4 : w9.cell? ⟨w.heap.size, 4, none⟩ = some (.int .u8 0) := by rw [cell_of_row _ _ 4 _ _ _ (unhide HA7)]; rfl
      have u5 : w9.cell? ⟨w.heap.size, 5, none⟩ = some (.int .u32 0) := by rw [cell_of_row _ _ 5 _ _ _ (unhide HA7)]; rfl
      have u6 : w9.cell? ⟨w.heap.size, 6, none⟩ = some (.int .u16 0) := by rw [cell_of_row _ _ 6 _ _ _ (unhide HA7)]; rfl
      have u7 : w9.cell? ⟨w.heap.size, 7, none⟩ = some (.slice none 0 0) := by rw [cell_of_row _ _ 7 _ _ _ (unhide HA7)]; rfl
      have uf : ∀ i, w9.frozen? ⟨w.heap.size, i, none⟩ = false := fun i => frozen_of_row w9 w.heap.size i _ _ (unhide HA7)
      have uf0 := uf 0
      have uf1 := uf 1
      have uf2 := uf 2
      have uf3 := uf 3
      have uf4 := uf 4
      have uf5 := uf 5
      have uf6 := uf 6
      have uf7 := uf 7
      clear uf
      go_wp2_with fail
      go_region
      go_wp2_with fail
      refine bodyPost_ret (results_row_tmp rfl _ _ w.heap.size _ rfl (run_loadVar_row _ w.heap.size _ _ _ _ _ (show _ = some (Obj.cells #[.int .u8 0, .string ⟨#[]⟩, .int .u32 0, .int .u16 0, .int .u8 0, .int .u32 0, .int .u16 0, .slice none 0 0] 28 (0, 0)) from (drew_row (heap_setCell_same _ w.heap.size 7 _ _ _ (heap_setCell_same _ w.heap.size 6 _ _ _ (heap_setCell_same _ w.heap.size 5 _ _ _ (heap_setCell_same _ w.heap.size 4 _ _ _ (heap_setCell_same _ w.heap.size 3 _ _ _ (heap_setCell_same _ w.heap.size 2 _ _ _ (heap_setCell_same _ w.heap.size 1 _ _ _ (heap_setCell_same _ w.heap.size 0 _ _ _ (unhide HA7))))))))))) Try.underlying28 rfl (by kernel_rfl))) rfl ?_
      rw [unhide HRES]
      exact ⟨none, 0, 0, rfl, Bs.nought _, fun k hk => absurd hk ob_none, (((((((((unhide HB7).setCell (Nat.le_refl _) _).setCell (Nat.le_refl _) _).setCell (Nat.le_refl _) _).setCell (Nat.le_refl _) _).setCell (Nat.le_refl _) _).setCell (Nat.le_refl _) _).setCell (Nat.le_refl _) _).setCell (Nat.le_refl _) _).drew⟩
  · obtain ⟨q1, hq1⟩ : ∃ z, z = fxS s1 4 := ⟨_, rfl⟩
    obtain ⟨v1, hv1⟩ : ∃ z, z = fxA s1 4 := ⟨_, rfl⟩
    have le1 : q1.b.length ≤ s1.b.length := by rw [hq1]; exact fxS_le _ _
    have HQ := hide (show rdQ b = (q1, ({ cm0 V with s := v1 } : Cm)) by rw [unhide HQ0, hfl]; subst hq1 hv1; rfl)
    have c1 := hide (fun wx (hx : Gx (w.heap.size + 1) wx s1) => fixed_g (w.heap.size + 1) wx s1 4 4 4294967296 rfl (by omega) (by omega) (by decide) hx)
    rw [← hq1, ← hv1] at c1
    clear hq1 hv1
    clear hfl HQ0
    have HRn := hide (unhide HR4)
    clear HR4
    go_wp2_with (go_at_call 40; refine same_world (unhide cS _) ?_)
    refine (unhide c1 _ (unhide HRn).gx).mono ?_
    rintro e x5 ⟨⟨rfl, b01, b11⟩, ho⟩
    have HRo := hide ((unhide HRn).call ho le1)
    clear ho c1 HRn
    have HRn := hide (unhide HRo)
    clear HRo
    obtain ⟨kv, kc⟩ := (unhide HRn).cell 2 (by omega)
    have kf := (unhide HRn).free 2
    have HRm := hide (show Rr w w3.heap.size (x5.setCell ⟨w3.heap.size, 2, none⟩ (.int .u32 v1)) q1 ({ cm0 V with s := v1 } : Cm) from (unhide HRn).num 2 _ rfl (fun _ _ _ => rfl))
    clear HRn
    go_wp2_with fail
    clear kc kf
    have HRn := hide (unhide HRm)
    clear HRm
    have cD := hide (done_g (w.heap.size + 1) _ q1 (unhide HRn).gx)
    obtain ⟨s9, hs9⟩ : ∃ z, z = edS q1 := ⟨_, rfl⟩
    rw [← hs9] at cD
    have HRES := hide (show rdP b = if s9.e = 0 then ({ cm0 V with s := v1 }, 0) else (cm0 0, s9.e) by unfold rdP; rw [unhide HQ, hs9])
    have hle9 : s9.b.length ≤ q1.b.length := by rw [hs9]; exact waS_le _ _
    clear hs9 HQ
    refine (unhide cD).mono ?_
    rintro e w9 ⟨rfl, ho⟩
    have HR9 := hide ((unhide HRn).call ho hle9)
    clear ho cD HRn hle9
    have k1 := (unhide HR9).gx.c1
    by_cases he : s9.e = 0
    · have he' : (s9.e != 0) = false := by simpa using he
      rw [if_pos he] at HRES
      clear he
      generalize s9.e = E at *
      obtain ⟨xo, xn, xc, hst, hbs, hob⟩ := (unhide HR9).cx
      have HS7 := hide hst
      have HBS := hide hbs
      have HOB := hide hob
      have hlt9 := (unhide HR9).lt
      have HA9 := hide (unhide HR9).res
      have HB9 := hide (unhide HR9).bel
      clear hst hbs hob HR9
      go_wp2_with (first
        | (with_reducible show wpList Try.prog _ _ (Oper.mk _ (Op.load 28 _) _ _ _ none :: _) _ _; refine wpList_loadC rfl (.tmp 5) rfl w3.heap.size (Cm.cd ({ cm0 V with s := v1 }) xo xn xc) (by simp [Act.eval, Act.put]) (unhide HS7) ?_)
        | (with_reducible show wpList Try.prog _ _ (Oper.mk _ (Op.store 28 _ _) _ _ _ none :: _) _ _; refine wpList_storeC rfl (.tmp 2) (.tmp 92) rfl w.heap.size (Cm.cd ({ cm0 V with s := v1 }) xo xn xc) ((cm0 0).cd none 0 0) (by simp [Act.eval, Act.put]) (by simp [Act.eval, Act.put]) (unhide HA9) ?_; intro w10 h10 g10 z10; have H10 := hide h10; have G10 := hide g10; clear h10 g10))
      refine bodyPost_ret (results_row_tmp rfl _ _ w.heap.size _ rfl (run_loadVar_row _ w.heap.size _ _ _ _ _ (unhide H10) Try.underlying28 rfl (by kernel_rfl))) rfl ?_
      rw [unhide HRES]
      exact ⟨xo, xn, xc, rfl, (unhide HBS).keepB fun k hk hl => (unhide G10).block k hl (by have := unhide HOB k hk; omega), fun k hk => by have := unhide HOB k hk; omega, (unhide HB9).trans ((unhide G10).below (by have := (unhide HB9).size; omega))⟩
    · have he' : (s9.e != 0) = true := by simpa using he
      rw [if_neg he] at HRES
      clear he
      generalize s9.e = E at *
      have HA7 := hide (unhide HR9).res
      have HB7 := hide (unhide HR9).bel
      have u0 : w9.cell? ⟨w.heap.size, 0, none⟩ = some (.int .u8 0) := by rw [cell_of_row _ _ 0 _ _ _ (unhide HA7)]; rfl
      have u1 : w9.cell? ⟨w.heap.size, 1, none⟩ = some (.string ⟨#[]⟩) := by rw [cell_of_row _ _ 1 _ _ _ (unhide HA7)]; rfl
      have u2 : w9.cell? ⟨w.heap.size, 2, none⟩ = some (.int .u32 0) := by rw [cell_of_row _ _ 2 _ _ _ (unhide HA7)]; rfl
      have u3 : w9.cell? ⟨w.heap.size, 3, none⟩ = some (.int .u16 0) := by rw [cell_of_row _ _ 3 _ _ _ (unhide HA7)]; rfl
      have u4 : w9.cell? ⟨w.heap.size, 4, none⟩ = some (.int .u8 0) := by rw [cell_of_row _ _ 4 _ _ _ (unhide HA7)]; rfl
      have u5 : w9.cell? ⟨w.heap.size, 5, none⟩ = some (.int .u32 0) := by rw [cell_of_row _ _ 5 _ _ _ (unhide HA7)]; rfl
      have u6 : w9.cell? ⟨w.heap.size, 6, none⟩ = some (.int .u16 0) := by rw [cell_of_row _ _ 6 _ _ _ (unhide HA7)]; rfl
      have u7 : w9.cell? ⟨w.heap.size, 7, none⟩ = some (.slice none 0 0) := by rw [cell_of_row _ _ 7 _ _ _ (unhide HA7)]; rfl
      have uf : ∀ i, w9.frozen? ⟨w.heap.size, i, none⟩ = false := fun i => frozen_of_row w9 w.heap.size i _ _ (unhide HA7)
      have uf0 := uf 0
      have uf1 := uf 1
      have uf2 := uf 2
      have uf3 := uf 3
      have uf4 := uf 4
      have uf5 := uf 5
      have uf6 := uf 6
      have uf7 := uf 7
      clear uf
      go_wp2_with fail
      go_region
      go_wp2_with fail
      refine bodyPost_ret (results_row_tmp rfl _ _ w.heap.size _ rfl (run_loadVar_row _ w.heap.size _ _ _ _ _ (show _ = some (Obj.cells #[.int .u8 0, .string ⟨#[]⟩, .int .u32 0, .int .u16 0, .int .u8 0, .int .u32 0, .int .u16 0, .slice none 0 0] 28 (0, 0)) from (drew_row (heap_setCell_same _ w.heap.size 7 _ _ _ (heap_setCell_same _ w.heap.size 6 _ _ _ (heap_setCell_same _ w.heap.size 5 _ _ _ (heap_setCell_same _ w.heap.size 4 _ _ _ (heap_setCell_same _ w.heap.size 3 _ _ _ (heap_setCell_same _ w.heap.size 2 _ _ _ (heap_setCell_same _ w.heap.size 1 _ _ _ (heap_setCell_same _ w.heap.size 0 _ _ _ (unhide HA7))))))))))) Try.underlying28 rfl (by kernel_rfl))) rfl ?_
      rw [unhide HRES]
      exact ⟨none, 0, 0, rfl, Bs.nought _, fun k hk => absurd hk ob_none, (((((((((unhide HB7).setCell (Nat.le_refl _) _).setCell (Nat.le_refl _) _).setCell (Nat.le_refl _) _).setCell (Nat.le_refl _) _).setCell (Nat.le_refl _) _).setCell (Nat.le_refl _) _).setCell (Nat.le_refl _) _).setCell (Nat.le_refl _) _).drew⟩
  · obtain ⟨q1, hq1⟩ : ∃ z, z = fxS s1 2 := ⟨_, rfl⟩
    obtain ⟨v1, hv1⟩ : ∃ z, z = fxA s1 2 := ⟨_, rfl⟩
    have le1 : q1.b.length ≤ s1.b.length := by rw [hq1]; exact fxS_le _ _
    have HQ := hide (show rdQ b = (q1, ({ cm0 V with o := v1 } : Cm)) by rw [unhide HQ0, hfl]; subst hq1 hv1; rfl)
    have c1 := hide (fun wx (hx : Gx (w.heap.size + 1) wx s1) => fixed_g (w.heap.size + 1) wx s1 2 2 65536 rfl (by omega) (by omega) (by decide) hx)
    rw [← hq1, ← hv1] at c1
    clear hq1 hv1
    clear hfl HQ0
    have HRn := hide (unhide HR4)
    clear HR4
    go_wp2_with (go_at_call 40; refine same_world (unhide cS _) ?_)
    refine (unhide c1 _ (unhide HRn).gx).mono ?_
    rintro e x5 ⟨⟨rfl, b01, b11⟩, ho⟩
    have HRo := hide ((unhide HRn).call ho le1)
    clear ho c1 HRn
    have HRn := hide (unhide HRo)
    clear HRo
    obtain ⟨kv, kc⟩ := (unhide HRn).cell 6 (by omega)
    have kf := (unhide HRn).free 6
    have HRm := hide (show Rr w w3.heap.size (x5.setCell ⟨w3.heap.size, 6, none⟩ (.int .u16 v1)) q1 ({ cm0 V with o := v1 } : Cm) from (unhide HRn).num 6 _ rfl (fun _ _ _ => rfl))
    clear HRn
    go_wp2_with fail
    clear kc kf
    have HRn := hide (unhide HRm)
    clear HRm
    have cD := hide (done_g (w.heap.size + 1) _ q1 (unhide HRn).gx)
    obtain ⟨s9, hs9⟩ : ∃ z, z = edS q1 := ⟨_, rfl⟩
    rw [← hs9] at cD
    have HRES := hide (show rdP b = if s9.e = 0 then ({ cm0 V with o := v1 }, 0) else (cm0 0, s9.e) by unfold rdP; rw [unhide HQ, hs9])
    have hle9 : s9.b.length ≤ q1.b.length := by rw [hs9]; exact waS_le _ _
    clear hs9 HQ
    refine (unhide cD).mono ?_
    rintro e w9 ⟨rfl, ho⟩
    have HR9 := hide ((unhide HRn).call ho hle9)
    clear ho cD HRn hle9
    have k1 := (unhide HR9).gx.c1
    by_cases he : s9.e = 0
    · have he' : (s9.e != 0) = false := by simpa using he
      rw [if_pos he] at HRES
      clear he
      generalize s9.e = E at *
      obtain ⟨xo, xn, xc, hst, hbs, hob⟩ := (unhide HR9).cx
      have HS7 := hide hst
      have HBS := hide hbs
      have HOB := hide hob
      have hlt9 := (unhide HR9).lt
      have HA9 := hide (unhide HR9).res
      have HB9 := hide (unhide HR9).bel
      clear hst hbs hob HR9
      go_wp2_with (first
        | (with_reducible show wpList Try.prog _ _ (Oper.mk _ (Op.load 28 _) _ _ _ none :: _) _ _; refine wpList_loadC rfl (.tmp 5) rfl w3.heap.size (Cm.cd ({ cm0 V with o := v1 }) xo xn xc) (by simp [Act.eval, Act.put]) (unhide HS7) ?_)
        | (with_reducible show wpList Try.prog _ _ (Oper.mk _ (Op.store 28 _ _) _ _ _ none :: _) _ _; refine wpList_storeC rfl (.tmp 2) (.tmp 92) rfl w.heap.size (Cm.cd ({ cm0 V with o := v1 }) xo xn xc) ((cm0 0).cd none 0 0) (by simp [Act.eval, Act.put]) (by simp [Act.eval, Act.put]) (unhide HA9) ?_; intro w10 h10 g10 z10; have H10 := hide h10; have G10 := hide g10; clear h10 g10))
      refine bodyPost_ret (results_row_tmp rfl _ _ w.heap.size _ rfl (run_loadVar_row _ w.heap.size _ _ _ _ _ (unhide H10) Try.underlying28 rfl (by kernel_rfl))) rfl ?_
      rw [unhide HRES]
      exact ⟨xo, xn, xc, rfl, (unhide HBS).keepB fun k hk hl => (unhide G10).block k hl (by have := unhide HOB k hk; omega), fun k hk => by have := unhide HOB k hk; omega, (unhide HB9).trans ((unhide G10).below (by have := (unhide HB9).size; omega))⟩
    · have he' : (s9.e != 0) = true := by simpa using he
      rw [if_neg he] at HRES
      clear he
      generalize s9.e = E at *
      have HA7 := hide (unhide HR9).res
      have HB7 := hide (unhide HR9).bel
      have u0 : w9.cell? ⟨w.heap.size, 0, none⟩ = some (.int .u8 0) := by rw [cell_of_row _ _ 0 _ _ _ (unhide HA7)]; rfl
      have u1 : w9.cell? ⟨w.heap.size, 1, none⟩ = some (.string ⟨#[]⟩) := by rw [cell_of_row _ _ 1 _ _ _ (unhide HA7)]; rfl
      have u2 : w9.cell? ⟨w.heap.size, 2, none⟩ = some (.int .u32 0) := by rw [cell_of_row _ _ 2 _ _ _ (unhide HA7)]; rfl
      have u3 : w9.cell? ⟨w.heap.size, 3, none⟩ = some (.int .u16 0) := by rw [cell_of_row _ _ 3 _ _ _ (unhide HA7)]; rfl
      have u4 : w9.cell? ⟨w.heap.size, 4, none⟩ = some (.int .u8 0) := by rw [cell_of_row _ _ 4 _ _ _ (unhide HA7)]; rfl
      have u5 : w9.cell? ⟨w.heap.size, 5, none⟩ = some (.int .u32 0) := by rw [cell_of_row _ _ 5 _ _ _ (unhide HA7)]; rfl
      have u6 : w9.cell? ⟨w.heap.size, 6, none⟩ = some (.int .u16 0) := by rw [cell_of_row _ _ 6 _ _ _ (unhide HA7)]; rfl
      have u7 : w9.cell? ⟨w.heap.size, 7, none⟩ = some (.slice none 0 0) := by rw [cell_of_row _ _ 7 _ _ _ (unhide HA7)]; rfl
      have uf : ∀ i, w9.frozen? ⟨w.heap.size, i, none⟩ = false := fun i => frozen_of_row w9 w.heap.size i _ _ (unhide HA7)
      have uf0 := uf 0
      have uf1 := uf 1
      have uf2 := uf 2
      have uf3 := uf 3
      have uf4 := uf 4
      have uf5 := uf 5
      have uf6 := uf 6
      have uf7 := uf 7
      clear uf
      go_wp2_with fail
      go_region
      go_wp2_with fail
      refine bodyPost_ret (results_row_tmp rfl _ _ w.heap.size _ rfl (run_loadVar_row _ w.heap.size _ _ _ _ _ (show _ = some (Obj.cells #[.int .u8 0, .string ⟨#[]⟩, .int .u32 0, .int .u16 0, .int .u8 0, .int .u32 0, .int .u16 0, .slice none 0 0] 28 (0, 0)) from (drew_row (heap_setCell_same _ w.heap.size 7 _ _ _ (heap_setCell_same _ w.heap.size 6 _ _ _ (heap_setCell_same _ w.heap.size 5 _ _ _ (heap_setCell_same _ w.heap.size 4 _ _ _ (heap_setCell_same _ w.heap.size 3 _ _ _ (heap_setCell_same _ w.heap.size 2 _ _ _ (heap_setCell_same _ w.heap.size 1 _ _ _ (heap_setCell_same _ w.heap.size 0 _ _ _ (unhide HA7))))))))))) Try.underlying28 rfl (by kernel_rfl))) rfl ?_
      rw [unhide HRES]
      exact ⟨none, 0, 0, rfl, Bs.nought _, fun k hk => absurd hk ob_none, (((((((((unhide HB7).setCell (Nat.le_refl _) _).setCell (Nat.le_refl _) _).setCell (Nat.le_refl _) _).setCell (Nat.le_refl _) _).setCell (Nat.le_refl _) _).setCell (Nat.le_refl _) _).setCell (Nat.le_refl _) _).setCell (Nat.le_refl _) _).drew⟩
  · obtain ⟨q1, hq1⟩ : ∃ z, z = fxS s1 4 := ⟨_, rfl⟩
    obtain ⟨v1, hv1⟩ : ∃ z, z = fxA s1 4 := ⟨_, rfl⟩
    have le1 : q1.b.length ≤ s1.b.length := by rw [hq1]; exact fxS_le _ _
    obtain ⟨q2, hq2⟩ : ∃ z, z = fxS q1 4 := ⟨_, rfl⟩
    obtain ⟨v2, hv2⟩ : ∃ z, z = fxA q1 4 := ⟨_, rfl⟩
    have le2 : q2.b.length ≤ q1.b.length := by rw [hq2]; exact fxS_le _ _
    have HQ := hide (show rdQ b = (q2, ({ cm0 V with s := v1, n := v2 } : Cm)) by rw [unhide HQ0, hfl]; subst hq1 hv1 hq2 hv2; rfl)
    have c1 := hide (fun wx (hx : Gx (w.heap.size + 1) wx s1) => fixed_g (w.heap.size + 1) wx s1 4 4 4294967296 rfl (by omega) (by omega) (by decide) hx)
    rw [← hq1, ← hv1] at c1
    have c2 := hide (fun wx (hx : Gx (w.heap.size + 1) wx q1) => fixed_g (w.heap.size + 1) wx q1 4 4 4294967296 rfl (by omega) (by omega) (by decide) hx)
    rw [← hq2, ← hv2] at c2
    clear hq1 hv1 hq2 hv2
    clear hfl HQ0
    have HRn := hide (unhide HR4)
    clear HR4
    go_wp2_with (go_at_call 40; refine same_world (unhide cS _) ?_)
    refine (unhide c1 _ (unhide HRn).gx).mono ?_
    rintro e x5 ⟨⟨rfl, b01, b11⟩, ho⟩
    have HRo := hide ((unhide HRn).call ho le1)
    clear ho c1 HRn
    have HRn := hide (unhide HRo)
    clear HRo
    obtain ⟨kv, kc⟩ := (unhide HRn).cell 2 (by omega)
    have kf := (unhide HRn).free 2
    have HRm := hide (show Rr w w3.heap.size (x5.setCell ⟨w3.heap.size, 2, none⟩ (.int .u32 v1)) q1 ({ cm0 V with s := v1 } : Cm) from (unhide HRn).num 2 _ rfl (fun _ _ _ => rfl))
    clear HRn
    go_wp2_with fail
    clear kc kf
    have HRn := hide (unhide HRm)
    clear HRm
    refine (unhide c2 _ (unhide HRn).gx).mono ?_
    rintro e x6 ⟨⟨rfl, b02, b12⟩, ho⟩
    have HRo := hide ((unhide HRn).call ho le2)
    clear ho c2 HRn
    have HRn := hide (unhide HRo)
    clear HRo
    obtain ⟨kv, kc⟩ := (unhide HRn).cell 5 (by omega)
    have kf := (unhide HRn).free 5
    have HRm := hide (show Rr w w3.heap.size (x6.setCell ⟨w3.heap.size, 5, none⟩ (.int .u32 v2)) q2 ({ cm0 V with s := v1, n := v2 } : Cm) from (unhide HRn).num 5 _ rfl (fun _ _ _ => rfl))
    clear HRn
    go_wp2_with fail
    clear kc kf
    have HRn := hide (unhide HRm)
    clear HRm
    have cD := hide (done_g (w.heap.size + 1) _ q2 (unhide HRn).gx)
    obtain ⟨s9, hs9⟩ : ∃ z, z = edS q2 := ⟨_, rfl⟩
    rw [← hs9] at cD
    have HRES := hide (show rdP b = if s9.e = 0 then ({ cm0 V with s := v1, n := v2 }, 0) else (cm0 0, s9.e) by unfold rdP; rw [unhide HQ, hs9])
    have hle9 : s9.b.length ≤ q2.b.length := by rw [hs9]; exact waS_le _ _
    clear hs9 HQ
    refine (unhide cD).mono ?_
    rintro e w9 ⟨rfl, ho⟩
    have HR9 := hide ((unhide HRn).call ho hle9)
    clear ho cD HRn hle9
    have k1 := (unhide HR9).gx.c1
    by_cases he : s9.e = 0
    · have he' : (s9.e != 0) = false := by simpa using he
      rw [if_pos he] at HRES
      clear he
      generalize s9.e = E at *
      obtain ⟨xo, xn, xc, hst, hbs, hob⟩ := (unhide HR9).cx
      have HS7 := hide hst
      have HBS := hide hbs
      have HOB := hide hob
      have hlt9 := (unhide HR9).lt
      have HA9 := hide (unhide HR9).res
      have HB9 := hide (unhide HR9).bel
      clear hst hbs hob HR9
      go_wp2_with (first
        | (with_reducible show wpList Try.prog _ _ (Oper.mk _ (Op.load 28 _) _ _ _ none :: _) _ _; refine wpList_loadC rfl (.tmp 5) rfl w3.heap.size (Cm.cd ({ cm0 V with s := v1, n := v2 }) xo xn xc) (by simp [Act.eval, Act.put]) (unhide HS7) ?_)
        | (with_reducible show wpList Try.prog _ _ (Oper.mk _ (Op.store 28 _ _) _ _ _ none :: _) _ _; refine wpList_storeC rfl (.tmp 2) (.tmp 92) rfl w.heap.size (Cm.cd ({ cm0 V with s := v1, n := v2 }) xo xn xc) ((cm0 0).cd none 0 0) (by simp [Act.eval, Act.put]) (by simp [Act.eval, Act.put]) (unhide HA9) ?_; intro w10 h10 g10 z10; have H10 := hide h10; have G10 := hide g10; clear h10 g10))
      refine bodyPost_ret (results_row_tmp rfl _ _ w.heap.size _ rfl (run_loadVar_row _ w.heap.size _ _ _ _ _ (unhide H10) Try.underlying28 rfl (by kernel_rfl))) rfl ?_
      rw [unhide HRES]
      exact ⟨xo, xn, xc, rfl, (unhide HBS).keepB fun k hk hl => (unhide G10).block k hl (by have := unhide HOB k hk; omega), fun k hk => by have := unhide HOB k hk; omega, (unhide HB9).trans ((unhide G10).below (by have := (unhide HB9).size; omega))⟩
    · have he' : (s9.e != 0) = true := by simpa using he
      rw [if_neg he] at HRES
      clear he
      generalize s9.e = E at *
      have HA7 := hide (unhide HR9).res
      have HB7 := hide (unhide HR9).bel
      have u0 : w9.cell? ⟨w.heap.size, 0, none⟩ = some (.int .u8 0) := by rw [cell_of_row _ _ 0 _ _ _ (unhide HA7)]; rfl
      have u1 : w9.cell? ⟨w.heap.size, 1, none⟩ = some (.string ⟨#[]⟩) := by rw [cell_of_row _ _ 1 _ _ _ (unhide HA7)]; rfl
      have u2 : w9.cell? ⟨w.heap.size, 2, none⟩ = some (.int .u32 0) := by rw [cell_of_row _ _ 2 _ _ _ (unhide HA7)]; rfl
      have u3 : w9.cell? ⟨w.heap.size, 3, none⟩ = some (.int .u16 0) := by rw [cell_of_row _ _ 3 _ _ _ (unhide HA7)]; rfl
      have u4 : w9.cell? ⟨w.heap.size, 4, none⟩ = some (.int .u8 0) := by rw [cell_of_row _ _ 4 _ _ _ (unhide HA7)]; rfl
      have u5 : w9.cell? ⟨w.heap.size, 5, none⟩ = some (.int .u32 0) := by rw [cell_of_row _ _ 5 _ _ _ (unhide HA7)]; rfl
      have u6 : w9.cell? ⟨w.heap.size, 6, none⟩ = some (.int .u16 0) := by rw [cell_of_row _ _ 6 _ _ _ (unhide HA7)]; rfl
      have u7 : w9.cell? ⟨w.heap.size, 7, none⟩ = some (.slice none 0 0) := by rw [cell_of_row _ _ 7 _ _ _ (unhide HA7)]; rfl
      have uf : ∀ i, w9.frozen? ⟨w.heap.size, i, none⟩ = false := fun i => frozen_of_row w9 w.heap.size i _ _ (unhide HA7)
      have uf0 := uf 0
      have uf1 := uf 1
      have uf2 := uf 2
      have uf3 := uf 3
      have uf4 := uf 4
      have uf5 := uf 5
      have uf6 := uf 6
      have uf7 := uf 7
      clear uf
      go_wp2_with fail
      go_region
      go_wp2_with fail
      refine bodyPost_ret (results_row_tmp rfl _ _ w.heap.size _ rfl (run_loadVar_row _ w.heap.size _ _ _ _ _ (show _ = some (Obj.cells #[.int .u8 0, .string ⟨#[]⟩, .int .u32 0, .int .u16 0, .int .u8 0, .int .u32 0, .int .u16 0, .slice none 0 0] 28 (0, 0)) from (drew_row (heap_setCell_same _ w.heap.size 7 _ _ _ (heap_setCell_same _ w.heap.size 6 _ _ _ (heap_setCell_same _ w.heap.size 5 _ _ _ (heap_setCell_same _ w.heap.size 4 _ _ _ (heap_setCell_same _ w.heap.size 3 _ _ _ (heap_setCell_same _ w.heap.size 2 _ _ _ (heap_setCell_same _ w.heap.size 1 _ _ _ (heap_setCell_same _ w.heap.size 0 _ _ _ (unhide HA7))))))))))) Try.underlying28 rfl (by kernel_rfl))) rfl ?_
      rw [unhide HRES]
      exact ⟨none, 0, 0, rfl, Bs.nought _, fun k hk => absurd hk ob_none, (((((((((unhide HB7).setCell (Nat.le_refl _) _).setCell (Nat.le_refl _) _).setCell (Nat.le_refl _) _).setCell (Nat.le_refl _) _).setCell (Nat.le_refl _) _).setCell (Nat.le_refl _) _).setCell (Nat.le_refl _) _).setCell (Nat.le_refl _) _).drew⟩
  · obtain ⟨q1, hq1⟩ : ∃ z, z = reS s1 := ⟨_, rfl⟩
    obtain ⟨v1, hv1⟩ : ∃ z, z = reA s1 := ⟨_, rfl⟩
    have le1 : q1.b.length ≤ s1.b.length := by rw [hq1]; exact reS_le _
    have HQ := hide (show rdQ b = (q1, ({ cm0 V with d := v1 } : Cm)) by rw [unhide HQ0, hfl]; subst hq1 hv1; rfl)
    have c1 := hide (fun wx (hx : Gx (w.heap.size + 1) wx s1) => rest_g (w.heap.size + 1) wx s1 hx)
    rw [← hq1, ← hv1] at c1
    clear hq1 hv1
    clear hfl HQ0
    have HRn := hide (unhide HR4)
    clear HR4
    go_wp2_with (go_at_call 40; refine same_world (unhide cS _) ?_)
    have hlc := (unhide HRn).cx.lt
    refine (unhide c1 _ (unhide HRn).gx).mono ?_
    rintro e x5 ⟨yo, yn, yc, rfl, hm, ho⟩
    have HY := hide hm.bs
    have HK := hide (show ∀ k, ob yo k → w3.heap.size < k from fun k hk => Nat.lt_of_lt_of_le hlc (hm.ob hk).1)
    have HRo := hide ((unhide HRn).call ho le1)
    clear ho hm c1 HRn
    have HRn := hide (unhide HRo)
    clear HRo hlc
    obtain ⟨kv, kc⟩ := (unhide HRn).cell 7 (by omega)
    have kf := (unhide HRn).free 7
    have HRm := hide (show Rr w w3.heap.size (x5.setCell ⟨w3.heap.size, 7, none⟩ (.slice yo yn yc)) q1 ({ cm0 V with d := v1 } : Cm) from (unhide HRn).dat (unhide HY) (unhide HK))
    clear HRn
    go_wp2_with fail
    clear kc kf
    have HRn := hide (unhide HRm)
    clear HRm
    have cD := hide (done_g (w.heap.size + 1) _ q1 (unhide HRn).gx)
    obtain ⟨s9, hs9⟩ : ∃ z, z = edS q1 := ⟨_, rfl⟩
    rw [← hs9] at cD
    have HRES := hide (show rdP b = if s9.e = 0 then ({ cm0 V with d := v1 }, 0) else (cm0 0, s9.e) by unfold rdP; rw [unhide HQ, hs9])
    have hle9 : s9.b.length ≤ q1.b.length := by rw [hs9]; exact waS_le _ _
    clear hs9 HQ
    refine (unhide cD).mono ?_
    rintro e w9 ⟨rfl, ho⟩
    have HR9 := hide ((unhide HRn).call ho hle9)
    clear ho cD HRn hle9
    have k1 := (unhide HR9).gx.c1
    by_cases he : s9.e = 0
    · have he' : (s9.e != 0) = false := by simpa using he
      rw [if_pos he] at HRES
      clear he
      generalize s9.e = E at *
      obtain ⟨xo, xn, xc, hst, hbs, hob⟩ := (unhide HR9).cx
      have HS7 := hide hst
      have HBS := hide hbs
      have HOB := hide hob
      have hlt9 := (unhide HR9).lt
      have HA9 := hide (unhide HR9).res
      have HB9 := hide (unhide HR9).bel
      clear hst hbs hob HR9
      go_wp2_with (first
        | (with_reducible show wpList Try.prog _ _ (Oper.mk _ (Op.load 28 _) _ _ _ none :: _) _ _; refine wpList_loadC rfl (.tmp 5) rfl w3.heap.size (Cm.cd ({ cm0 V with d := v1 }) xo xn xc) (by simp [Act.eval, Act.put]) (unhide HS7) ?_)
        | (with_reducible show wpList Try.prog _ _ (Oper.mk _ (Op.store 28 _ _) _ _ _ none :: _) _ _; refine wpList_storeC rfl (.tmp 2) (.tmp 92) rfl w.heap.size (Cm.cd ({ cm0 V with d := v1 }) xo xn xc) ((cm0 0).cd none 0 0) (by simp [Act.eval, Act.put]) (by simp [Act.eval, Act.put]) (unhide HA9) ?_; intro w10 h10 g10 z10; have H10 := hide h10; have G10 := hide g10; clear h10 g10))
      refine bodyPost_ret (results_row_tmp rfl _ _ w.heap.size _ rfl (run_loadVar_row _ w.heap.size _ _ _ _ _ (unhide H10) Try.underlying28 rfl (by kernel_rfl))) rfl ?_
      rw [unhide HRES]
      exact ⟨xo, xn, xc, rfl, (unhide HBS).keepB fun k hk hl => (unhide G10).block k hl (by have := unhide HOB k hk; omega), fun k hk => by have := unhide HOB k hk; omega, (unhide HB9).trans ((unhide G10).below (by have := (unhide HB9).size; omega))⟩
    · have he' : (s9.e != 0) = true := by simpa using he
      rw [if_neg he] at HRES
      clear he
      generalize s9.e = E at *
      have HA7 := hide (unhide HR9).res
      have HB7 := hide (unhide HR9).bel
      have u0 : w9.cell? ⟨w.heap.size, 0, none⟩ = some (.int .u8 0) := by rw [cell_of_row _ _ 0 _ _ _ (unhide HA7)]; rfl
      have u1 : w9.cell? ⟨w.heap.size, 1, none⟩ = some (.string ⟨#[]⟩) := by rw [cell_of_row _ _ 1 _ _ _ (unhide HA7)]; rfl
      have u2 : w9.cell? ⟨w.heap.size, 2, none⟩ = some (.int .u32 0) := by rw [cell_of_row _ _ 2 _ _ _ (unhide HA7)]; rfl
      have u3 : w9.cell? ⟨w.heap.size, 3, none⟩ = some (.int .u16 0) := by rw [cell_of_row _ _ 3 _ _ _ (unhide HA7)]; rfl
      have u4 : w9.cell? ⟨w.heap.size, 4, none⟩ = some (.int .u8 0) := by rw [cell_of_row _ _ 4 _ _ _ (unhide HA7)]; rfl
      have u5 : w9.cell? ⟨w.heap.size, 5, none⟩ = some (.int .u32 0) := by rw [cell_of_row _ _ 5 _ _ _ (unhide HA7)]; rfl
      have u6 : w9.cell? ⟨w.heap.size, 6, none⟩ = some (.int .u16 0) := by rw [cell_of_row _ _ 6 _ _ _ (unhide HA7)]; rfl
      have u7 : w9.cell? ⟨w.heap.size, 7, none⟩ = some (.slice none 0 0) := by rw [cell_of_row _ _ 7 _ _ _ (unhide HA7)]; rfl
      have uf : ∀ i, w9.frozen? ⟨w.heap.size, i, none⟩ = false := fun i => frozen_of_row w9 w.heap.size i _ _ (unhide HA7)
      have uf0 := uf 0
      have uf1 := uf 1
      have uf2 := uf 2
      have uf3 := uf 3
      have uf4 := uf 4
      have uf5 := uf 5
      have uf6 := uf 6
      have uf7 := uf 7
      clear uf
      go_wp2_with fail
      go_region
      go_wp2_with fail
      refine bodyPost_ret (results_row_tmp rfl _ _ w.heap.size _ rfl (run_loadVar_row _ w.heap.size _ _ _ _ _ (show _ = some (Obj.cells #[.int .u8 0, .string ⟨#[]⟩, .int .u32 0, .int .u16 0, .int .u8 0, .int .u32 0, .int .u16 0, .slice none 0 0] 28 (0, 0)) from (drew_row (heap_setCell_same _ w.heap.size 7 _ _ _ (heap_setCell_same _ w.heap.size 6 _ _ _ (heap_setCell_same _ w.heap.size 5 _ _ _ (heap_setCell_same _ w.heap.size 4 _ _ _ (heap_setCell_same _ w.heap.size 3 _ _ _ (heap_setCell_same _ w.heap.size 2 _ _ _ (heap_setCell_same _ w.heap.size 1 _ _ _ (heap_setCell_same _ w.heap.size 0 _ _ _ (unhide HA7))))))))))) Try.underlying28 rfl (by kernel_rfl))) rfl ?_
      rw [unhide HRES]
      exact ⟨none, 0, 0, rfl, Bs.nought _, fun k hk => absurd hk ob_none, (((((((((unhide HB7).setCell (Nat.le_refl _) _).setCell (Nat.le_refl _) _).setCell (Nat.le_refl _) _).setCell (Nat.le_refl _) _).setCell (Nat.le_refl _) _).setCell (Nat.le_refl _) _).setCell (Nat.le_refl _) _).setCell (Nat.le_refl _) _).drew⟩

end Go.Proofs.Ytpidlfifipgadaa
