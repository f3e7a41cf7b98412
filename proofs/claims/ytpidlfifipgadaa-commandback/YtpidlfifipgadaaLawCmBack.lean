/-
  CommandBack: a command that is written is read back, and bytes that are read as a command are written as they were. Conditions: those of the statement.
-/
import Derived.Test.YtpidlfifipgadaaCmLib
namespace Go.Proofs.Ytpidlfifipgadaa
open Go.RowKit
set_option linter.unusedVariables false
set_option linter.unusedSimpArgs false

theorem row8 {w : World} {g : Nat} {D : Cd} (h : w.heap[g]? = some (.cells D.row 28 (0, 0))) :
    w.cell? ⟨g, 0, none⟩ = some (.int .u8 D.k) ∧ w.cell? ⟨g, 1, none⟩ = some (.string D.t) ∧ w.cell? ⟨g, 2, none⟩ = some (.int .u32 D.s) ∧ w.cell? ⟨g, 3, none⟩ = some (.int .u16 D.p) ∧ w.cell? ⟨g, 4, none⟩ = some (.int .u8 D.f) ∧ w.cell? ⟨g, 5, none⟩ = some (.int .u32 D.n) ∧ w.cell? ⟨g, 6, none⟩ = some (.int .u16 D.o) ∧ w.cell? ⟨g, 7, none⟩ = some (.slice D.ao D.dn D.dc) := by
  refine ⟨?_, ?_, ?_, ?_, ?_, ?_, ?_, ?_⟩ <;> (rw [cell_of_row w g _ _ _ _ h]; rfl)

set_option maxHeartbeats 4000000 in
set_option maxRecDepth 100000 in
theorem lawCmBack (c : Cm) (xo : Option Addr) (xn xc : Nat) (bo : Option Addr) (bn bc : Nat) (b : List Int) (w : World) (hc : c.ok) (hd : Bs w xo xn xc c.d) (hb : Bs w bo bn bc b) :
    Calls Try.prog 4 #[.agg (c.cd xo xn xc).row, .slice bo bn bc] w fun e w' => e = .returned (.bool true) ∧ Below w.heap.size w w' := by
  have b0 := below_alloc w (.cells (c.cd xo xn xc).row 28)
  have h0 := heap_alloc_new w (.cells (c.cd xo xn xc).row 28)
  have z0 : (w.alloc (.cells (c.cd xo xn xc).row 28)).heap.size = w.heap.size + 1 := by simp
  have hbx : ∀ wx : World, (Instr.box 28 (.agg (c.cd xo xn xc).row)).run Try.prog wx = .ok (.pointer (some ⟨wx.heap.size, 0, none⟩)) (wx.alloc (.cells (c.cd xo xn xc).row 28)) := by intro wx; rfl
  have hdl := hd.len
  have hbl := hb.len
  have hbmx := hb.max
  have hble := hb.le
  have HAG := hide (cm_again hb.byt)
  have HZ := hide (show (rdP b).2 ≠ 0 → (rdP b).1 = cm0 0 by
    intro q
    unfold rdP at q ⊢
    by_cases z : (edS (rdQ b).1).e = 0
    · rw [if_pos z] at q; exact absurd rfl q
    · rw [if_neg z])
  obtain ⟨c2, er, hr⟩ : ∃ c2 er, rdP b = (c2, er) := ⟨_, _, rfl⟩
  rw [hr] at HAG HZ
  have HRB := hide hr
  have HZ0 := hide (show er ≠ 0 → c2 = cm0 0 from unhide HZ)
  have HBB := hide hb
  have HDD := hide hd
  have HC := hide hc
  have H0 := hide h0
  have B0 := hide b0
  clear hb hd hc h0 b0 hr HZ
  go_enter Try.func4, Try.ntmps4
  go_wp2_with fail
  refine (cmLives_any _).mono ?_
  rintro e w1 ⟨rfl, b1⟩
  rw [z0] at b1
  have H1 := hide ((b1.block w.heap.size (by omega)).trans (unhide H0))
  have HBw1 := hide ((unhide B0).trans (b1.mono (by omega)))
  clear b1
  by_cases hbig : (bn : Int) > 3000
  · go_wp2_with fail
    go_ret
    exact ⟨rfl, unhide HBw1⟩
  · have cM := hide (small_any (c.cd xo xn xc) w1)
    obtain ⟨u0, u1, u2, u3, u4, u5, u6, u7⟩ := row8 (unhide H1)
    by_cases hs : c.t.size ≤ 3000 ∧ xn ≤ 3000
    · rw [show (decide ((c.cd xo xn xc).t.size ≤ 3000) && decide ((c.cd xo xn xc).dn ≤ 3000)) = true by simp [Cm.cd, hs.1, hs.2]] at cM
      go_wp2_with fail
      refine (unhide cM).mono ?_
      rintro e w2 ⟨rfl, b2⟩
      have H2 := hide ((b2.block w.heap.size (Array.getElem?_eq_some_iff.1 (unhide H1)).1).trans (unhide H1))
      have HBw2 := hide ((unhide HBw1).trans (b2.mono (unhide HBw1).size))
      have cP := hide (cmAppend_any none 0 0 [] c xo xn xc w2 (Bs.nought _) (unhide HC) ((unhide HDD).later (unhide HBw2)) (by omega))
      clear b2 cM u0 u1 u2 u3 u4 u5 u6 u7 HBw1
      rcases ckC_two (c.cd xo xn xc) with q | q
      · rw [if_pos q, List.nil_append] at cP
        have hnf := (ck_iff c xo xn xc hdl).1 q
        have HBK := hide (cm_back (unhide HC) hnf)
        clear hnf
        go_wp2_with (with_reducible show wpList Try.prog _ _ (Oper.mk _ (Op.load 28 _) _ _ _ none :: _) _ _; refine wpList_loadC rfl (.tmp 2) rfl w.heap.size (c.cd xo xn xc) (by simp [Act.eval, Act.put]) (unhide H2) ?_)
        refine (unhide cP).mono ?_
        rintro e w3 ⟨ro, rn, rc, rfl, m3, b3⟩
        have H3 := hide ((b3.block w.heap.size (Array.getElem?_eq_some_iff.1 (unhide H2)).1).trans (unhide H2))
        have HBw3 := hide ((unhide HBw2).trans (b3.mono (unhide HBw2).size))
        have M3 := hide m3.bs
        have cK := hide (cmCheck_any (c.cd xo xn xc) w3)
        rw [q] at cK
        clear m3 b3 cP
        go_wp2_with (with_reducible show wpList Try.prog _ _ (Oper.mk _ (Op.load 28 _) _ _ _ none :: _) _ _; refine wpList_loadC rfl (.tmp 2) rfl w.heap.size (c.cd xo xn xc) (by simp [Act.eval, Act.put]) (unhide H3) ?_)
        refine (unhide cK).mono ?_
        rintro e w4 ⟨rfl, b4⟩
        have H4 := hide ((b4.block w.heap.size (Array.getElem?_eq_some_iff.1 (unhide H3)).1).trans (unhide H3))
        have HBw4 := hide ((unhide HBw3).trans (b4.mono (unhide HBw3).size))
        have m4 := (unhide M3).later b4
        have hml := m4.len
        have hcl := flat_len c (fl c.k)
        have hfl := fl_len c.k
        have hcb : (cmB c).length ≤ 1 + 4 * (c.t.size + c.d.length + 4) := by
          unfold cmB
          rw [List.length_cons]
          have := Nat.mul_le_mul_right (c.t.size + c.d.length + 4) hfl
          omega
        have cR := hide (cmRead_any ro rn rc (cmB c) w4 m4 (by omega))
        rw [unhide HBK] at cR
        clear b4 cK m4 hml hcl hcb hfl
        go_wp2_with fail
        refine (unhide cR).mono ?_
        rintro e w5 ⟨yo, yn, yc, rfl, hb5, ho5, b5⟩
        have z6 := below_alloc w5 (.cells (c.cd yo yn yc).row 28)
        have b6 := b5.trans (z6.mono b5.size)
        have H6 := hide ((b6.block w.heap.size (Array.getElem?_eq_some_iff.1 (unhide H4)).1).trans (unhide H4))
        have H6' := hide (heap_alloc_new w5 (.cells (c.cd yo yn yc).row 28))
        have HB6 := hide ((unhide HBw4).trans (b6.mono (unhide HBw4).size))
        have cS := hide (sameCommand_eq c xo xn xc yo yn yc _ ((unhide HDD).later (unhide HB6)) (hb5.later z6))
        clear hb5 ho5 b5 z6 b6 cR
        go_wp2_with (first | (with_reducible show wpList Try.prog _ _ (Oper.mk _ (Op.store 28 _ _) _ _ _ none :: _) _ _; refine wpList_storeN rfl (.tmp 7) (.tmp 37) rfl (c.cd yo yn yc) (by simp [Act.eval, Act.put]) (by simp [Act.eval, Act.put]) rfl ?_) | (with_reducible show wpList Try.prog _ _ (Oper.mk _ (Op.load 28 _) _ _ _ none :: _) _ _; refine wpList_loadC rfl (.tmp 2) rfl w.heap.size (c.cd xo xn xc) (by simp [Act.eval, Act.put]) (unhide H6) ?_) | (with_reducible show wpList Try.prog _ _ (Oper.mk _ (Op.load 28 _) _ _ _ none :: _) _ _; refine wpList_loadC rfl (.tmp 7) rfl w5.heap.size (c.cd yo yn yc) (by simp [Act.eval, Act.put]) (unhide H6') ?_))
        refine (unhide cS).mono ?_
        rintro e w7 ⟨rfl, b7⟩
        have HBw7 := hide ((unhide HB6).trans (b7.mono (unhide HB6).size))
        clear b7 cS HB6 H6 H6' HBw2 HBw3 HBw4 H2 H3 H4 M3
        have cR := hide (cmRead_any bo bn bc b w7 ((unhide HBB).later (unhide HBw7)) (by omega))
        rw [unhide HRB] at cR
        by_cases he : er = 0
        · subst he
          obtain ⟨a1, a2, a3, a4, a5⟩ := unhide HAG rfl
          have A1 := hide a1
          have A2 := hide a2
          have A3 := hide a3
          clear a1 a2 a3
          go_wp2_with fail
          refine (unhide cR).mono ?_
          rintro e w8 ⟨yo, yn, yc, rfl, hb8, ho8, b8⟩
          have z9 := below_alloc w8 (.cells (c2.cd yo yn yc).row 28)
          have H9 := hide (heap_alloc_new w8 (.cells (c2.cd yo yn yc).row 28))
          have B9 := hide ((unhide HBw7).trans ((b8.trans (z9.mono b8.size)).mono (unhide HBw7).size))
          have hyl := hb8.len
          simp only at hyl
          have cP := hide (cmAppend_any none 0 0 [] c2 yo yn yc _ (Bs.nought _) (unhide A3) (hb8.later z9) (by omega))
          rw [ckE (c := c2) (hb8.later z9) (unhide A2), if_pos rfl, List.nil_append, unhide A1] at cP
          clear hb8 ho8 b8 z9 cR
          go_wp2_with (first | (with_reducible show wpList Try.prog _ _ (Oper.mk _ (Op.store 28 _ _) _ _ _ none :: _) _ _; refine wpList_storeN rfl (.tmp 9) (.tmp 50) rfl (c2.cd yo yn yc) (by simp [Act.eval, Act.put]) (by simp [Act.eval, Act.put]) rfl ?_) | (with_reducible show wpList Try.prog _ _ (Oper.mk _ (Op.load 28 _) _ _ _ none :: _) _ _; refine wpList_loadC rfl (.tmp 9) rfl w8.heap.size (c2.cd yo yn yc) (by simp [Act.eval, Act.put]) (unhide H9) ?_))
          refine (unhide cP).mono ?_
          rintro e w10 ⟨ro, rn, rc, rfl, m10, b10⟩
          have B10 := hide ((unhide B9).trans (b10.mono (unhide B9).size))
          have cS := hide (same_self bo bn bc ro rn rc b w10 m10.bs ((unhide HBB).later (unhide B10)))
          clear m10 b10 cP
          go_wp2_with (go_at_call 14; refine same_world (unhide cS) ?_)
          go_ret
          exact ⟨rfl, unhide B10⟩
        · have he' : (er != 0) = true := by simpa using he
          have hz := unhide HZ0 he
          subst hz
          clear he
          go_wp2_with fail
          refine (unhide cR).mono ?_
          rintro e w8 ⟨yo, yn, yc, rfl, hb8, ho8, b8⟩
          have z9 := below_alloc w8 (.cells ((cm0 0).cd yo yn yc).row 28)
          have H9 := hide (heap_alloc_new w8 (.cells ((cm0 0).cd yo yn yc).row 28))
          have B9 := hide ((unhide HBw7).trans ((b8.trans (z9.mono b8.size)).mono (unhide HBw7).size))
          have cS := hide (sameCommand_eq (cm0 0) yo yn yc none 0 0 _ (hb8.later z9) (Bs.nought _))
          clear hb8 ho8 b8 z9 cR
          go_wp2_with (first | (with_reducible show wpList Try.prog _ _ (Oper.mk _ (Op.store 28 _ _) _ _ _ none :: _) _ _; refine wpList_storeN rfl (.tmp 9) (.tmp 50) rfl ((cm0 0).cd yo yn yc) (by simp [Act.eval, Act.put]) (by simp [Act.eval, Act.put]) rfl ?_) | (with_reducible show wpList Try.prog _ _ (Oper.mk _ (Op.load 28 _) _ _ _ none :: _) _ _; refine wpList_loadC rfl (.tmp 9) rfl w8.heap.size ((cm0 0).cd yo yn yc) (by simp [Act.eval, Act.put]) (unhide H9) ?_))
          refine (unhide cS).mono ?_
          rintro e w10 ⟨rfl, b10⟩
          have B10 := hide ((unhide B9).trans (b10.mono (unhide B9).size))
          clear b10 cS
          go_wp2_with fail
          go_ret
          exact ⟨rfl, unhide B10⟩
      · rw [if_neg (by omega)] at cP
        go_wp2_with (with_reducible show wpList Try.prog _ _ (Oper.mk _ (Op.load 28 _) _ _ _ none :: _) _ _; refine wpList_loadC rfl (.tmp 2) rfl w.heap.size (c.cd xo xn xc) (by simp [Act.eval, Act.put]) (unhide H2) ?_)
        refine (unhide cP).mono ?_
        rintro e w3 ⟨rfl, b3⟩
        have H3 := hide ((b3.block w.heap.size (Array.getElem?_eq_some_iff.1 (unhide H2)).1).trans (unhide H2))
        have HBw3 := hide ((unhide HBw2).trans (b3.mono (unhide HBw2).size))
        have cK := hide (cmCheck_any (c.cd xo xn xc) w3)
        rw [q] at cK
        clear b3 cP
        go_wp2_with (with_reducible show wpList Try.prog _ _ (Oper.mk _ (Op.load 28 _) _ _ _ none :: _) _ _; refine wpList_loadC rfl (.tmp 2) rfl w.heap.size (c.cd xo xn xc) (by simp [Act.eval, Act.put]) (unhide H3) ?_)
        refine (unhide cK).mono ?_
        rintro e w4 ⟨rfl, b4⟩
        have HBw4 := hide ((unhide HBw3).trans (b4.mono (unhide HBw3).size))
        clear b4 cK HBw2 HBw3 H2 H3
        have cR := hide (cmRead_any bo bn bc b w4 ((unhide HBB).later (unhide HBw4)) (by omega))
        rw [unhide HRB] at cR
        by_cases he : er = 0
        · subst he
          obtain ⟨a1, a2, a3, a4, a5⟩ := unhide HAG rfl
          have A1 := hide a1
          have A2 := hide a2
          have A3 := hide a3
          clear a1 a2 a3
          go_wp2_with fail
          refine (unhide cR).mono ?_
          rintro e w8 ⟨yo, yn, yc, rfl, hb8, ho8, b8⟩
          have z9 := below_alloc w8 (.cells (c2.cd yo yn yc).row 28)
          have H9 := hide (heap_alloc_new w8 (.cells (c2.cd yo yn yc).row 28))
          have B9 := hide ((unhide HBw4).trans ((b8.trans (z9.mono b8.size)).mono (unhide HBw4).size))
          have hyl := hb8.len
          simp only at hyl
          have cP := hide (cmAppend_any none 0 0 [] c2 yo yn yc _ (Bs.nought _) (unhide A3) (hb8.later z9) (by omega))
          rw [ckE (c := c2) (hb8.later z9) (unhide A2), if_pos rfl, List.nil_append, unhide A1] at cP
          clear hb8 ho8 b8 z9 cR
          go_wp2_with (first | (with_reducible show wpList Try.prog _ _ (Oper.mk _ (Op.store 28 _ _) _ _ _ none :: _) _ _; refine wpList_storeN rfl (.tmp 9) (.tmp 50) rfl (c2.cd yo yn yc) (by simp [Act.eval, Act.put]) (by simp [Act.eval, Act.put]) rfl ?_) | (with_reducible show wpList Try.prog _ _ (Oper.mk _ (Op.load 28 _) _ _ _ none :: _) _ _; refine wpList_loadC rfl (.tmp 9) rfl w8.heap.size (c2.cd yo yn yc) (by simp [Act.eval, Act.put]) (unhide H9) ?_))
          refine (unhide cP).mono ?_
          rintro e w10 ⟨ro, rn, rc, rfl, m10, b10⟩
          have B10 := hide ((unhide B9).trans (b10.mono (unhide B9).size))
          have cS := hide (same_self bo bn bc ro rn rc b w10 m10.bs ((unhide HBB).later (unhide B10)))
          clear m10 b10 cP
          go_wp2_with (go_at_call 14; refine same_world (unhide cS) ?_)
          go_ret
          exact ⟨rfl, unhide B10⟩
        · have he' : (er != 0) = true := by simpa using he
          have hz := unhide HZ0 he
          subst hz
          clear he
          go_wp2_with fail
          refine (unhide cR).mono ?_
          rintro e w8 ⟨yo, yn, yc, rfl, hb8, ho8, b8⟩
          have z9 := below_alloc w8 (.cells ((cm0 0).cd yo yn yc).row 28)
          have H9 := hide (heap_alloc_new w8 (.cells ((cm0 0).cd yo yn yc).row 28))
          have B9 := hide ((unhide HBw4).trans ((b8.trans (z9.mono b8.size)).mono (unhide HBw4).size))
          have cS := hide (sameCommand_eq (cm0 0) yo yn yc none 0 0 _ (hb8.later z9) (Bs.nought _))
          clear hb8 ho8 b8 z9 cR
          go_wp2_with (first | (with_reducible show wpList Try.prog _ _ (Oper.mk _ (Op.store 28 _ _) _ _ _ none :: _) _ _; refine wpList_storeN rfl (.tmp 9) (.tmp 50) rfl ((cm0 0).cd yo yn yc) (by simp [Act.eval, Act.put]) (by simp [Act.eval, Act.put]) rfl ?_) | (with_reducible show wpList Try.prog _ _ (Oper.mk _ (Op.load 28 _) _ _ _ none :: _) _ _; refine wpList_loadC rfl (.tmp 9) rfl w8.heap.size ((cm0 0).cd yo yn yc) (by simp [Act.eval, Act.put]) (unhide H9) ?_))
          refine (unhide cS).mono ?_
          rintro e w10 ⟨rfl, b10⟩
          have B10 := hide ((unhide B9).trans (b10.mono (unhide B9).size))
          clear b10 cS
          go_wp2_with fail
          go_ret
          exact ⟨rfl, unhide B10⟩
    · rw [show (decide ((c.cd xo xn xc).t.size ≤ 3000) && decide ((c.cd xo xn xc).dn ≤ 3000)) = false by show (decide (c.t.size ≤ 3000) && decide (xn ≤ 3000)) = false; rw [← Bool.decide_and]; exact decide_eq_false hs] at cM
      go_wp2_with fail
      refine (unhide cM).mono ?_
      rintro e w2 ⟨rfl, b2⟩
      have HBw2 := hide ((unhide HBw1).trans (b2.mono (unhide HBw1).size))
      clear b2 cM
      go_wp2_with fail
      go_ret
      exact ⟨rfl, unhide HBw2⟩

end Go.Proofs.Ytpidlfifipgadaa
