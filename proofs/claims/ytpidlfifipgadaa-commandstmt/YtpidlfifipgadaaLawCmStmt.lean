/-
  CommandStmt: another statement's id changes a command's bytes in the four of the id alone, and the old one brings them back. Conditions: those of the statement.
-/
import Derived.Test.YtpidlfifipgadaaCmLib
import Derived.BigQuiet
namespace Go.Proofs.Ytpidlfifipgadaa
open Go.RowKit
set_option linter.unusedVariables false
set_option linter.unusedSimpArgs false

/-- Where the id stands. -/
theorem stm_at {c : Cm} (h : abt c.k = true) : ∃ T : List Int, ∀ id, cmB { c with s := id } = c.k :: (le id 4 ++ T) := by
  unfold abt at h
  simp only [Bool.or_eq_true, beq_iff_eq] at h
  rcases h with h | h | h | h | h
  · have e : fl c.k = [1, 3, 4, 7] := by rw [h]; rfl
    refine ⟨[3, 4, 7].flatMap (fb c), fun id => ?_⟩
    show c.k :: (fl c.k).flatMap (fb { c with s := id }) = _
    rw [e]
    rfl
  · have e : fl c.k = [1, 2, 7] := by rw [h]; rfl
    refine ⟨[2, 7].flatMap (fb c), fun id => ?_⟩
    show c.k :: (fl c.k).flatMap (fb { c with s := id }) = _
    rw [e]
    rfl
  · have e : fl c.k = [1] := by rw [h]; rfl
    refine ⟨[], fun id => ?_⟩
    show c.k :: (fl c.k).flatMap (fb { c with s := id }) = _
    rw [e]
    rfl
  · have e : fl c.k = [1] := by rw [h]; rfl
    refine ⟨[], fun id => ?_⟩
    show c.k :: (fl c.k).flatMap (fb { c with s := id }) = _
    rw [e]
    rfl
  · have e : fl c.k = [1, 5] := by rw [h]; rfl
    refine ⟨[5].flatMap (fb c), fun id => ?_⟩
    show c.k :: (fl c.k).flatMap (fb { c with s := id }) = _
    rw [e]
    rfl
/-- The bytes are the same but for those four. -/
theorem stm_same {c : Cm} (h : abt c.k = true) (id : Int) : (cmB { c with s := id }).length = (cmB c).length ∧ ∀ i, (i < 1 ∨ 4 < i) → (cmB { c with s := id })[i]?.getD 0 = (cmB c)[i]?.getD 0 := by
  obtain ⟨T, hT⟩ := stm_at h
  have h1 := hT id
  have h2 : cmB c = c.k :: (le c.s 4 ++ T) := hT c.s
  rw [h1, h2]
  refine ⟨by simp [le_length], fun i hi => ?_⟩
  rcases hi with hi | hi
  · have : i = 0 := by omega
    subst this
    rfl
  · obtain ⟨j, rfl⟩ : ∃ j, i = j + 1 := ⟨i - 1, by omega⟩
    rw [List.getElem?_cons_succ, List.getElem?_cons_succ, List.getElem?_append_right (by rw [le_length]; omega), List.getElem?_append_right (by rw [le_length]; omega), le_length, le_length]

set_option maxHeartbeats 4000000 in
set_option maxRecDepth 100000 in
theorem lawCmStmt (bo : Option Addr) (bn bc : Nat) (b : List Int) (id : Int) (w : World) (hb : Bs w bo bn bc b) (hi : 0 ≤ id ∧ id < 4294967296) :
    Calls Try.prog 5 #[.slice bo bn bc, .int .u32 id] w fun e w' => e = .returned (.bool true) ∧ Below w.heap.size w w' := by
  have hbl := hb.len
  have hbmx := hb.max
  have hble := hb.le
  have HAG := hide (cm_again hb.byt)
  obtain ⟨c, er, hr⟩ : ∃ c er, rdP b = (c, er) := ⟨_, _, rfl⟩
  have HWS := hide (show wsP b id = if (rdP b).2 ≠ 0 then (none, (rdP b).2) else if abt (rdP b).1.k = false then (none, 2) else (some (cmB { (rdP b).1 with s := id }), 0) from rfl)
  rw [hr] at HAG HWS
  simp only at HAG HWS
  have HRB := hide hr
  have HBB := hide hb
  clear hb hr
  go_enter Try.func5, Try.ntmps5
  go_wp2_with fail
  refine (cmLives_any _).mono ?_
  rintro e w1 ⟨rfl, b1⟩
  have HBw1 := hide b1
  clear b1
  by_cases hbig : (bn : Int) > 3000
  · go_wp2_with fail
    go_ret
    exact ⟨rfl, unhide HBw1⟩
  · have cR := hide (cmRead_any bo bn bc b w1 ((unhide HBB).later (unhide HBw1)) (by omega))
    rw [unhide HRB] at cR
    go_wp2_with fail
    refine (unhide cR).mono ?_
    rintro e w2 ⟨xo, xn, xc, rfl, hb2, ho2, b2⟩
    have z2 := below_alloc w2 (.cells (c.cd xo xn xc).row 28)
    have H3 := hide (heap_alloc_new w2 (.cells (c.cd xo xn xc).row 28))
    have HB3 := hide ((unhide HBw1).trans ((b2.trans (z2.mono b2.size)).mono (unhide HBw1).size))
    have z3 : (w2.alloc (.cells (c.cd xo xn xc).row 28)).heap.size = w2.heap.size + 1 := by simp
    have cW := hide (cmWith_any bo bn bc b id _ ((unhide HBB).later (unhide HB3)) (by omega) hi)
    rw [unhide HWS] at cW
    have cA := hide (fun wx => about_any c.k wx)
    clear hb2 ho2 b2 z2 cR
    by_cases he : er = 0
    · subst he
      rw [if_neg (by simp)] at cW
      cases qa : abt c.k
      · rw [qa] at cA
        rw [qa, if_pos rfl] at cW
        go_wp2_with (with_reducible show wpList Try.prog _ _ (Oper.mk _ (Op.store 28 _ _) _ _ _ none :: _) _ _; refine wpList_storeN rfl (.tmp 5) (.tmp 22) rfl (c.cd xo xn xc) (by simp [Act.eval, Act.put]) (by simp [Act.eval, Act.put]) rfl ?_)
        refine (unhide cW).mono ?_
        rintro e w4 ⟨rfl, b4⟩
        have H4 := hide ((b4.block w2.heap.size (by rw [z3]; omega)).trans (unhide H3))
        have k0 : w4.cell? ⟨w2.heap.size, 0, none⟩ = some (.int .u8 c.k) := by rw [cell_of_row _ _ 0 _ _ _ (unhide H4)]; rfl
        have HB4 := hide ((unhide HB3).trans (b4.mono (unhide HB3).size))
        clear b4 cW
        go_wp2_with (go_at_call 19; refine same_world (unhide cA _) ?_)
        go_ret
        exact ⟨rfl, unhide HB4⟩
      · rw [qa] at cA
        rw [qa, if_neg (by simp)] at cW
        obtain ⟨a1, a2, a3, a4, a5⟩ := unhide HAG rfl
        have st := stm_same qa id
        have hbk := cm_back (c := { c with s := id }) ⟨a3.k, hi, a3.p, a3.f, a3.n, a3.o, a3.d⟩ (nf_with a2 qa)
        have hws : wsP (cmB { c with s := id }) c.s = (some b, 0) := by
          unfold wsP
          rw [hbk]
          simp only
          rw [if_neg (by simp), qa, if_neg (by simp)]
          rw [← a1]
        have hs3 := a3.s
        rw [a1] at st
        obtain ⟨X, hX⟩ : ∃ X, X = cmB { c with s := id } := ⟨_, rfl⟩
        rw [← hX] at st hbk hws cW
        have HST := hide st.2
        have hXl := st.1
        have HBK := hide hbk
        have HW2 := hide hws
        clear a1 a2 a3 a4 a5 st hbk hws hX HAG
        go_wp2_with (with_reducible show wpList Try.prog _ _ (Oper.mk _ (Op.store 28 _ _) _ _ _ none :: _) _ _; refine wpList_storeN rfl (.tmp 5) (.tmp 22) rfl (c.cd xo xn xc) (by simp [Act.eval, Act.put]) (by simp [Act.eval, Act.put]) rfl ?_)
        refine (unhide cW).mono ?_
        rintro e w4 ⟨ro, rn, rc, rfl, m4, b4⟩
        have H4 := hide ((b4.block w2.heap.size (by rw [z3]; omega)).trans (unhide H3))
        have k0 : w4.cell? ⟨w2.heap.size, 0, none⟩ = some (.int .u8 c.k) := by rw [cell_of_row _ _ 0 _ _ _ (unhide H4)]; rfl
        have HB4 := hide ((unhide HB3).trans (b4.mono (unhide HB3).size))
        have hrn := m4.len
        have hw4 := (Array.getElem?_eq_some_iff.1 (unhide H4)).1
        have cR := hide (cmRead_any ro rn rc X w4 m4.bs (by omega))
        rw [unhide HBK] at cR
        have M4 := hide m4.bs
        clear b4 cW m4
        go_wp2_with (go_at_call 19; refine same_world (unhide cA _) ?_)
        refine (unhide cR).mono ?_
        rintro e w5 ⟨yo, yn, yc, rfl, hb5, ho5, b5⟩
        have z6 := below_alloc w5 (.cells (({ c with s := id } : Cm).cd yo yn yc).row 28)
        have b6 := b5.trans (z6.mono b5.size)
        have H6 := hide ((b6.block w2.heap.size hw4).trans (unhide H4))
        have H6' := hide (heap_alloc_new w5 (.cells (({ c with s := id } : Cm).cd yo yn yc).row 28))
        have HB6 := hide ((unhide HB4).trans (b6.mono (unhide HB4).size))
        have M6 := hide ((unhide M4).later b6)
        have z6' : (w5.alloc (.cells (({ c with s := id } : Cm).cd yo yn yc).row 28)).heap.size = w5.heap.size + 1 := by simp
        have k2 : (w5.alloc (.cells (({ c with s := id } : Cm).cd yo yn yc).row 28)).cell? ⟨w2.heap.size, 2, none⟩ = some (.int .u32 c.s) := by rw [cell_of_row _ _ 2 _ _ _ (unhide H6)]; rfl
        have cV := hide (cmWith_any ro rn rc X c.s _ (unhide M6) (by omega) hs3)
        rw [unhide HW2] at cV
        clear hb5 ho5 b5 z6 b6 cR k0
        go_wp2_with (with_reducible show wpList Try.prog _ _ (Oper.mk _ (Op.store 28 _ _) _ _ _ none :: _) _ _; refine wpList_storeN rfl (.tmp 9) (.tmp 48) rfl (({ c with s := id } : Cm).cd yo yn yc) (by simp [Act.eval, Act.put]) (by simp [Act.eval, Act.put]) rfl ?_)
        refine (unhide cV).mono ?_
        rintro e w7 ⟨so, sn, sc, rfl, m7, b7⟩
        have H7 := hide ((b7.block w5.heap.size (by rw [z6']; omega)).trans (unhide H6'))
        have HB7 := hide ((unhide HB6).trans (b7.mono (unhide HB6).size))
        have M7 := hide ((unhide M6).later b7)
        have k7 : w7.cell? ⟨w5.heap.size, 2, none⟩ = some (.int .u32 id) := by rw [cell_of_row _ _ 2 _ _ _ (unhide H7)]; rfl
        have HBB7 := hide ((unhide HBB).later (unhide HB7))
        have cS := hide (same_self bo bn bc so sn sc b w7 m7.bs (unhide HBB7))
        have hrn' : rn = bn := by omega
        subst hrn'
        clear b7 cV m7 k2
        go_wp2_with (go_at_call 14; refine same_world (unhide cS) ?_)
        go_loopw [13] (fun i wr => ∃ (j q : Nat), j ≤ rn ∧ i = .int .i64 (j : Int) ∧ wr = w7.drewN q) (fun i _ => rn - (intOf i).toNat)
        case atStart => exact ⟨0, 0, by omega, rfl, rfl⟩
        case round =>
          obtain ⟨j, q, hj, rfl, rfl⟩ := hrel
          by_cases hlt : j < rn
          · obtain ⟨p0, o0, i0, d0⟩ := (unhide M7).idx hlt (j : Int) rfl
            obtain ⟨p1, o1, i1, d1⟩ := (unhide HBB7).idx hlt (j : Int) rfl
            by_cases hj1 : j < 1
            · have hj1' : (j : Int) < 1 := by omega
              rw [unhide HST j (.inl hj1)] at d0
              generalize b[j]?.getD 0 = y at *
              go_wp2_with fail
              go_quiet (fail)
              go_wp2_with fail
              go_roundw
              case rel => exact ⟨j + 1, _, by omega, by go_num, (by first | rfl | exact World.drewN_drewN _ _ _)⟩
              case measure => simp [intOf]; omega
            · have hj1' : ¬ (j : Int) < 1 := by omega
              by_cases hj4 : 4 < j
              · have hj4' : (j : Int) > 4 := by omega
                rw [unhide HST j (.inr hj4)] at d0
                generalize b[j]?.getD 0 = y at *
                go_wp2_with fail
                go_quiet (fail)
                go_wp2_with fail
                go_roundw
                case rel => exact ⟨j + 1, _, by omega, by go_num, (by first | rfl | exact World.drewN_drewN _ _ _)⟩
                case measure => simp [intOf]; omega
              · have hj4' : ¬ (j : Int) > 4 := by omega
                have g1 : decide ((j : Int) < 1) = false := decide_eq_false hj1'
                have g2 : decide ((4 : Int) < (j : Int)) = false := decide_eq_false (by omega)
                have g3 : decide (j < 1) = false := decide_eq_false hj1
                have g4 : decide (4 < j) = false := decide_eq_false hj4
                go_wp2_with fail
                go_quiet (fail)
                go_wp2_with fail
                go_roundw
                case rel => exact ⟨j + 1, _, by omega, by go_num, (by first | rfl | exact World.drewN_drewN _ _ _)⟩
                case measure => simp [intOf]; omega
          · have hjn : j = rn := by omega
            subst hjn
            go_wp2_with fail
            go_ret
            exact ⟨rfl, (unhide HB7).trans ((drN_below w7 q).mono (unhide HB7).size)⟩
    · have he' : (er != 0) = true := by simpa using he
      rw [if_pos he] at cW
      clear he
      go_wp2_with (with_reducible show wpList Try.prog _ _ (Oper.mk _ (Op.store 28 _ _) _ _ _ none :: _) _ _; refine wpList_storeN rfl (.tmp 5) (.tmp 22) rfl (c.cd xo xn xc) (by simp [Act.eval, Act.put]) (by simp [Act.eval, Act.put]) rfl ?_)
      refine (unhide cW).mono ?_
      rintro e w4 ⟨rfl, b4⟩
      have HB4 := hide ((unhide HB3).trans (b4.mono (unhide HB3).size))
      clear b4 cW
      go_wp2_with fail
      go_ret
      exact ⟨rfl, unhide HB4⟩

end Go.Proofs.Ytpidlfifipgadaa
