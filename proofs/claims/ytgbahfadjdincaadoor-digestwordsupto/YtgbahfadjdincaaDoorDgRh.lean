/-
  What the document's own functions lists, rest and Words of layer 21 return. Conditions: the slices can be read; at most 100,000 words.
-/
import Derived.Test.YtgbahfadjdincaaDoorDgRg
import Derived.Test.YtgbahfadjdincaaDoorDgPb
namespace Go.Proofs.YtgbahfadjdincaaDoor
open Go.RowKit
set_option linter.unusedVariables false
set_option linter.unusedSimpArgs false

theorem run_cutW_lh (ao : Option Addr) (n c lo hi : Nat) (h1 : lo ≤ hi) (h2 : hi ≤ c) (L H : Int) (hL : L = lo) (hH : H = hi) (w : World) :
    (Instr.slice 24 (.slice ao n c) (some (.int .i64 L)) (some (.int .i64 H)) none).run Tryd.prog w = .ok (.slice (cutW ao c lo) (hi - lo) (c - lo)) w := by
  subst hL
  subst hH
  rw [run_slice_lh w 24 ao n c elemW .i64 .i64 lo hi (by omega) (by omega) (by omega), Tryd.sizeWd]
  rfl
theorem dsk_at {l : List Wd} : dsk l = if dbg l [dCo, dOp, dQu, dCl] then dsk (l.drop 4) + 4 else 0 := by
  rcases l with _ | ⟨c, _ | ⟨o, _ | ⟨q, _ | ⟨p, r⟩⟩⟩⟩
  · rfl
  · simp [dsk, dbg]
  · simp [dsk, dbg]
  · simp [dsk, dbg]
  · have e : dbg (c :: o :: q :: p :: r) [dCo, dOp, dQu, dCl] = dbg [c, o, q, p] [dCo, dOp, dQu, dCl] := by simp [dbg]
    rw [e]
    conv => lhs; unfold dsk
    rfl
theorem dbg_co {l : List Wd} {j : Nat} {x : Wd} (h : l[j]? = some x) : dbg (l.drop j) [dCo, dOp, dQu, dCl] = (dis dCo x && dbg (l.drop (j + 1)) [dOp, dQu, dCl]) := by
  rw [kdrop_cons h]
  rfl
theorem drw_of3 {l : List Wd} (h : dbg l [dOp, dQu, dCl] = true) : drw l = 3 := by
  rcases l with _ | ⟨o, _ | ⟨q, _ | ⟨p, r⟩⟩⟩
  · simp [dbg] at h
  · simp [dbg] at h
  · simp [dbg] at h
  · simp only [dbg, Bool.and_eq_true, Bool.and_true] at h
    obtain ⟨h1, h2, h3⟩ := h
    have e1 : dbg (o :: q :: p :: r) [dOp, dQu] = true := by simp [dbg, h1, h2]
    have e2 : dcn ((o :: q :: p :: r).drop 2) = 0 := dcn_no (dis_ne h3 dne.2.2.2.2.2.2.2.2.2.1)
    unfold drw
    rw [if_pos e1, e2]
    have e3 : dbg ((o :: q :: p :: r).drop (2 + 0)) [dCl] = true := by simp [dbg, h3]
    rw [if_pos e3]
/-- No row of parameters among them is longer than one. -/
def NoLong (l : List Wd) : Prop := ∀ i, drw (l.drop i) = 0 ∨ (drw (l.drop i) = 3 ∧ dbg (l.drop i) [dOp, dQu, dCl] = true)
theorem dls_at0 {l : List Wd} {j : Nat} {x : Wd} (h : l[j]? = some x) (h0 : drw (l.drop j) = 0) : dls 0 (l.drop j) = x :: dls 0 (l.drop (j + 1)) := by
  rw [kdrop_cons h]
  refine dls_stay ?_
  rw [← kdrop_cons h]
  cases hb : dbg (l.drop j) [dOp, dQu, dCl] with
  | false => rfl
  | true =>
    rw [drw_of3 hb] at h0
    cases h0
theorem dls_at3 {l : List Wd} {j : Nat} (h : dbg (l.drop j) [dOp, dQu, dCl] = true) : dls 0 (l.drop j) = (l.drop j).take 3 ++ dls 0 (l.drop (j + 3 + dsk (l.drop (j + 3)))) := by
  have e3 : l.drop (j + 3) = (l.drop j).drop 3 := by rw [List.drop_drop]
  have e4 : l.drop (j + 3 + dsk (l.drop (j + 3))) = ((l.drop j).drop 3).drop (dsk ((l.drop j).drop 3)) := by rw [← e3, List.drop_drop]
  rw [e4]
  rcases hd : l.drop j with _ | ⟨x, _ | ⟨y, _ | ⟨p, r⟩⟩⟩
  · rw [hd] at h; simp [dbg] at h
  · rw [hd] at h; simp [dbg] at h
  · rw [hd] at h; simp [dbg] at h
  · rw [hd] at h
    rw [dls_row h]
    rfl

set_option maxHeartbeats 16000000 in
set_option maxRecDepth 20000 in
theorem rlists_any (ao : Option Addr) (n c : Nat) (l : List Wd) (w : World) (hW : Wds w ao n c l) (hn : n ≤ 100000) (hL : NoLong l) :
    Calls Tryd.prog 22 #[.slice ao n c] w (OutW w (dls 0 l)) := by
  have hle := hW.le
  have hmx := hW.max
  have hln := hide hW.len
  have HW := hide hW
  have HL := hide hL
  obtain ⟨R, hR⟩ : ∃ R, R = dls 0 l := ⟨_, rfl⟩
  rw [← hR]
  have HR := hide hR
  clear hW hR hL
  go_enter Tryd.func22, Tryd.ntmps22
  go_wp2_with fail
  go_loopw [4, 3] (fun iv ov wr => ∃ (j : Nat) (bo : Option Addr) (m d : Nat) (OO : List Wd), j ≤ n ∧ m ≤ j ∧ iv = .int .i64 (j : Int) ∧ ov = .slice bo m d ∧ WdMine w.heap.size wr bo m d OO ∧ Below w.heap.size w wr ∧ OO ++ dls 0 (l.drop j) = R) (fun iv _ _ => n - (intOf iv).toNat)
  case atStart => exact ⟨0, .none, 0, 0, [], by omega, by omega, rfl, rfl, WdMine.nought _ _, Below.refl _ _, by rw [List.drop_zero]; exact (unhide HR).symm⟩
  case round =>
    obtain ⟨j, bo, m, d, OO, hj, hm, rfl, rfl, hM, hb, hq⟩ := hrel
    have HM := hide hM
    have hsz := hb.size
    clear hM HR
    by_cases hlt : j < n
    · have hlt2 : ((j : Nat) : Int) < (n : Int) := by omega
      obtain ⟨x, hx⟩ : ∃ p, l[j]? = some p := ⟨_, List.getElem?_eq_getElem (by rw [unhide hln]; exact hlt)⟩
      obtain ⟨b3, o3, i3, a3⟩ := ((unhide HW).later hb).idx hx (j : Int) rfl
      have CR := hide (rrow_any ao n c l j wr ((unhide HW).later hb) hn hlt)
      have hdl := drw_len (l.drop j)
      rw [List.length_drop, unhide hln] at hdl
      rcases unhide HL j with h0 | ⟨h3, h4⟩
      · rw [dls_at0 hx h0] at hq
        rw [h0] at CR
        have HQ := hide hq
        obtain ⟨xk, xt, xa⟩ := x
        have HX := hide a3
        have e1 : ((j : Int) == (j : Int)) = true := by simp
        clear a3 hx hq h0
        simp only [Nat.add_zero] at CR
        go_wp2_with (first | (go_at_call 36; refine (unhide CR).mono ?_; rintro e w2 ⟨rfl, q2⟩; have u0 := ((unhide HX).later q2).k; have u1 := ((unhide HX).later q2).t; have u2 := ((unhide HX).later q2).a; simp only at u0 u1 u2) | (at_builtin; refine wpList_appW rfl (.tmp 16) (.tmp 21) rfl w.heap.size bo m d OO (by simp [Act.eval, Act.put]) ((unhide HM).later (q2.trans ((below_alloc w2 _).mono q2.size))) w2.heap.size ⟨xk, xt, xa⟩ (by simp [Act.eval, Act.put]) (AtW.of_row (heap_alloc_new w2 _)) (by omega) (by have := q2.size; simp; omega) ?_; intro bo1 d1 w9 m9 b9))
        go_roundw
        case rel => exact ⟨j + 1, bo1, m + 1, d1, OO ++ [⟨xk, xt, xa⟩], by omega, by omega, by go_num, rfl, m9, hb.trans (((q2.trans ((below_alloc w2 _).mono q2.size)).mono hsz).trans b9), by rw [List.append_assoc]; exact unhide HQ⟩
        case measure => simp [intOf]; omega
      · rw [dls_at3 h4] at hq
        rw [h3] at CR hdl
        have HQ := hide hq
        have e0 : ((((j + 3 : Nat) : Nat) : Int) == (j : Int)) = false := by rw [beq_eq_false_iff_ne]; omega
        have e1 : (((j : Int) + 3) == (j : Int)) = false := by rw [beq_eq_false_iff_ne]; omega
        have i29 := fun wx => run_cutW_lh ao n c j (j + 3) (by omega) (by omega) (j : Int) ((j : Int) + 3) rfl (by omega) wx
        have HT := hide ((unhide HW).cut (lo := j) (hi := j + 3) (by omega) (by omega))
        have hsub : j + 3 - j = 3 := by omega
        rw [hsub] at i29 HT
        clear a3 hx hq h3 h4
        go_wp2_with (first | (go_at_call 36; refine (unhide CR).mono ?_; rintro e w2 ⟨rfl, q2⟩) | (at_builtin; refine wpList_appWL rfl (.tmp 25) (.tmp 29) rfl w.heap.size bo m d OO (by simp [Act.eval, Act.put]) ((unhide HM).later q2) (cutW ao c j) 3 (c - j) ((l.drop j).take 3) (by simp [Act.eval, Act.put]) ((unhide HT).later (hb.trans (q2.mono hsz))) (m + 3) rfl (OO ++ (l.drop j).take 3) rfl (by omega) (by have := q2.size; omega) ?_; intro bo1 d1 w9 m9 b9; have B9 := hb.trans ((q2.mono hsz).trans b9); have M9 := hide m9; have hs9 := B9.size))
        obtain ⟨F, hF⟩ : ∃ F, F = j + 3 + dsk (l.drop (j + 3)) := ⟨_, rfl⟩
        have HF := hide hF
        have HQ2 := unhide HQ
        rw [← hF] at HQ2
        have HQ3 := hide HQ2
        clear hF HQ HQ2
        go_loopw [4] (fun iv wr => ∃ (i : Nat), i ≤ n ∧ j + 3 ≤ i ∧ iv = .int .i64 (i : Int) ∧ Below w9.heap.size w9 wr ∧ F = i + dsk (l.drop i)) (fun iv _ => n - (intOf iv).toNat)
        case atStart => exact ⟨j + 3, by omega, by omega, by go_num, Below.refl _ _, unhide HF⟩
        case round =>
          clear HF
          obtain ⟨i, hi, hji, rfl, hbi, hqi⟩ := hrel
          have hsi := hbi.size
          have HB2 := hide (B9.trans (hbi.mono hs9))
          by_cases hnx : i + 1 < n
          · have hnx2 : ((i : Nat) : Int) + 1 < (n : Int) := by omega
            obtain ⟨y, hy⟩ : ∃ p, l[i]? = some p := ⟨_, List.getElem?_eq_getElem (by rw [unhide hln]; omega)⟩
            obtain ⟨b5, o5, i5, a5⟩ := ((unhide HW).later (unhide HB2)).idx hy (i : Int) rfl
            rw [dsk_at, dbg_co hy] at hqi
            obtain ⟨yk, yt, ya⟩ := y
            obtain ⟨YK, hYK⟩ : ∃ A, dis dCo ⟨yk, yt, ya⟩ = A := ⟨_, rfl⟩
            have Ck := hide (fun wx => rs_44 yk yt ya wx YK hYK)
            have v0 := a5.k
            have v1 := a5.t
            have v2 := a5.a
            simp only at v0 v1 v2
            simp only [hYK] at hqi
            clear a5 hy hYK
            cases YK with
            | false =>
              simp only [Bool.false_and, Bool.false_eq_true, if_false, Nat.add_zero] at hqi
              subst hqi
              go_wp2_with (go_at_call 35; (with_reducible refine (unhide Ck wr).mono ?_); rintro e w3 ⟨rfl, q3⟩)
              go_roundw
              case rel => exact ⟨F, bo1, m + 3, d1, _, by omega, by omega, rfl, rfl, (unhide M9).later (hbi.trans (q3.mono hsi)), (unhide HB2).trans (q3.mono (Nat.le_trans hs9 hsi)), by rw [List.append_assoc]; exact unhide HQ3⟩
              case measure => simp [intOf]; omega
            | true =>
              simp only [Bool.true_and] at hqi
              have CR2 := hide (fun wx (hx : Wds wx ao n c l) => rrow_any ao n c l (i + 1) wx hx hn hnx)
              have hdl2 := drw_len (l.drop (i + 1))
              rw [List.length_drop, unhide hln] at hdl2
              have ec : (((i + 1 : Nat) : Nat) : Int) = (i : Int) + 1 := by omega
              rw [ec] at CR2
              rcases unhide HL (i + 1) with g0 | ⟨g3, g4⟩
              · have g5 : dbg (l.drop (i + 1)) [dOp, dQu, dCl] = false := by
                  cases hb5 : dbg (l.drop (i + 1)) [dOp, dQu, dCl] with
                  | false => rfl
                  | true => rw [drw_of3 hb5] at g0; cases g0
                simp only [g5, Bool.false_eq_true, if_false, Nat.add_zero] at hqi
                subst hqi
                rw [g0] at CR2
                simp only [Nat.add_zero] at CR2
                have e6 : (((F : Int) + 1) == ((F : Int) + 1)) = true := by simp
                clear g0 g5
                go_wp2_with (first | (go_at_call 35; (with_reducible refine (unhide Ck wr).mono ?_); rintro e w3 ⟨rfl, q3⟩; have B3 := (unhide HB2).trans (q3.mono (Nat.le_trans hs9 hsi))) | (go_at_call 36; refine (unhide CR2 w3 ((unhide HW).later B3)).mono ?_; rintro e w4 ⟨rfl, q4⟩; have q34 := belT q3 q4))
                go_roundw
                case rel => exact ⟨F, bo1, m + 3, d1, _, by omega, by omega, rfl, rfl, (unhide M9).later (hbi.trans (q34.mono hsi)), (unhide HB2).trans (q34.mono (Nat.le_trans hs9 hsi)), by rw [List.append_assoc]; exact unhide HQ3⟩
                case measure => simp [intOf]; omega
              · simp only [g4, if_true] at hqi
                rw [List.drop_drop] at hqi
                rw [g3] at CR2 hdl2
                have HQ4 := hide (show F = (i + 4) + dsk (l.drop (i + 4)) by rw [hqi]; omega)
                have e6 : ((((i + 1 + 3 : Nat) : Nat) : Int) == ((i : Int) + 1)) = false := by rw [beq_eq_false_iff_ne]; omega
                have e7 : (((i : Int) + 1 + 3) == ((i : Int) + 1)) = false := by rw [beq_eq_false_iff_ne]; omega
                clear g3 g4 hqi
                go_wp2_with (first | (go_at_call 35; (with_reducible refine (unhide Ck wr).mono ?_); rintro e w3 ⟨rfl, q3⟩; have B3 := (unhide HB2).trans (q3.mono (Nat.le_trans hs9 hsi))) | (go_at_call 36; refine (unhide CR2 w3 ((unhide HW).later B3)).mono ?_; rintro e w4 ⟨rfl, q4⟩; have q34 := belT q3 q4))
                go_roundw
                case rel => exact ⟨i + 4, by omega, by omega, by go_num, hbi.trans (q34.mono hsi), unhide HQ4⟩
                case measure => simp [intOf]; omega
          · have hnx2 : ¬ ((i : Nat) : Int) + 1 < (n : Int) := by omega
            have h1 : dsk (l.drop i) = 0 := by
              rw [dsk_at, dbg_short _ _ (by rw [List.length_drop, unhide hln]; simp; omega)]
              rfl
            rw [h1, Nat.add_zero] at hqi
            subst hqi
            clear h1
            go_wp2_with fail
            go_roundw
            case rel => exact ⟨F, bo1, m + 3, d1, _, by omega, by omega, rfl, rfl, (unhide M9).later hbi, unhide HB2, by rw [List.append_assoc]; exact unhide HQ3⟩
            case measure => simp [intOf]; omega
    · have hjn : j = n := by omega
      subst hjn
      have h1 := hide (show OO = R by
        rw [List.drop_of_length_le (by rw [unhide hln]; exact Nat.le_refl _)] at hq
        simpa [dls] using hq)
      clear hq
      go_wp2_with fail
      go_ret
      exact ⟨bo, m, d, rfl, by rw [← unhide h1]; exact unhide HM, hb⟩

end Go.Proofs.YtgbahfadjdincaaDoor
