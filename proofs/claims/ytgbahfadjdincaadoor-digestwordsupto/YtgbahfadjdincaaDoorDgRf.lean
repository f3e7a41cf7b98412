/-
  What the document's own functions of layer 21 return: sign, literals, signs. Conditions: the slices can be read; at most 100,000 words.
-/
import Derived.Test.YtgbahfadjdincaaDoorDgPa
namespace Go.Proofs.YtgbahfadjdincaaDoor
open Go.RowKit
set_option linter.unusedVariables false
set_option linter.unusedSimpArgs false

set_option maxHeartbeats 1000000 in
theorem rsign_any (p : Wd) (s : ByteArray) (hs : s ≠ dQu) (w : World) : Calls Tryd.prog 35 #[.agg (wdC p), .string s] w (OutB w (dis s p)) := by
  have b1 := below_alloc w (.cells (wdC p) 26)
  obtain ⟨pk, ptx, pa⟩ := p
  have r1 := AtW.of_row (heap_alloc_new w (.cells (wdC ⟨pk, ptx, pa⟩) 26))
  have k0 := r1.k
  have k1 := r1.t
  simp only [Nat.zero_add] at k1
  unfold wdC at *
  simp only at *
  have B1 := hide b1
  clear b1 r1
  unfold dis
  rw [if_neg hs]
  clear hs
  simp only
  by_cases e1 : pk = 5
  · subst e1
    by_cases e2 : ptx = s
    · subst e2
      have e3 := str_self ptx
      go_enter Tryd.func35, Tryd.ntmps35
      go_wp2_with fail
      go_ret
      exact ⟨by simp, unhide B1⟩
    · have e3 := str_neK e2
      go_enter Tryd.func35, Tryd.ntmps35
      go_wp2_with fail
      go_ret
      exact ⟨by simp [e2], unhide B1⟩
  · have e3 : (pk == 5) = false := by simpa using e1
    go_enter Tryd.func35, Tryd.ntmps35
    go_wp2_with fail
    go_ret
    exact ⟨by simp [e1], unhide B1⟩

theorem rs_40 (k : Int) (tx : ByteArray) (a : Int) (w : World) (R : Bool) (h : dis dOp ⟨k, tx, a⟩ = R) : Calls Tryd.prog 35 #[.agg #[.int .i64 k, .string tx, .int .i64 a], .string ⟨#[40]⟩] w (OutB w R) := by
  have c := rsign_any ⟨k, tx, a⟩ dOp (by decide +kernel) w
  rw [h] at c
  exact c
theorem rs_41 (k : Int) (tx : ByteArray) (a : Int) (w : World) (R : Bool) (h : dis dCl ⟨k, tx, a⟩ = R) : Calls Tryd.prog 35 #[.agg #[.int .i64 k, .string tx, .int .i64 a], .string ⟨#[41]⟩] w (OutB w R) := by
  have c := rsign_any ⟨k, tx, a⟩ dCl (by decide +kernel) w
  rw [h] at c
  exact c
theorem rs_44 (k : Int) (tx : ByteArray) (a : Int) (w : World) (R : Bool) (h : dis dCo ⟨k, tx, a⟩ = R) : Calls Tryd.prog 35 #[.agg #[.int .i64 k, .string tx, .int .i64 a], .string ⟨#[44]⟩] w (OutB w R) := by
  have c := rsign_any ⟨k, tx, a⟩ dCo (by decide +kernel) w
  rw [h] at c
  exact c
theorem rs_61 (k : Int) (tx : ByteArray) (a : Int) (w : World) (R : Bool) (h : dis dEq ⟨k, tx, a⟩ = R) : Calls Tryd.prog 35 #[.agg #[.int .i64 k, .string tx, .int .i64 a], .string ⟨#[61]⟩] w (OutB w R) := by
  have c := rsign_any ⟨k, tx, a⟩ dEq (by decide +kernel) w
  rw [h] at c
  exact c
theorem rs_45 (k : Int) (tx : ByteArray) (a : Int) (w : World) (R : Bool) (h : dis dMi ⟨k, tx, a⟩ = R) : Calls Tryd.prog 35 #[.agg #[.int .i64 k, .string tx, .int .i64 a], .string ⟨#[45]⟩] w (OutB w R) := by
  have c := rsign_any ⟨k, tx, a⟩ dMi (by decide +kernel) w
  rw [h] at c
  exact c
theorem rs_43 (k : Int) (tx : ByteArray) (a : Int) (w : World) (R : Bool) (h : dis dPl ⟨k, tx, a⟩ = R) : Calls Tryd.prog 35 #[.agg #[.int .i64 k, .string tx, .int .i64 a], .string ⟨#[43]⟩] w (OutB w R) := by
  have c := rsign_any ⟨k, tx, a⟩ dPl (by decide +kernel) w
  rw [h] at c
  exact c
theorem rs_59 (k : Int) (tx : ByteArray) (a : Int) (w : World) (R : Bool) (h : dis dSe ⟨k, tx, a⟩ = R) : Calls Tryd.prog 35 #[.agg #[.int .i64 k, .string tx, .int .i64 a], .string ⟨#[59]⟩] w (OutB w R) := by
  have c := rsign_any ⟨k, tx, a⟩ dSe (by decide +kernel) w
  rw [h] at c
  exact c
/-- New words. -/
def OutW (w : World) (R : List Wd) (e : Ending) (w' : World) : Prop := ∃ bo m d, e = .returned (.slice bo m d) ∧ WdMine w.heap.size w' bo m d R ∧ Below w.heap.size w w'
theorem lit_take {l : List Wd} {j : Nat} {x : Wd} (hx : l[j]? = some x) : ((l.take (j + 1)).filter fun x => decide (x.k ≠ 9)).map dpar = ((l.take j).filter fun x => decide (x.k ≠ 9)).map dpar ++ (if x.k = 9 then [] else [dpar x]) := by
  rw [List.take_add_one, hx, List.filter_append, List.map_append]
  congr 1
  by_cases h : x.k = 9 <;> simp [h]


set_option maxHeartbeats 4000000 in
set_option maxRecDepth 20000 in
theorem rliterals_any (ao : Option Addr) (n c : Nat) (l : List Wd) (w : World) (hW : Wds w ao n c l) (hn : n ≤ 100000) :
    Calls Tryd.prog 25 #[.slice ao n c] w (OutW w ((l.filter fun x => decide (x.k ≠ 9)).map dpar)) := by
  have hle := hW.le
  have hmx := hW.max
  have hln := hide hW.len
  have HW := hide hW
  clear hW
  go_enter Tryd.func25, Tryd.ntmps25
  go_wp2_with fail
  go_loopw [4, 3] (fun iv ov wr => ∃ (j : Nat) (bo : Option Addr) (m d : Nat), j ≤ n ∧ m ≤ j ∧ iv = .int .i64 (j : Int) ∧ ov = .slice bo m d ∧ WdMine w.heap.size wr bo m d (((l.take j).filter fun x => decide (x.k ≠ 9)).map dpar) ∧ Below w.heap.size w wr) (fun iv _ _ => n - (intOf iv).toNat)
  case atStart => exact ⟨0, .none, 0, 0, by omega, by omega, rfl, rfl, by simpa using WdMine.nought _ _, Below.refl _ _⟩
  case round =>
    obtain ⟨j, bo, m, d, hj, hm, rfl, rfl, hM, hb⟩ := hrel
    have HM := hide hM
    have hsz := hb.size
    clear hM
    by_cases hlt : j < n
    · have hlt2 : ((j : Nat) : Int) < (n : Int) := by omega
      obtain ⟨x, hx⟩ : ∃ p, l[j]? = some p := ⟨_, List.getElem?_eq_getElem (by rw [unhide hln]; exact hlt)⟩
      obtain ⟨b2, o2, i2, a2⟩ := ((unhide HW).later hb).idx hx (j : Int) rfl
      have HT := hide (lit_take hx)
      obtain ⟨xk, xt, xa⟩ := x
      have HA := hide a2
      clear a2 hx
      simp only at HT
      by_cases h9 : xk = 9
      · subst h9
        go_wp2_with (first | (with_reducible show wpList Tryd.prog _ _ (Oper.mk _ (Op.load 26 _) _ _ _ none :: _) _ _; refine wpList_ldW rfl (.tmp 14) rfl b2 o2 (by simp [Act.eval, Act.put]) ⟨9, xt, xa⟩ (unhide HA) ?_) | (with_reducible show wpList Tryd.prog _ _ (Oper.mk _ (Op.alloc 26) _ _ _ none :: _) _ _; refine wpList_alK rfl _ rfl (wdC wd0) zeroWd ?_; intro w4 r4 q4 z4) | (with_reducible show wpList Tryd.prog _ _ (Oper.mk _ (Op.store 26 _ _) _ _ _ none :: _) _ _; refine wpList_stK rfl _ (.tmp 5) (.tmp 15) rfl wr.heap.size (wdC ⟨9, xt, xa⟩) (wdC wd0) (by simp [Act.eval, Act.put]) (by simp [Act.eval, Act.put]) r4 (wdc_info _) rfl (wdc_one _) ?_; intro w5 r5 g5 z5; have Q5 := belowG q4 g5 (Nat.le_refl _) q4.size; have y0 := (AtW.of_row r5).k; have y1 := (AtW.of_row r5).t; have y2 := (AtW.of_row r5).a; simp only [Nat.zero_add] at y0 y1 y2))
        go_roundw
        case rel => exact ⟨j + 1, bo, m, d, by omega, by omega, by go_num, rfl, by rw [unhide HT]; simpa using (unhide HM).later Q5, hb.trans (Q5.mono hsz)⟩
        case measure => simp [intOf]; omega
      · by_cases h3 : xk = 3
        · subst h3
          go_wp2_with (first | (with_reducible show wpList Tryd.prog _ _ (Oper.mk _ (Op.load 26 _) _ _ _ none :: _) _ _; refine wpList_ldW rfl (.tmp 14) rfl b2 o2 (by simp [Act.eval, Act.put]) ⟨3, xt, xa⟩ (unhide HA) ?_) | (with_reducible show wpList Tryd.prog _ _ (Oper.mk _ (Op.alloc 26) _ _ _ none :: _) _ _; refine wpList_alK rfl _ rfl (wdC wd0) zeroWd ?_; intro w4 r4 q4 z4) | (with_reducible show wpList Tryd.prog _ _ (Oper.mk _ (Op.store 26 _ _) _ _ _ none :: _) _ _; refine wpList_stK rfl _ (.tmp 5) (.tmp 15) rfl wr.heap.size (wdC ⟨3, xt, xa⟩) (wdC wd0) (by simp [Act.eval, Act.put]) (by simp [Act.eval, Act.put]) r4 (wdc_info _) rfl (wdc_one _) ?_; intro w5 r5 g5 z5; have Q5 := belowG q4 g5 (Nat.le_refl _) q4.size; have y0 := (AtW.of_row r5).k; have y1 := (AtW.of_row r5).t; have y2 := (AtW.of_row r5).a; simp only [Nat.zero_add] at y0 y1 y2) | (with_reducible show wpList Tryd.prog _ _ (Oper.mk _ (Op.store 26 _ _) _ _ _ none :: _) _ _; refine wpList_stK rfl _ (.tmp 5) (.tmp 29) rfl wr.heap.size (wdC ⟨8, ba [], xa⟩) (wdC ⟨3, xt, xa⟩) (by simp [Act.eval, Act.put]) (by simp [Act.eval, Act.put, wdC, ba]) r5 (wdc_info _) rfl (wdc_one _) ?_; intro w6 r6 g6 z6; have Q6 := belowG Q5 g6 (Nat.le_refl _) Q5.size; have u0 := (AtW.of_row r6).k; have u1 := (AtW.of_row r6).t; have u2 := (AtW.of_row r6).a; simp only [Nat.zero_add] at u0 u1 u2) | (at_builtin; refine wpList_appW rfl (.tmp 30) (.tmp 32) rfl w.heap.size bo m d _ (by simp [Act.eval, Act.put]) ((unhide HM).later (Q6.trans ((below_alloc w6 _).mono Q6.size))) w6.heap.size ⟨8, ba [], xa⟩ (by simp [Act.eval, Act.put]) (AtW.of_row (heap_alloc_new w6 _)) (by omega) (by have := Q6.size; simp; omega) ?_; intro bo1 d1 w9 m9 b9))
          go_roundw
          case rel => exact ⟨j + 1, bo1, m + 1, d1, by omega, by omega, by go_num, rfl, by rw [unhide HT]; simpa [dpar] using m9, hb.trans (((Q6.trans ((below_alloc w6 _).mono Q6.size)).mono hsz).trans b9)⟩
          case measure => simp [intOf]; omega
        · by_cases h4 : xk = 4
          · subst h4
            have e3 : ((4 : Int) == 3) = false := by decide
            go_wp2_with (first | (with_reducible show wpList Tryd.prog _ _ (Oper.mk _ (Op.load 26 _) _ _ _ none :: _) _ _; refine wpList_ldW rfl (.tmp 14) rfl b2 o2 (by simp [Act.eval, Act.put]) ⟨4, xt, xa⟩ (unhide HA) ?_) | (with_reducible show wpList Tryd.prog _ _ (Oper.mk _ (Op.alloc 26) _ _ _ none :: _) _ _; refine wpList_alK rfl _ rfl (wdC wd0) zeroWd ?_; intro w4 r4 q4 z4) | (with_reducible show wpList Tryd.prog _ _ (Oper.mk _ (Op.store 26 _ _) _ _ _ none :: _) _ _; refine wpList_stK rfl _ (.tmp 5) (.tmp 15) rfl wr.heap.size (wdC ⟨4, xt, xa⟩) (wdC wd0) (by simp [Act.eval, Act.put]) (by simp [Act.eval, Act.put]) r4 (wdc_info _) rfl (wdc_one _) ?_; intro w5 r5 g5 z5; have Q5 := belowG q4 g5 (Nat.le_refl _) q4.size; have y0 := (AtW.of_row r5).k; have y1 := (AtW.of_row r5).t; have y2 := (AtW.of_row r5).a; simp only [Nat.zero_add] at y0 y1 y2) | (with_reducible show wpList Tryd.prog _ _ (Oper.mk _ (Op.store 26 _ _) _ _ _ none :: _) _ _; refine wpList_stK rfl _ (.tmp 5) (.tmp 29) rfl wr.heap.size (wdC ⟨8, ba [], xa⟩) (wdC ⟨4, xt, xa⟩) (by simp [Act.eval, Act.put]) (by simp [Act.eval, Act.put, wdC, ba]) r5 (wdc_info _) rfl (wdc_one _) ?_; intro w6 r6 g6 z6; have Q6 := belowG Q5 g6 (Nat.le_refl _) Q5.size; have u0 := (AtW.of_row r6).k; have u1 := (AtW.of_row r6).t; have u2 := (AtW.of_row r6).a; simp only [Nat.zero_add] at u0 u1 u2) | (at_builtin; refine wpList_appW rfl (.tmp 30) (.tmp 32) rfl w.heap.size bo m d _ (by simp [Act.eval, Act.put]) ((unhide HM).later (Q6.trans ((below_alloc w6 _).mono Q6.size))) w6.heap.size ⟨8, ba [], xa⟩ (by simp [Act.eval, Act.put]) (AtW.of_row (heap_alloc_new w6 _)) (by omega) (by have := Q6.size; simp; omega) ?_; intro bo1 d1 w9 m9 b9))
            go_roundw
            case rel => exact ⟨j + 1, bo1, m + 1, d1, by omega, by omega, by go_num, rfl, by rw [unhide HT]; simpa [dpar] using m9, hb.trans (((Q6.trans ((below_alloc w6 _).mono Q6.size)).mono hsz).trans b9)⟩
            case measure => simp [intOf]; omega
          · have e9 : (xk == 9) = false := by simpa using h9
            have e3 : (xk == 3) = false := by simpa using h3
            have e4 : (xk == 4) = false := by simpa using h4
            have HP := hide (show dpar ⟨xk, xt, xa⟩ = ⟨xk, xt, xa⟩ by unfold dpar; rw [if_neg (by simp only; omega)])
            go_wp2_with (first | (with_reducible show wpList Tryd.prog _ _ (Oper.mk _ (Op.load 26 _) _ _ _ none :: _) _ _; refine wpList_ldW rfl (.tmp 14) rfl b2 o2 (by simp [Act.eval, Act.put]) ⟨xk, xt, xa⟩ (unhide HA) ?_) | (with_reducible show wpList Tryd.prog _ _ (Oper.mk _ (Op.alloc 26) _ _ _ none :: _) _ _; refine wpList_alK rfl _ rfl (wdC wd0) zeroWd ?_; intro w4 r4 q4 z4) | (with_reducible show wpList Tryd.prog _ _ (Oper.mk _ (Op.store 26 _ _) _ _ _ none :: _) _ _; refine wpList_stK rfl _ (.tmp 5) (.tmp 15) rfl wr.heap.size (wdC ⟨xk, xt, xa⟩) (wdC wd0) (by simp [Act.eval, Act.put]) (by simp [Act.eval, Act.put]) r4 (wdc_info _) rfl (wdc_one _) ?_; intro w5 r5 g5 z5; have Q5 := belowG q4 g5 (Nat.le_refl _) q4.size; have y0 := (AtW.of_row r5).k; have y1 := (AtW.of_row r5).t; have y2 := (AtW.of_row r5).a; simp only [Nat.zero_add] at y0 y1 y2) | (at_builtin; refine wpList_appW rfl (.tmp 30) (.tmp 32) rfl w.heap.size bo m d _ (by simp [Act.eval, Act.put]) ((unhide HM).later (Q5.trans ((below_alloc w5 _).mono Q5.size))) w5.heap.size ⟨xk, xt, xa⟩ (by simp [Act.eval, Act.put]) (AtW.of_row (heap_alloc_new w5 _)) (by omega) (by have := Q5.size; simp; omega) ?_; intro bo1 d1 w9 m9 b9))
            go_roundw
            case rel => exact ⟨j + 1, bo1, m + 1, d1, by omega, by omega, by go_num, rfl, by rw [unhide HT, if_neg h9, unhide HP]; exact m9, hb.trans (((Q5.trans ((below_alloc w5 _).mono Q5.size)).mono hsz).trans b9)⟩
            case measure => simp [intOf]; omega
    · have hjn : j = n := by omega
      subst hjn
      have h1 := hide (show l.take j = l from List.take_of_length_le (by rw [unhide hln]; exact Nat.le_refl _))
      go_wp2_with fail
      go_ret
      exact ⟨bo, m, d, rfl, by have := unhide HM; rwa [unhide h1] at this, hb⟩

/-- The word ahead of a place. -/
def pv (l : List Wd) (j : Nat) : Option Wd := if j = 0 then none else l[j - 1]?
theorem pv_succ {l : List Wd} {j : Nat} {x : Wd} (h : l[j]? = some x) : pv l (j + 1) = some x := by
  unfold pv
  rw [if_neg (by omega), Nat.add_sub_cancel]
  exact h
theorem dsg_step {l : List Wd} {j : Nat} {x : Wd} (h : l[j]? = some x) (p : Option Wd) : dsg p (l.drop j) = if dah p && (dis dMi x || dis dPl x) && dbg (l.drop (j + 1)) [dQu] then dsg (some x) (l.drop (j + 1)) else x :: dsg (some x) (l.drop (j + 1)) := by
  rw [kdrop_cons h]
  rfl
theorem dbg_next {l : List Wd} {j : Nat} {y : Wd} (h : l[j]? = some y) : dbg (l.drop j) [dQu] = decide (y.k = 8) := by
  rw [kdrop_cons h]
  have e : dQu = dQu := rfl
  simp [dbg, dis]


set_option maxHeartbeats 16000000 in
set_option maxRecDepth 20000 in
theorem rsigns_any (ao : Option Addr) (n c : Nat) (l : List Wd) (w : World) (hW : Wds w ao n c l) (hn : n ≤ 100000) :
    Calls Tryd.prog 24 #[.slice ao n c] w (OutW w (dsg none l)) := by
  have hle := hW.le
  have hmx := hW.max
  have hln := hide hW.len
  have HW := hide hW
  obtain ⟨R, hR⟩ : ∃ R, R = dsg none l := ⟨_, rfl⟩
  rw [← hR]
  have HR := hide hR
  clear hW hR
  go_enter Tryd.func24, Tryd.ntmps24
  go_wp2_with fail
  go_loopw [4, 3] (fun iv ov wr => ∃ (j : Nat) (bo : Option Addr) (m d : Nat) (OO : List Wd), j ≤ n ∧ m ≤ j ∧ iv = .int .i64 (j : Int) ∧ ov = .slice bo m d ∧ WdMine w.heap.size wr bo m d OO ∧ Below w.heap.size w wr ∧ OO ++ dsg (pv l j) (l.drop j) = R) (fun iv _ _ => n - (intOf iv).toNat)
  case atStart => exact ⟨0, .none, 0, 0, [], by omega, by omega, rfl, rfl, WdMine.nought _ _, Below.refl _ _, by rw [List.drop_zero]; exact (unhide HR).symm⟩
  case round =>
    obtain ⟨j, bo, m, d, OO, hj, hm, rfl, rfl, hM, hb, hq⟩ := hrel
    have HM := hide hM
    have hsz := hb.size
    clear hM HR
    by_cases hlt : j < n
    · have hlt2 : ((j : Nat) : Int) < (n : Int) := by omega
      obtain ⟨x, hx⟩ : ∃ p, l[j]? = some p := ⟨_, List.getElem?_eq_getElem (by rw [unhide hln]; exact hlt)⟩
      obtain ⟨b3, o3, i3, a3⟩ := ((unhide HW).later hb).idx hx (j : Int) rfl
      rw [dsg_step hx] at hq
      have HPV := hide (pv_succ hx)
      obtain ⟨xk, xt, xa⟩ := x
      have HX := hide a3
      have u0 := a3.k
      have u1 := a3.t
      have u2 := a3.a
      simp only at u0 u1 u2
      obtain ⟨M, hM⟩ : ∃ A, dis dMi ⟨xk, xt, xa⟩ = A := ⟨_, rfl⟩
      obtain ⟨P, hP⟩ : ∃ A, dis dPl ⟨xk, xt, xa⟩ = A := ⟨_, rfl⟩
      rw [hM, hP] at hq
      have Cxm := hide (fun wx => rs_45 xk xt xa wx M hM)
      have Cxp := hide (fun wx => rs_43 xk xt xa wx P hP)
      clear a3 hx hM hP
      by_cases hj0 : j = 0
      · rw [show pv l j = none by unfold pv; rw [if_pos hj0]] at hq
        simp only [dah] at hq
        have hj2 : (((j : Nat) : Int) == 0) = true := by simp [hj0]
        have hj3 : ¬ (0 : Int) < ((j : Nat) : Int) := by omega
        clear hj0
        simp only [Bool.true_and] at hq
        by_cases hnx : j + 1 < n
        · have hnx2 : ((j : Nat) : Int) + 1 < (n : Int) := by omega
          obtain ⟨z, hz⟩ : ∃ p, l[j + 1]? = some p := ⟨_, List.getElem?_eq_getElem (by rw [unhide hln]; exact hnx)⟩
          obtain ⟨b5, o5, i5, a5⟩ := ((unhide HW).later hb).idx hz ((j : Int) + 1) (by omega)
          simp only [dbg_next hz] at hq
          obtain ⟨zk, zt, za⟩ := z
          have HN := hide a5
          have nw := a5.k
          simp only at nw hq
          clear a5 hz
          by_cases h8 : zk = 8
          · subst h8
            simp only [decide_true, Bool.and_true] at hq
            cases M with
            | true =>
              simp only [Bool.true_or, if_true] at hq
              have HQ2 := hide hq
              clear hq
              go_wp2_with (first | (go_at_call 35; (with_reducible refine (unhide Cxm wr).mono ?_); rintro e w2 ⟨rfl, q2⟩; have b2 := q2; have x20 := ((unhide HX).later b2).k; have x21 := ((unhide HX).later b2).t; have x22 := ((unhide HX).later b2).a; simp only at x20 x21 x22; have n2 := ((unhide HN).later b2).k; simp only at n2))
              go_roundw
              case rel => exact ⟨j + 1, bo, m, d, OO, by omega, by omega, by go_num, rfl, (unhide HM).later b2, hb.trans (b2.mono hsz), by rw [unhide HPV]; exact (unhide HQ2)⟩
              case measure => simp [intOf]; omega
            | false =>
              simp only [Bool.false_or] at hq
              cases P with
              | true =>
                simp only [if_true] at hq
                have HQ2 := hide hq
                clear hq
                go_wp2_with (first | (go_at_call 35; (with_reducible refine (unhide Cxm wr).mono ?_); rintro e w2 ⟨rfl, q2⟩; have b2 := q2; have x20 := ((unhide HX).later b2).k; have x21 := ((unhide HX).later b2).t; have x22 := ((unhide HX).later b2).a; simp only at x20 x21 x22; have n2 := ((unhide HN).later b2).k; simp only at n2) | (go_at_call 35; (with_reducible refine (unhide Cxp w2).mono ?_); rintro e w3 ⟨rfl, q3⟩; have b3 := belT b2 q3; have x30 := ((unhide HX).later b3).k; have x31 := ((unhide HX).later b3).t; have x32 := ((unhide HX).later b3).a; simp only at x30 x31 x32; have n3 := ((unhide HN).later b3).k; simp only at n3))
                go_roundw
                case rel => exact ⟨j + 1, bo, m, d, OO, by omega, by omega, by go_num, rfl, (unhide HM).later b3, hb.trans (b3.mono hsz), by rw [unhide HPV]; exact (unhide HQ2)⟩
                case measure => simp [intOf]; omega
              | false =>
                simp only [Bool.false_eq_true, if_false] at hq
                have HQ2 := hide hq
                clear hq
                go_wp2_with (first | (go_at_call 35; (with_reducible refine (unhide Cxm wr).mono ?_); rintro e w2 ⟨rfl, q2⟩; have b2 := q2; have x20 := ((unhide HX).later b2).k; have x21 := ((unhide HX).later b2).t; have x22 := ((unhide HX).later b2).a; simp only at x20 x21 x22; have n2 := ((unhide HN).later b2).k; simp only at n2) | (go_at_call 35; (with_reducible refine (unhide Cxp w2).mono ?_); rintro e w3 ⟨rfl, q3⟩; have b3 := belT b2 q3; have x30 := ((unhide HX).later b3).k; have x31 := ((unhide HX).later b3).t; have x32 := ((unhide HX).later b3).a; simp only at x30 x31 x32; have n3 := ((unhide HN).later b3).k; simp only at n3) | (at_builtin; refine wpList_appW rfl (.tmp 69) (.tmp 74) rfl w.heap.size bo m d OO (by simp [Act.eval, Act.put]) ((unhide HM).later (b3.trans ((below_alloc w3 _).mono b3.size))) w3.heap.size ⟨xk, xt, xa⟩ (by simp [Act.eval, Act.put]) (AtW.of_row (heap_alloc_new w3 _)) (by omega) (by have := b3.size; simp; omega) ?_; intro bo1 d1 w9 m9 b9))
                go_roundw
                case rel => exact ⟨j + 1, bo1, m + 1, d1, OO ++ [⟨xk, xt, xa⟩], by omega, by omega, by go_num, rfl, m9, hb.trans (((b3.trans ((below_alloc w3 _).mono b3.size)).mono hsz).trans b9), by rw [unhide HPV, List.append_assoc]; exact (unhide HQ2)⟩
                case measure => simp [intOf]; omega
          · have e8 : (zk == 8) = false := by simpa using h8
            simp only [decide_eq_false h8] at hq
            simp only [Bool.and_false, Bool.false_eq_true, if_false] at hq
            clear h8
            have HQ2 := hide hq
            clear hq
            go_wp2_with (first | (at_builtin; refine wpList_appW rfl (.tmp 69) (.tmp 74) rfl w.heap.size bo m d OO (by simp [Act.eval, Act.put]) ((unhide HM).later ((Below.refl wr.heap.size wr).trans ((below_alloc wr _).mono (Below.refl wr.heap.size wr).size))) wr.heap.size ⟨xk, xt, xa⟩ (by simp [Act.eval, Act.put]) (AtW.of_row (heap_alloc_new wr _)) (by omega) (by have := (Below.refl wr.heap.size wr).size; simp; omega) ?_; intro bo1 d1 w9 m9 b9))
            go_roundw
            case rel => exact ⟨j + 1, bo1, m + 1, d1, OO ++ [⟨xk, xt, xa⟩], by omega, by omega, by go_num, rfl, m9, hb.trans ((((Below.refl wr.heap.size wr).trans ((below_alloc wr _).mono (Below.refl wr.heap.size wr).size)).mono hsz).trans b9), by rw [unhide HPV, List.append_assoc]; exact (unhide HQ2)⟩
            case measure => simp [intOf]; omega
        · have hnx2 : ¬ ((j : Nat) : Int) + 1 < (n : Int) := by omega
          have hdn : dbg (l.drop (j + 1)) [dQu] = false := by rw [List.drop_of_length_le (by rw [unhide hln]; omega)]; rfl
          simp only [hdn] at hq
          clear hdn
          simp only [Bool.and_false, Bool.false_eq_true, if_false] at hq
          have HQ2 := hide hq
          clear hq
          go_wp2_with (first | (at_builtin; refine wpList_appW rfl (.tmp 69) (.tmp 74) rfl w.heap.size bo m d OO (by simp [Act.eval, Act.put]) ((unhide HM).later ((Below.refl wr.heap.size wr).trans ((below_alloc wr _).mono (Below.refl wr.heap.size wr).size))) wr.heap.size ⟨xk, xt, xa⟩ (by simp [Act.eval, Act.put]) (AtW.of_row (heap_alloc_new wr _)) (by omega) (by have := (Below.refl wr.heap.size wr).size; simp; omega) ?_; intro bo1 d1 w9 m9 b9))
          go_roundw
          case rel => exact ⟨j + 1, bo1, m + 1, d1, OO ++ [⟨xk, xt, xa⟩], by omega, by omega, by go_num, rfl, m9, hb.trans ((((Below.refl wr.heap.size wr).trans ((below_alloc wr _).mono (Below.refl wr.heap.size wr).size)).mono hsz).trans b9), by rw [unhide HPV, List.append_assoc]; exact (unhide HQ2)⟩
          case measure => simp [intOf]; omega
      · have hj1 : ((j : Nat) : Int) ≠ 0 := by omega
        have hj2 : (((j : Nat) : Int) == 0) = false := by simpa using hj1
        have hj3 : (0 : Int) < ((j : Nat) : Int) := by omega
        obtain ⟨y, hy⟩ : ∃ p, l[j - 1]? = some p := ⟨_, List.getElem?_eq_getElem (by rw [unhide hln]; omega)⟩
        obtain ⟨b4, o4, i4, a4⟩ := ((unhide HW).later hb).idx hy ((j : Int) - 1) (by omega)
        rw [show pv l j = some y by unfold pv; rw [if_neg hj0]; exact hy] at hq
        obtain ⟨yk, yt, ya⟩ := y
        have HY := hide a4
        have v0 := a4.k
        have v1 := a4.t
        have v2 := a4.a
        simp only at v0 v1 v2
        simp only [dah] at hq
        obtain ⟨YO, hYO⟩ : ∃ A, dis dOp ⟨yk, yt, ya⟩ = A := ⟨_, rfl⟩
        obtain ⟨YC, hYC⟩ : ∃ A, dis dCo ⟨yk, yt, ya⟩ = A := ⟨_, rfl⟩
        obtain ⟨YE, hYE⟩ : ∃ A, dis dEq ⟨yk, yt, ya⟩ = A := ⟨_, rfl⟩
        simp only [hYO, hYC, hYE] at hq
        have Cyo := hide (fun wx => rs_40 yk yt ya wx YO hYO)
        have Cyc := hide (fun wx => rs_44 yk yt ya wx YC hYC)
        have Cye := hide (fun wx => rs_61 yk yt ya wx YE hYE)
        clear a4 hy hYO hYC hYE hj0
        cases YO with
        | true =>
          simp only [Bool.true_or] at hq
          simp only [Bool.true_and] at hq
          by_cases hnx : j + 1 < n
          · have hnx2 : ((j : Nat) : Int) + 1 < (n : Int) := by omega
            obtain ⟨z, hz⟩ : ∃ p, l[j + 1]? = some p := ⟨_, List.getElem?_eq_getElem (by rw [unhide hln]; exact hnx)⟩
            obtain ⟨b5, o5, i5, a5⟩ := ((unhide HW).later hb).idx hz ((j : Int) + 1) (by omega)
            simp only [dbg_next hz] at hq
            obtain ⟨zk, zt, za⟩ := z
            have HN := hide a5
            have nw := a5.k
            simp only at nw hq
            clear a5 hz
            by_cases h8 : zk = 8
            · subst h8
              simp only [decide_true, Bool.and_true] at hq
              cases M with
              | true =>
                simp only [Bool.true_or, if_true] at hq
                have HQ2 := hide hq
                clear hq
                go_wp2_with (first | (go_at_call 35; (with_reducible refine (unhide Cyo wr).mono ?_); rintro e w2 ⟨rfl, q2⟩; have b2 := q2; have y20 := ((unhide HY).later b2).k; have y21 := ((unhide HY).later b2).t; have y22 := ((unhide HY).later b2).a; simp only at y20 y21 y22; have x20 := ((unhide HX).later b2).k; have x21 := ((unhide HX).later b2).t; have x22 := ((unhide HX).later b2).a; simp only at x20 x21 x22; have n2 := ((unhide HN).later b2).k; simp only at n2) | (go_at_call 35; (with_reducible refine (unhide Cxm w2).mono ?_); rintro e w3 ⟨rfl, q3⟩; have b3 := belT b2 q3; have y30 := ((unhide HY).later b3).k; have y31 := ((unhide HY).later b3).t; have y32 := ((unhide HY).later b3).a; simp only at y30 y31 y32; have x30 := ((unhide HX).later b3).k; have x31 := ((unhide HX).later b3).t; have x32 := ((unhide HX).later b3).a; simp only at x30 x31 x32; have n3 := ((unhide HN).later b3).k; simp only at n3))
                go_roundw
                case rel => exact ⟨j + 1, bo, m, d, OO, by omega, by omega, by go_num, rfl, (unhide HM).later b3, hb.trans (b3.mono hsz), by rw [unhide HPV]; exact (unhide HQ2)⟩
                case measure => simp [intOf]; omega
              | false =>
                simp only [Bool.false_or] at hq
                cases P with
                | true =>
                  simp only [if_true] at hq
                  have HQ2 := hide hq
                  clear hq
                  go_wp2_with (first | (go_at_call 35; (with_reducible refine (unhide Cyo wr).mono ?_); rintro e w2 ⟨rfl, q2⟩; have b2 := q2; have y20 := ((unhide HY).later b2).k; have y21 := ((unhide HY).later b2).t; have y22 := ((unhide HY).later b2).a; simp only at y20 y21 y22; have x20 := ((unhide HX).later b2).k; have x21 := ((unhide HX).later b2).t; have x22 := ((unhide HX).later b2).a; simp only at x20 x21 x22; have n2 := ((unhide HN).later b2).k; simp only at n2) | (go_at_call 35; (with_reducible refine (unhide Cxm w2).mono ?_); rintro e w3 ⟨rfl, q3⟩; have b3 := belT b2 q3; have y30 := ((unhide HY).later b3).k; have y31 := ((unhide HY).later b3).t; have y32 := ((unhide HY).later b3).a; simp only at y30 y31 y32; have x30 := ((unhide HX).later b3).k; have x31 := ((unhide HX).later b3).t; have x32 := ((unhide HX).later b3).a; simp only at x30 x31 x32; have n3 := ((unhide HN).later b3).k; simp only at n3) | (go_at_call 35; (with_reducible refine (unhide Cxp w3).mono ?_); rintro e w4 ⟨rfl, q4⟩; have b4 := belT b3 q4; have y40 := ((unhide HY).later b4).k; have y41 := ((unhide HY).later b4).t; have y42 := ((unhide HY).later b4).a; simp only at y40 y41 y42; have x40 := ((unhide HX).later b4).k; have x41 := ((unhide HX).later b4).t; have x42 := ((unhide HX).later b4).a; simp only at x40 x41 x42; have n4 := ((unhide HN).later b4).k; simp only at n4))
                  go_roundw
                  case rel => exact ⟨j + 1, bo, m, d, OO, by omega, by omega, by go_num, rfl, (unhide HM).later b4, hb.trans (b4.mono hsz), by rw [unhide HPV]; exact (unhide HQ2)⟩
                  case measure => simp [intOf]; omega
                | false =>
                  simp only [Bool.false_eq_true, if_false] at hq
                  have HQ2 := hide hq
                  clear hq
                  go_wp2_with (first | (go_at_call 35; (with_reducible refine (unhide Cyo wr).mono ?_); rintro e w2 ⟨rfl, q2⟩; have b2 := q2; have y20 := ((unhide HY).later b2).k; have y21 := ((unhide HY).later b2).t; have y22 := ((unhide HY).later b2).a; simp only at y20 y21 y22; have x20 := ((unhide HX).later b2).k; have x21 := ((unhide HX).later b2).t; have x22 := ((unhide HX).later b2).a; simp only at x20 x21 x22; have n2 := ((unhide HN).later b2).k; simp only at n2) | (go_at_call 35; (with_reducible refine (unhide Cxm w2).mono ?_); rintro e w3 ⟨rfl, q3⟩; have b3 := belT b2 q3; have y30 := ((unhide HY).later b3).k; have y31 := ((unhide HY).later b3).t; have y32 := ((unhide HY).later b3).a; simp only at y30 y31 y32; have x30 := ((unhide HX).later b3).k; have x31 := ((unhide HX).later b3).t; have x32 := ((unhide HX).later b3).a; simp only at x30 x31 x32; have n3 := ((unhide HN).later b3).k; simp only at n3) | (go_at_call 35; (with_reducible refine (unhide Cxp w3).mono ?_); rintro e w4 ⟨rfl, q4⟩; have b4 := belT b3 q4; have y40 := ((unhide HY).later b4).k; have y41 := ((unhide HY).later b4).t; have y42 := ((unhide HY).later b4).a; simp only at y40 y41 y42; have x40 := ((unhide HX).later b4).k; have x41 := ((unhide HX).later b4).t; have x42 := ((unhide HX).later b4).a; simp only at x40 x41 x42; have n4 := ((unhide HN).later b4).k; simp only at n4) | (at_builtin; refine wpList_appW rfl (.tmp 69) (.tmp 74) rfl w.heap.size bo m d OO (by simp [Act.eval, Act.put]) ((unhide HM).later (b4.trans ((below_alloc w4 _).mono b4.size))) w4.heap.size ⟨xk, xt, xa⟩ (by simp [Act.eval, Act.put]) (AtW.of_row (heap_alloc_new w4 _)) (by omega) (by have := b4.size; simp; omega) ?_; intro bo1 d1 w9 m9 b9))
                  go_roundw
                  case rel => exact ⟨j + 1, bo1, m + 1, d1, OO ++ [⟨xk, xt, xa⟩], by omega, by omega, by go_num, rfl, m9, hb.trans (((b4.trans ((below_alloc w4 _).mono b4.size)).mono hsz).trans b9), by rw [unhide HPV, List.append_assoc]; exact (unhide HQ2)⟩
                  case measure => simp [intOf]; omega
            · have e8 : (zk == 8) = false := by simpa using h8
              simp only [decide_eq_false h8] at hq
              simp only [Bool.and_false, Bool.false_eq_true, if_false] at hq
              clear h8
              have HQ2 := hide hq
              clear hq
              go_wp2_with (first | (go_at_call 35; (with_reducible refine (unhide Cyo wr).mono ?_); rintro e w2 ⟨rfl, q2⟩; have b2 := q2; have y20 := ((unhide HY).later b2).k; have y21 := ((unhide HY).later b2).t; have y22 := ((unhide HY).later b2).a; simp only at y20 y21 y22; have x20 := ((unhide HX).later b2).k; have x21 := ((unhide HX).later b2).t; have x22 := ((unhide HX).later b2).a; simp only at x20 x21 x22; have n2 := ((unhide HN).later b2).k; simp only at n2) | (at_builtin; refine wpList_appW rfl (.tmp 69) (.tmp 74) rfl w.heap.size bo m d OO (by simp [Act.eval, Act.put]) ((unhide HM).later (b2.trans ((below_alloc w2 _).mono b2.size))) w2.heap.size ⟨xk, xt, xa⟩ (by simp [Act.eval, Act.put]) (AtW.of_row (heap_alloc_new w2 _)) (by omega) (by have := b2.size; simp; omega) ?_; intro bo1 d1 w9 m9 b9))
              go_roundw
              case rel => exact ⟨j + 1, bo1, m + 1, d1, OO ++ [⟨xk, xt, xa⟩], by omega, by omega, by go_num, rfl, m9, hb.trans (((b2.trans ((below_alloc w2 _).mono b2.size)).mono hsz).trans b9), by rw [unhide HPV, List.append_assoc]; exact (unhide HQ2)⟩
              case measure => simp [intOf]; omega
          · have hnx2 : ¬ ((j : Nat) : Int) + 1 < (n : Int) := by omega
            have hdn : dbg (l.drop (j + 1)) [dQu] = false := by rw [List.drop_of_length_le (by rw [unhide hln]; omega)]; rfl
            simp only [hdn] at hq
            clear hdn
            simp only [Bool.and_false, Bool.false_eq_true, if_false] at hq
            have HQ2 := hide hq
            clear hq
            go_wp2_with (first | (go_at_call 35; (with_reducible refine (unhide Cyo wr).mono ?_); rintro e w2 ⟨rfl, q2⟩; have b2 := q2; have y20 := ((unhide HY).later b2).k; have y21 := ((unhide HY).later b2).t; have y22 := ((unhide HY).later b2).a; simp only at y20 y21 y22; have x20 := ((unhide HX).later b2).k; have x21 := ((unhide HX).later b2).t; have x22 := ((unhide HX).later b2).a; simp only at x20 x21 x22) | (at_builtin; refine wpList_appW rfl (.tmp 69) (.tmp 74) rfl w.heap.size bo m d OO (by simp [Act.eval, Act.put]) ((unhide HM).later (b2.trans ((below_alloc w2 _).mono b2.size))) w2.heap.size ⟨xk, xt, xa⟩ (by simp [Act.eval, Act.put]) (AtW.of_row (heap_alloc_new w2 _)) (by omega) (by have := b2.size; simp; omega) ?_; intro bo1 d1 w9 m9 b9))
            go_roundw
            case rel => exact ⟨j + 1, bo1, m + 1, d1, OO ++ [⟨xk, xt, xa⟩], by omega, by omega, by go_num, rfl, m9, hb.trans (((b2.trans ((below_alloc w2 _).mono b2.size)).mono hsz).trans b9), by rw [unhide HPV, List.append_assoc]; exact (unhide HQ2)⟩
            case measure => simp [intOf]; omega
        | false =>
          simp only [Bool.false_or] at hq
          cases YC with
          | true =>
            simp only [Bool.true_or] at hq
            simp only [Bool.true_and] at hq
            by_cases hnx : j + 1 < n
            · have hnx2 : ((j : Nat) : Int) + 1 < (n : Int) := by omega
              obtain ⟨z, hz⟩ : ∃ p, l[j + 1]? = some p := ⟨_, List.getElem?_eq_getElem (by rw [unhide hln]; exact hnx)⟩
              obtain ⟨b5, o5, i5, a5⟩ := ((unhide HW).later hb).idx hz ((j : Int) + 1) (by omega)
              simp only [dbg_next hz] at hq
              obtain ⟨zk, zt, za⟩ := z
              have HN := hide a5
              have nw := a5.k
              simp only at nw hq
              clear a5 hz
              by_cases h8 : zk = 8
              · subst h8
                simp only [decide_true, Bool.and_true] at hq
                cases M with
                | true =>
                  simp only [Bool.true_or, if_true] at hq
                  have HQ2 := hide hq
                  clear hq
                  go_wp2_with (first | (go_at_call 35; (with_reducible refine (unhide Cyo wr).mono ?_); rintro e w2 ⟨rfl, q2⟩; have b2 := q2; have y20 := ((unhide HY).later b2).k; have y21 := ((unhide HY).later b2).t; have y22 := ((unhide HY).later b2).a; simp only at y20 y21 y22; have x20 := ((unhide HX).later b2).k; have x21 := ((unhide HX).later b2).t; have x22 := ((unhide HX).later b2).a; simp only at x20 x21 x22; have n2 := ((unhide HN).later b2).k; simp only at n2) | (go_at_call 35; (with_reducible refine (unhide Cyc w2).mono ?_); rintro e w3 ⟨rfl, q3⟩; have b3 := belT b2 q3; have y30 := ((unhide HY).later b3).k; have y31 := ((unhide HY).later b3).t; have y32 := ((unhide HY).later b3).a; simp only at y30 y31 y32; have x30 := ((unhide HX).later b3).k; have x31 := ((unhide HX).later b3).t; have x32 := ((unhide HX).later b3).a; simp only at x30 x31 x32; have n3 := ((unhide HN).later b3).k; simp only at n3) | (go_at_call 35; (with_reducible refine (unhide Cxm w3).mono ?_); rintro e w4 ⟨rfl, q4⟩; have b4 := belT b3 q4; have y40 := ((unhide HY).later b4).k; have y41 := ((unhide HY).later b4).t; have y42 := ((unhide HY).later b4).a; simp only at y40 y41 y42; have x40 := ((unhide HX).later b4).k; have x41 := ((unhide HX).later b4).t; have x42 := ((unhide HX).later b4).a; simp only at x40 x41 x42; have n4 := ((unhide HN).later b4).k; simp only at n4))
                  go_roundw
                  case rel => exact ⟨j + 1, bo, m, d, OO, by omega, by omega, by go_num, rfl, (unhide HM).later b4, hb.trans (b4.mono hsz), by rw [unhide HPV]; exact (unhide HQ2)⟩
                  case measure => simp [intOf]; omega
                | false =>
                  simp only [Bool.false_or] at hq
                  cases P with
                  | true =>
                    simp only [if_true] at hq
                    have HQ2 := hide hq
                    clear hq
                    go_wp2_with (first | (go_at_call 35; (with_reducible refine (unhide Cyo wr).mono ?_); rintro e w2 ⟨rfl, q2⟩; have b2 := q2; have y20 := ((unhide HY).later b2).k; have y21 := ((unhide HY).later b2).t; have y22 := ((unhide HY).later b2).a; simp only at y20 y21 y22; have x20 := ((unhide HX).later b2).k; have x21 := ((unhide HX).later b2).t; have x22 := ((unhide HX).later b2).a; simp only at x20 x21 x22; have n2 := ((unhide HN).later b2).k; simp only at n2) | (go_at_call 35; (with_reducible refine (unhide Cyc w2).mono ?_); rintro e w3 ⟨rfl, q3⟩; have b3 := belT b2 q3; have y30 := ((unhide HY).later b3).k; have y31 := ((unhide HY).later b3).t; have y32 := ((unhide HY).later b3).a; simp only at y30 y31 y32; have x30 := ((unhide HX).later b3).k; have x31 := ((unhide HX).later b3).t; have x32 := ((unhide HX).later b3).a; simp only at x30 x31 x32; have n3 := ((unhide HN).later b3).k; simp only at n3) | (go_at_call 35; (with_reducible refine (unhide Cxm w3).mono ?_); rintro e w4 ⟨rfl, q4⟩; have b4 := belT b3 q4; have y40 := ((unhide HY).later b4).k; have y41 := ((unhide HY).later b4).t; have y42 := ((unhide HY).later b4).a; simp only at y40 y41 y42; have x40 := ((unhide HX).later b4).k; have x41 := ((unhide HX).later b4).t; have x42 := ((unhide HX).later b4).a; simp only at x40 x41 x42; have n4 := ((unhide HN).later b4).k; simp only at n4) | (go_at_call 35; (with_reducible refine (unhide Cxp w4).mono ?_); rintro e w5 ⟨rfl, q5⟩; have b5 := belT b4 q5; have y50 := ((unhide HY).later b5).k; have y51 := ((unhide HY).later b5).t; have y52 := ((unhide HY).later b5).a; simp only at y50 y51 y52; have x50 := ((unhide HX).later b5).k; have x51 := ((unhide HX).later b5).t; have x52 := ((unhide HX).later b5).a; simp only at x50 x51 x52; have n5 := ((unhide HN).later b5).k; simp only at n5))
                    go_roundw
                    case rel => exact ⟨j + 1, bo, m, d, OO, by omega, by omega, by go_num, rfl, (unhide HM).later b5, hb.trans (b5.mono hsz), by rw [unhide HPV]; exact (unhide HQ2)⟩
                    case measure => simp [intOf]; omega
                  | false =>
                    simp only [Bool.false_eq_true, if_false] at hq
                    have HQ2 := hide hq
                    clear hq
                    go_wp2_with (first | (go_at_call 35; (with_reducible refine (unhide Cyo wr).mono ?_); rintro e w2 ⟨rfl, q2⟩; have b2 := q2; have y20 := ((unhide HY).later b2).k; have y21 := ((unhide HY).later b2).t; have y22 := ((unhide HY).later b2).a; simp only at y20 y21 y22; have x20 := ((unhide HX).later b2).k; have x21 := ((unhide HX).later b2).t; have x22 := ((unhide HX).later b2).a; simp only at x20 x21 x22; have n2 := ((unhide HN).later b2).k; simp only at n2) | (go_at_call 35; (with_reducible refine (unhide Cyc w2).mono ?_); rintro e w3 ⟨rfl, q3⟩; have b3 := belT b2 q3; have y30 := ((unhide HY).later b3).k; have y31 := ((unhide HY).later b3).t; have y32 := ((unhide HY).later b3).a; simp only at y30 y31 y32; have x30 := ((unhide HX).later b3).k; have x31 := ((unhide HX).later b3).t; have x32 := ((unhide HX).later b3).a; simp only at x30 x31 x32; have n3 := ((unhide HN).later b3).k; simp only at n3) | (go_at_call 35; (with_reducible refine (unhide Cxm w3).mono ?_); rintro e w4 ⟨rfl, q4⟩; have b4 := belT b3 q4; have y40 := ((unhide HY).later b4).k; have y41 := ((unhide HY).later b4).t; have y42 := ((unhide HY).later b4).a; simp only at y40 y41 y42; have x40 := ((unhide HX).later b4).k; have x41 := ((unhide HX).later b4).t; have x42 := ((unhide HX).later b4).a; simp only at x40 x41 x42; have n4 := ((unhide HN).later b4).k; simp only at n4) | (go_at_call 35; (with_reducible refine (unhide Cxp w4).mono ?_); rintro e w5 ⟨rfl, q5⟩; have b5 := belT b4 q5; have y50 := ((unhide HY).later b5).k; have y51 := ((unhide HY).later b5).t; have y52 := ((unhide HY).later b5).a; simp only at y50 y51 y52; have x50 := ((unhide HX).later b5).k; have x51 := ((unhide HX).later b5).t; have x52 := ((unhide HX).later b5).a; simp only at x50 x51 x52; have n5 := ((unhide HN).later b5).k; simp only at n5) | (at_builtin; refine wpList_appW rfl (.tmp 69) (.tmp 74) rfl w.heap.size bo m d OO (by simp [Act.eval, Act.put]) ((unhide HM).later (b5.trans ((below_alloc w5 _).mono b5.size))) w5.heap.size ⟨xk, xt, xa⟩ (by simp [Act.eval, Act.put]) (AtW.of_row (heap_alloc_new w5 _)) (by omega) (by have := b5.size; simp; omega) ?_; intro bo1 d1 w9 m9 b9))
                    go_roundw
                    case rel => exact ⟨j + 1, bo1, m + 1, d1, OO ++ [⟨xk, xt, xa⟩], by omega, by omega, by go_num, rfl, m9, hb.trans (((b5.trans ((below_alloc w5 _).mono b5.size)).mono hsz).trans b9), by rw [unhide HPV, List.append_assoc]; exact (unhide HQ2)⟩
                    case measure => simp [intOf]; omega
              · have e8 : (zk == 8) = false := by simpa using h8
                simp only [decide_eq_false h8] at hq
                simp only [Bool.and_false, Bool.false_eq_true, if_false] at hq
                clear h8
                have HQ2 := hide hq
                clear hq
                go_wp2_with (first | (go_at_call 35; (with_reducible refine (unhide Cyo wr).mono ?_); rintro e w2 ⟨rfl, q2⟩; have b2 := q2; have y20 := ((unhide HY).later b2).k; have y21 := ((unhide HY).later b2).t; have y22 := ((unhide HY).later b2).a; simp only at y20 y21 y22; have x20 := ((unhide HX).later b2).k; have x21 := ((unhide HX).later b2).t; have x22 := ((unhide HX).later b2).a; simp only at x20 x21 x22; have n2 := ((unhide HN).later b2).k; simp only at n2) | (go_at_call 35; (with_reducible refine (unhide Cyc w2).mono ?_); rintro e w3 ⟨rfl, q3⟩; have b3 := belT b2 q3; have y30 := ((unhide HY).later b3).k; have y31 := ((unhide HY).later b3).t; have y32 := ((unhide HY).later b3).a; simp only at y30 y31 y32; have x30 := ((unhide HX).later b3).k; have x31 := ((unhide HX).later b3).t; have x32 := ((unhide HX).later b3).a; simp only at x30 x31 x32; have n3 := ((unhide HN).later b3).k; simp only at n3) | (at_builtin; refine wpList_appW rfl (.tmp 69) (.tmp 74) rfl w.heap.size bo m d OO (by simp [Act.eval, Act.put]) ((unhide HM).later (b3.trans ((below_alloc w3 _).mono b3.size))) w3.heap.size ⟨xk, xt, xa⟩ (by simp [Act.eval, Act.put]) (AtW.of_row (heap_alloc_new w3 _)) (by omega) (by have := b3.size; simp; omega) ?_; intro bo1 d1 w9 m9 b9))
                go_roundw
                case rel => exact ⟨j + 1, bo1, m + 1, d1, OO ++ [⟨xk, xt, xa⟩], by omega, by omega, by go_num, rfl, m9, hb.trans (((b3.trans ((below_alloc w3 _).mono b3.size)).mono hsz).trans b9), by rw [unhide HPV, List.append_assoc]; exact (unhide HQ2)⟩
                case measure => simp [intOf]; omega
            · have hnx2 : ¬ ((j : Nat) : Int) + 1 < (n : Int) := by omega
              have hdn : dbg (l.drop (j + 1)) [dQu] = false := by rw [List.drop_of_length_le (by rw [unhide hln]; omega)]; rfl
              simp only [hdn] at hq
              clear hdn
              simp only [Bool.and_false, Bool.false_eq_true, if_false] at hq
              have HQ2 := hide hq
              clear hq
              go_wp2_with (first | (go_at_call 35; (with_reducible refine (unhide Cyo wr).mono ?_); rintro e w2 ⟨rfl, q2⟩; have b2 := q2; have y20 := ((unhide HY).later b2).k; have y21 := ((unhide HY).later b2).t; have y22 := ((unhide HY).later b2).a; simp only at y20 y21 y22; have x20 := ((unhide HX).later b2).k; have x21 := ((unhide HX).later b2).t; have x22 := ((unhide HX).later b2).a; simp only at x20 x21 x22) | (go_at_call 35; (with_reducible refine (unhide Cyc w2).mono ?_); rintro e w3 ⟨rfl, q3⟩; have b3 := belT b2 q3; have y30 := ((unhide HY).later b3).k; have y31 := ((unhide HY).later b3).t; have y32 := ((unhide HY).later b3).a; simp only at y30 y31 y32; have x30 := ((unhide HX).later b3).k; have x31 := ((unhide HX).later b3).t; have x32 := ((unhide HX).later b3).a; simp only at x30 x31 x32) | (at_builtin; refine wpList_appW rfl (.tmp 69) (.tmp 74) rfl w.heap.size bo m d OO (by simp [Act.eval, Act.put]) ((unhide HM).later (b3.trans ((below_alloc w3 _).mono b3.size))) w3.heap.size ⟨xk, xt, xa⟩ (by simp [Act.eval, Act.put]) (AtW.of_row (heap_alloc_new w3 _)) (by omega) (by have := b3.size; simp; omega) ?_; intro bo1 d1 w9 m9 b9))
              go_roundw
              case rel => exact ⟨j + 1, bo1, m + 1, d1, OO ++ [⟨xk, xt, xa⟩], by omega, by omega, by go_num, rfl, m9, hb.trans (((b3.trans ((below_alloc w3 _).mono b3.size)).mono hsz).trans b9), by rw [unhide HPV, List.append_assoc]; exact (unhide HQ2)⟩
              case measure => simp [intOf]; omega
          | false =>
            simp only [Bool.false_or] at hq
            cases YE with
            | true =>
              simp only [Bool.true_and] at hq
              by_cases hnx : j + 1 < n
              · have hnx2 : ((j : Nat) : Int) + 1 < (n : Int) := by omega
                obtain ⟨z, hz⟩ : ∃ p, l[j + 1]? = some p := ⟨_, List.getElem?_eq_getElem (by rw [unhide hln]; exact hnx)⟩
                obtain ⟨b5, o5, i5, a5⟩ := ((unhide HW).later hb).idx hz ((j : Int) + 1) (by omega)
                simp only [dbg_next hz] at hq
                obtain ⟨zk, zt, za⟩ := z
                have HN := hide a5
                have nw := a5.k
                simp only at nw hq
                clear a5 hz
                by_cases h8 : zk = 8
                · subst h8
                  simp only [decide_true, Bool.and_true] at hq
                  cases M with
                  | true =>
                    simp only [Bool.true_or, if_true] at hq
                    have HQ2 := hide hq
                    clear hq
                    go_wp2_with (first | (go_at_call 35; (with_reducible refine (unhide Cyo wr).mono ?_); rintro e w2 ⟨rfl, q2⟩; have b2 := q2; have y20 := ((unhide HY).later b2).k; have y21 := ((unhide HY).later b2).t; have y22 := ((unhide HY).later b2).a; simp only at y20 y21 y22; have x20 := ((unhide HX).later b2).k; have x21 := ((unhide HX).later b2).t; have x22 := ((unhide HX).later b2).a; simp only at x20 x21 x22; have n2 := ((unhide HN).later b2).k; simp only at n2) | (go_at_call 35; (with_reducible refine (unhide Cyc w2).mono ?_); rintro e w3 ⟨rfl, q3⟩; have b3 := belT b2 q3; have y30 := ((unhide HY).later b3).k; have y31 := ((unhide HY).later b3).t; have y32 := ((unhide HY).later b3).a; simp only at y30 y31 y32; have x30 := ((unhide HX).later b3).k; have x31 := ((unhide HX).later b3).t; have x32 := ((unhide HX).later b3).a; simp only at x30 x31 x32; have n3 := ((unhide HN).later b3).k; simp only at n3) | (go_at_call 35; (with_reducible refine (unhide Cye w3).mono ?_); rintro e w4 ⟨rfl, q4⟩; have b4 := belT b3 q4; have y40 := ((unhide HY).later b4).k; have y41 := ((unhide HY).later b4).t; have y42 := ((unhide HY).later b4).a; simp only at y40 y41 y42; have x40 := ((unhide HX).later b4).k; have x41 := ((unhide HX).later b4).t; have x42 := ((unhide HX).later b4).a; simp only at x40 x41 x42; have n4 := ((unhide HN).later b4).k; simp only at n4) | (go_at_call 35; (with_reducible refine (unhide Cxm w4).mono ?_); rintro e w5 ⟨rfl, q5⟩; have b5 := belT b4 q5; have y50 := ((unhide HY).later b5).k; have y51 := ((unhide HY).later b5).t; have y52 := ((unhide HY).later b5).a; simp only at y50 y51 y52; have x50 := ((unhide HX).later b5).k; have x51 := ((unhide HX).later b5).t; have x52 := ((unhide HX).later b5).a; simp only at x50 x51 x52; have n5 := ((unhide HN).later b5).k; simp only at n5))
                    go_roundw
                    case rel => exact ⟨j + 1, bo, m, d, OO, by omega, by omega, by go_num, rfl, (unhide HM).later b5, hb.trans (b5.mono hsz), by rw [unhide HPV]; exact (unhide HQ2)⟩
                    case measure => simp [intOf]; omega
                  | false =>
                    simp only [Bool.false_or] at hq
                    cases P with
                    | true =>
                      simp only [if_true] at hq
                      have HQ2 := hide hq
                      clear hq
                      go_wp2_with (first | (go_at_call 35; (with_reducible refine (unhide Cyo wr).mono ?_); rintro e w2 ⟨rfl, q2⟩; have b2 := q2; have y20 := ((unhide HY).later b2).k; have y21 := ((unhide HY).later b2).t; have y22 := ((unhide HY).later b2).a; simp only at y20 y21 y22; have x20 := ((unhide HX).later b2).k; have x21 := ((unhide HX).later b2).t; have x22 := ((unhide HX).later b2).a; simp only at x20 x21 x22; have n2 := ((unhide HN).later b2).k; simp only at n2) | (go_at_call 35; (with_reducible refine (unhide Cyc w2).mono ?_); rintro e w3 ⟨rfl, q3⟩; have b3 := belT b2 q3; have y30 := ((unhide HY).later b3).k; have y31 := ((unhide HY).later b3).t; have y32 := ((unhide HY).later b3).a; simp only at y30 y31 y32; have x30 := ((unhide HX).later b3).k; have x31 := ((unhide HX).later b3).t; have x32 := ((unhide HX).later b3).a; simp only at x30 x31 x32; have n3 := ((unhide HN).later b3).k; simp only at n3) | (go_at_call 35; (with_reducible refine (unhide Cye w3).mono ?_); rintro e w4 ⟨rfl, q4⟩; have b4 := belT b3 q4; have y40 := ((unhide HY).later b4).k; have y41 := ((unhide HY).later b4).t; have y42 := ((unhide HY).later b4).a; simp only at y40 y41 y42; have x40 := ((unhide HX).later b4).k; have x41 := ((unhide HX).later b4).t; have x42 := ((unhide HX).later b4).a; simp only at x40 x41 x42; have n4 := ((unhide HN).later b4).k; simp only at n4) | (go_at_call 35; (with_reducible refine (unhide Cxm w4).mono ?_); rintro e w5 ⟨rfl, q5⟩; have b5 := belT b4 q5; have y50 := ((unhide HY).later b5).k; have y51 := ((unhide HY).later b5).t; have y52 := ((unhide HY).later b5).a; simp only at y50 y51 y52; have x50 := ((unhide HX).later b5).k; have x51 := ((unhide HX).later b5).t; have x52 := ((unhide HX).later b5).a; simp only at x50 x51 x52; have n5 := ((unhide HN).later b5).k; simp only at n5) | (go_at_call 35; (with_reducible refine (unhide Cxp w5).mono ?_); rintro e w6 ⟨rfl, q6⟩; have b6 := belT b5 q6; have y60 := ((unhide HY).later b6).k; have y61 := ((unhide HY).later b6).t; have y62 := ((unhide HY).later b6).a; simp only at y60 y61 y62; have x60 := ((unhide HX).later b6).k; have x61 := ((unhide HX).later b6).t; have x62 := ((unhide HX).later b6).a; simp only at x60 x61 x62; have n6 := ((unhide HN).later b6).k; simp only at n6))
                      go_roundw
                      case rel => exact ⟨j + 1, bo, m, d, OO, by omega, by omega, by go_num, rfl, (unhide HM).later b6, hb.trans (b6.mono hsz), by rw [unhide HPV]; exact (unhide HQ2)⟩
                      case measure => simp [intOf]; omega
                    | false =>
                      simp only [Bool.false_eq_true, if_false] at hq
                      have HQ2 := hide hq
                      clear hq
                      go_wp2_with (first | (go_at_call 35; (with_reducible refine (unhide Cyo wr).mono ?_); rintro e w2 ⟨rfl, q2⟩; have b2 := q2; have y20 := ((unhide HY).later b2).k; have y21 := ((unhide HY).later b2).t; have y22 := ((unhide HY).later b2).a; simp only at y20 y21 y22; have x20 := ((unhide HX).later b2).k; have x21 := ((unhide HX).later b2).t; have x22 := ((unhide HX).later b2).a; simp only at x20 x21 x22; have n2 := ((unhide HN).later b2).k; simp only at n2) | (go_at_call 35; (with_reducible refine (unhide Cyc w2).mono ?_); rintro e w3 ⟨rfl, q3⟩; have b3 := belT b2 q3; have y30 := ((unhide HY).later b3).k; have y31 := ((unhide HY).later b3).t; have y32 := ((unhide HY).later b3).a; simp only at y30 y31 y32; have x30 := ((unhide HX).later b3).k; have x31 := ((unhide HX).later b3).t; have x32 := ((unhide HX).later b3).a; simp only at x30 x31 x32; have n3 := ((unhide HN).later b3).k; simp only at n3) | (go_at_call 35; (with_reducible refine (unhide Cye w3).mono ?_); rintro e w4 ⟨rfl, q4⟩; have b4 := belT b3 q4; have y40 := ((unhide HY).later b4).k; have y41 := ((unhide HY).later b4).t; have y42 := ((unhide HY).later b4).a; simp only at y40 y41 y42; have x40 := ((unhide HX).later b4).k; have x41 := ((unhide HX).later b4).t; have x42 := ((unhide HX).later b4).a; simp only at x40 x41 x42; have n4 := ((unhide HN).later b4).k; simp only at n4) | (go_at_call 35; (with_reducible refine (unhide Cxm w4).mono ?_); rintro e w5 ⟨rfl, q5⟩; have b5 := belT b4 q5; have y50 := ((unhide HY).later b5).k; have y51 := ((unhide HY).later b5).t; have y52 := ((unhide HY).later b5).a; simp only at y50 y51 y52; have x50 := ((unhide HX).later b5).k; have x51 := ((unhide HX).later b5).t; have x52 := ((unhide HX).later b5).a; simp only at x50 x51 x52; have n5 := ((unhide HN).later b5).k; simp only at n5) | (go_at_call 35; (with_reducible refine (unhide Cxp w5).mono ?_); rintro e w6 ⟨rfl, q6⟩; have b6 := belT b5 q6; have y60 := ((unhide HY).later b6).k; have y61 := ((unhide HY).later b6).t; have y62 := ((unhide HY).later b6).a; simp only at y60 y61 y62; have x60 := ((unhide HX).later b6).k; have x61 := ((unhide HX).later b6).t; have x62 := ((unhide HX).later b6).a; simp only at x60 x61 x62; have n6 := ((unhide HN).later b6).k; simp only at n6) | (at_builtin; refine wpList_appW rfl (.tmp 69) (.tmp 74) rfl w.heap.size bo m d OO (by simp [Act.eval, Act.put]) ((unhide HM).later (b6.trans ((below_alloc w6 _).mono b6.size))) w6.heap.size ⟨xk, xt, xa⟩ (by simp [Act.eval, Act.put]) (AtW.of_row (heap_alloc_new w6 _)) (by omega) (by have := b6.size; simp; omega) ?_; intro bo1 d1 w9 m9 b9))
                      go_roundw
                      case rel => exact ⟨j + 1, bo1, m + 1, d1, OO ++ [⟨xk, xt, xa⟩], by omega, by omega, by go_num, rfl, m9, hb.trans (((b6.trans ((below_alloc w6 _).mono b6.size)).mono hsz).trans b9), by rw [unhide HPV, List.append_assoc]; exact (unhide HQ2)⟩
                      case measure => simp [intOf]; omega
                · have e8 : (zk == 8) = false := by simpa using h8
                  simp only [decide_eq_false h8] at hq
                  simp only [Bool.and_false, Bool.false_eq_true, if_false] at hq
                  clear h8
                  have HQ2 := hide hq
                  clear hq
                  go_wp2_with (first | (go_at_call 35; (with_reducible refine (unhide Cyo wr).mono ?_); rintro e w2 ⟨rfl, q2⟩; have b2 := q2; have y20 := ((unhide HY).later b2).k; have y21 := ((unhide HY).later b2).t; have y22 := ((unhide HY).later b2).a; simp only at y20 y21 y22; have x20 := ((unhide HX).later b2).k; have x21 := ((unhide HX).later b2).t; have x22 := ((unhide HX).later b2).a; simp only at x20 x21 x22; have n2 := ((unhide HN).later b2).k; simp only at n2) | (go_at_call 35; (with_reducible refine (unhide Cyc w2).mono ?_); rintro e w3 ⟨rfl, q3⟩; have b3 := belT b2 q3; have y30 := ((unhide HY).later b3).k; have y31 := ((unhide HY).later b3).t; have y32 := ((unhide HY).later b3).a; simp only at y30 y31 y32; have x30 := ((unhide HX).later b3).k; have x31 := ((unhide HX).later b3).t; have x32 := ((unhide HX).later b3).a; simp only at x30 x31 x32; have n3 := ((unhide HN).later b3).k; simp only at n3) | (go_at_call 35; (with_reducible refine (unhide Cye w3).mono ?_); rintro e w4 ⟨rfl, q4⟩; have b4 := belT b3 q4; have y40 := ((unhide HY).later b4).k; have y41 := ((unhide HY).later b4).t; have y42 := ((unhide HY).later b4).a; simp only at y40 y41 y42; have x40 := ((unhide HX).later b4).k; have x41 := ((unhide HX).later b4).t; have x42 := ((unhide HX).later b4).a; simp only at x40 x41 x42; have n4 := ((unhide HN).later b4).k; simp only at n4) | (at_builtin; refine wpList_appW rfl (.tmp 69) (.tmp 74) rfl w.heap.size bo m d OO (by simp [Act.eval, Act.put]) ((unhide HM).later (b4.trans ((below_alloc w4 _).mono b4.size))) w4.heap.size ⟨xk, xt, xa⟩ (by simp [Act.eval, Act.put]) (AtW.of_row (heap_alloc_new w4 _)) (by omega) (by have := b4.size; simp; omega) ?_; intro bo1 d1 w9 m9 b9))
                  go_roundw
                  case rel => exact ⟨j + 1, bo1, m + 1, d1, OO ++ [⟨xk, xt, xa⟩], by omega, by omega, by go_num, rfl, m9, hb.trans (((b4.trans ((below_alloc w4 _).mono b4.size)).mono hsz).trans b9), by rw [unhide HPV, List.append_assoc]; exact (unhide HQ2)⟩
                  case measure => simp [intOf]; omega
              · have hnx2 : ¬ ((j : Nat) : Int) + 1 < (n : Int) := by omega
                have hdn : dbg (l.drop (j + 1)) [dQu] = false := by rw [List.drop_of_length_le (by rw [unhide hln]; omega)]; rfl
                simp only [hdn] at hq
                clear hdn
                simp only [Bool.and_false, Bool.false_eq_true, if_false] at hq
                have HQ2 := hide hq
                clear hq
                go_wp2_with (first | (go_at_call 35; (with_reducible refine (unhide Cyo wr).mono ?_); rintro e w2 ⟨rfl, q2⟩; have b2 := q2; have y20 := ((unhide HY).later b2).k; have y21 := ((unhide HY).later b2).t; have y22 := ((unhide HY).later b2).a; simp only at y20 y21 y22; have x20 := ((unhide HX).later b2).k; have x21 := ((unhide HX).later b2).t; have x22 := ((unhide HX).later b2).a; simp only at x20 x21 x22) | (go_at_call 35; (with_reducible refine (unhide Cyc w2).mono ?_); rintro e w3 ⟨rfl, q3⟩; have b3 := belT b2 q3; have y30 := ((unhide HY).later b3).k; have y31 := ((unhide HY).later b3).t; have y32 := ((unhide HY).later b3).a; simp only at y30 y31 y32; have x30 := ((unhide HX).later b3).k; have x31 := ((unhide HX).later b3).t; have x32 := ((unhide HX).later b3).a; simp only at x30 x31 x32) | (go_at_call 35; (with_reducible refine (unhide Cye w3).mono ?_); rintro e w4 ⟨rfl, q4⟩; have b4 := belT b3 q4; have y40 := ((unhide HY).later b4).k; have y41 := ((unhide HY).later b4).t; have y42 := ((unhide HY).later b4).a; simp only at y40 y41 y42; have x40 := ((unhide HX).later b4).k; have x41 := ((unhide HX).later b4).t; have x42 := ((unhide HX).later b4).a; simp only at x40 x41 x42) | (at_builtin; refine wpList_appW rfl (.tmp 69) (.tmp 74) rfl w.heap.size bo m d OO (by simp [Act.eval, Act.put]) ((unhide HM).later (b4.trans ((below_alloc w4 _).mono b4.size))) w4.heap.size ⟨xk, xt, xa⟩ (by simp [Act.eval, Act.put]) (AtW.of_row (heap_alloc_new w4 _)) (by omega) (by have := b4.size; simp; omega) ?_; intro bo1 d1 w9 m9 b9))
                go_roundw
                case rel => exact ⟨j + 1, bo1, m + 1, d1, OO ++ [⟨xk, xt, xa⟩], by omega, by omega, by go_num, rfl, m9, hb.trans (((b4.trans ((below_alloc w4 _).mono b4.size)).mono hsz).trans b9), by rw [unhide HPV, List.append_assoc]; exact (unhide HQ2)⟩
                case measure => simp [intOf]; omega
            | false =>
              simp only [Bool.false_and, Bool.false_eq_true, if_false] at hq
              have HQ2 := hide hq
              clear hq
              go_wp2_with (first | (go_at_call 35; (with_reducible refine (unhide Cyo wr).mono ?_); rintro e w2 ⟨rfl, q2⟩; have b2 := q2; have y20 := ((unhide HY).later b2).k; have y21 := ((unhide HY).later b2).t; have y22 := ((unhide HY).later b2).a; simp only at y20 y21 y22; have x20 := ((unhide HX).later b2).k; have x21 := ((unhide HX).later b2).t; have x22 := ((unhide HX).later b2).a; simp only at x20 x21 x22) | (go_at_call 35; (with_reducible refine (unhide Cyc w2).mono ?_); rintro e w3 ⟨rfl, q3⟩; have b3 := belT b2 q3; have y30 := ((unhide HY).later b3).k; have y31 := ((unhide HY).later b3).t; have y32 := ((unhide HY).later b3).a; simp only at y30 y31 y32; have x30 := ((unhide HX).later b3).k; have x31 := ((unhide HX).later b3).t; have x32 := ((unhide HX).later b3).a; simp only at x30 x31 x32) | (go_at_call 35; (with_reducible refine (unhide Cye w3).mono ?_); rintro e w4 ⟨rfl, q4⟩; have b4 := belT b3 q4; have y40 := ((unhide HY).later b4).k; have y41 := ((unhide HY).later b4).t; have y42 := ((unhide HY).later b4).a; simp only at y40 y41 y42; have x40 := ((unhide HX).later b4).k; have x41 := ((unhide HX).later b4).t; have x42 := ((unhide HX).later b4).a; simp only at x40 x41 x42) | (at_builtin; refine wpList_appW rfl (.tmp 69) (.tmp 74) rfl w.heap.size bo m d OO (by simp [Act.eval, Act.put]) ((unhide HM).later (b4.trans ((below_alloc w4 _).mono b4.size))) w4.heap.size ⟨xk, xt, xa⟩ (by simp [Act.eval, Act.put]) (AtW.of_row (heap_alloc_new w4 _)) (by omega) (by have := b4.size; simp; omega) ?_; intro bo1 d1 w9 m9 b9))
              go_roundw
              case rel => exact ⟨j + 1, bo1, m + 1, d1, OO ++ [⟨xk, xt, xa⟩], by omega, by omega, by go_num, rfl, m9, hb.trans (((b4.trans ((below_alloc w4 _).mono b4.size)).mono hsz).trans b9), by rw [unhide HPV, List.append_assoc]; exact (unhide HQ2)⟩
              case measure => simp [intOf]; omega
    · have hjn : j = n := by omega
      subst hjn
      have h1 := hide (show OO = R by
        rw [List.drop_of_length_le (by rw [unhide hln]; exact Nat.le_refl _)] at hq
        simpa [dsg] using hq)
      clear hq
      go_wp2_with fail
      go_ret
      exact ⟨bo, m, d, rfl, by rw [← unhide h1]; exact unhide HM, hb⟩

end Go.Proofs.YtgbahfadjdincaaDoor
