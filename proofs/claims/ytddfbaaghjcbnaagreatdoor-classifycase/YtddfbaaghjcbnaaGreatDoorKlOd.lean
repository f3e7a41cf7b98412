/-
  What isOdd of package classify returns, and where the first word is of which a function answers true. Conditions: the words lie behind the slice; each says at most 2 to the 30 bytes; the sets lie in memory.
-/
import Derived.Test.YtddfbaaghjcbnaaGreatDoorKlPu
import Derived.Shelf.Abstract
namespace Go.Proofs.YtddfbaaghjcbnaaGreatDoor
open Go.RowKit
set_option linter.unusedVariables false
set_option linter.unusedSimpArgs false

theorem zeroWd (w : World) : (zeroValue 35).run Tryz.prog w = .ok (.agg (wdC wd0)) w := by kernel_rfl
theorem oddF_cons (l : List Wd) (p : Wd) (r : List Wd) (i : Nat) : oddF l (p :: r) i = (oddW l i p || oddF l r (i + 1)) := rfl
theorem kdrop_at {l : List Wd} {j : Nat} {p : Wd} (h : l[j]? = some p) : l.drop j = p :: l.drop (j + 1) := by
  obtain ⟨h1, rfl⟩ := List.getElem?_eq_some_iff.1 h
  exact List.drop_eq_getElem_cons h1

set_option maxHeartbeats 4000000 in
set_option maxRecDepth 20000 in
theorem isOdd_any (cs : Array Value) (ao : Option Addr) (n c : Nat) (l : List Wd) (w : World) (hS : Sts cs w) (hW : Wds w ao n c l) : Calls Tryz.prog 37 #[.agg cs, .slice ao n c] w (OutB w (oddL l)) := by
  obtain ⟨g1, g2, g3, g4, g5, rfl, m1, m2, m3, m4, m5⟩ := hS.ex
  have hmx := hW.max
  have hle := hW.le
  have hln := hide hW.len
  have HW := hide hW
  have HM := hide m1
  obtain ⟨R, hR⟩ : ∃ R, R = oddL l := ⟨_, rfl⟩
  rw [← hR]
  have HR := hide hR
  have bX := below_alloc w (.cells #[.map (some g1), .map (some g2), .map (some g3), .map (some g4), .map (some g5)] 48)
  have rX := heap_alloc_new w (.cells #[.map (some g1), .map (some g2), .map (some g3), .map (some g4), .map (some g5)] 48)
  have BX := hide bX
  have RX := hide rX
  clear hS hW m1 m2 m3 m4 m5 hR bX rX
  go_enter Tryz.func37, Tryz.ntmps37
  go_wp2_with fail
  go_loopw [9] (fun iv wr => ∃ (j : Nat), j ≤ n ∧ iv = .int .i64 (j : Int) ∧ Below w.heap.size w wr ∧ wr.heap[w.heap.size]? = some (.cells #[.map (some g1), .map (some g2), .map (some g3), .map (some g4), .map (some g5)] 48 (0, 0)) ∧ R = oddF l (l.drop j) j) (fun iv _ => n - (intOf iv).toNat)
  case atStart => exact ⟨0, by omega, rfl, unhide BX, unhide RX, by rw [List.drop_zero]; exact unhide HR⟩
  case round =>
    obtain ⟨j, hj, rfl, hB, hX, hA⟩ := hrel
    have HQ := hide hA
    clear hA HR BX RX
    by_cases hlt : j < n
    · have hlt2 : ((j : Nat) : Int) < (n : Int) := by omega
      obtain ⟨p, hp⟩ : ∃ p, l[j]? = some p := ⟨_, List.getElem?_eq_getElem (by rw [unhide hln]; exact hlt)⟩
      obtain ⟨b1, o1, i1, a1⟩ := ((unhide HW).later hB).idx hp (j : Int) rfl
      have HA := hide a1
      have hq := unhide HQ
      rw [kdrop_at hp, oddF_cons] at hq
      have CI := hide (fun wx (h : Below w.heap.size w wx) => isInto_any ao n c l j p wx ((unhide HW).later h) hp)
      have CN := hide (fun wx (h : Below w.heap.size w wx) => hasName_any g1 kOdd p wx ((unhide HM).later h))
      have CS := hide (fun wx => kSign_any p (ba [58, 61]) wx)
      have e58 : (ba [58, 61]) = (⟨#[58, 61]⟩ : ByteArray) := rfl
      unfold oddW at hq
      rw [e58] at CS hq
      clear a1 hp HQ e58
      by_cases e9 : p.k = 9
      · have e9' : (p.k == 9) = true := by simpa using e9
        rw [decide_eq_true e9, Bool.true_or, Bool.true_or, Bool.true_or] at hq
        have HQ := hide hq
        clear hq e9
        go_wp2_with (first | (with_reducible show wpList Tryz.prog _ _ (Oper.mk _ (Op.load 35 _) _ _ _ none :: _) _ _; refine wpList_ldW rfl _ rfl b1 o1 (by simp [Act.eval, Act.put]) p (unhide HA) ?_) | (with_reducible show wpList Tryz.prog _ _ (Oper.mk _ (Op.alloc 35) _ _ _ none :: _) _ _; refine wpList_alK rfl _ rfl (wdC wd0) zeroWd ?_; intro w1 r1 q1 z1; clear z1) | (with_reducible show wpList Tryz.prog _ _ (Oper.mk _ (Op.store 35 _ _) _ _ _ none :: _) _ _; refine wpList_stK rfl _ _ _ rfl wr.heap.size (wdC p) (wdC wd0) (by simp [Act.eval, Act.put]) (by simp [Act.eval, Act.put]) r1 (wdc_info p) rfl (wdc_one p) ?_; intro w2 r2 q2 z2; clear z2; have a2 := AtW.of_row r2; have k2 := a2.k; have B2 := belowG q1 q2 (Nat.le_refl _) q1.size; have X2 := row_later hX B2; have x2 := cell_of_row _ _ 0 _ _ _ X2))
        go_ret
        exact ⟨by rw [unhide HQ]; rfl, belT hB B2⟩
      · have e9' : (p.k == 9) = false := by simpa using e9
        rw [decide_eq_false e9, Bool.false_or] at hq
        clear e9
        cases hs : sgW p ⟨#[58, 61]⟩ with
        | true =>
          simp only [hs, Bool.true_or] at CS hq
          have HQ := hide hq
          clear hq hs
          go_wp2_with (first | (with_reducible show wpList Tryz.prog _ _ (Oper.mk _ (Op.load 35 _) _ _ _ none :: _) _ _; refine wpList_ldW rfl _ rfl wr.heap.size 0 (by simp [Act.eval, Act.put]) p a2 ?_) | (with_reducible show wpList Tryz.prog _ _ (Oper.mk _ (Op.load 35 _) _ _ _ none :: _) _ _; refine wpList_ldW rfl _ rfl b1 o1 (by simp [Act.eval, Act.put]) p (unhide HA) ?_) | (with_reducible show wpList Tryz.prog _ _ (Oper.mk _ (Op.alloc 35) _ _ _ none :: _) _ _; refine wpList_alK rfl _ rfl (wdC wd0) zeroWd ?_; intro w1 r1 q1 z1; clear z1) | (with_reducible show wpList Tryz.prog _ _ (Oper.mk _ (Op.store 35 _ _) _ _ _ none :: _) _ _; refine wpList_stK rfl _ _ _ rfl wr.heap.size (wdC p) (wdC wd0) (by simp [Act.eval, Act.put]) (by simp [Act.eval, Act.put]) r1 (wdc_info p) rfl (wdc_one p) ?_; intro w2 r2 q2 z2; clear z2; have a2 := AtW.of_row r2; have k2 := a2.k; have B2 := belowG q1 q2 (Nat.le_refl _) q1.size; have X2 := row_later hX B2; have x2 := cell_of_row _ _ 0 _ _ _ X2) | (go_at_call 36; refine (unhide CS w2).mono ?_; rintro e w3 ⟨rfl, b3⟩; have B3 := belT B2 b3; have X3 := row_later X2 b3; have x3 := cell_of_row _ _ 0 _ _ _ X3; have a3 := a2.later b3))
          go_ret
          exact ⟨by rw [unhide HQ]; rfl, belT hB B3⟩
        | false =>
          simp only [hs, Bool.false_or] at CS hq
          clear hs
          cases hn : inS kOdd p with
          | false =>
            simp only [hn, Bool.false_and, Bool.false_or] at CN hq
            have HQ := hide hq
            clear hq hn
            go_wp2_with (first | (with_reducible show wpList Tryz.prog _ _ (Oper.mk _ (Op.load 35 _) _ _ _ none :: _) _ _; refine wpList_ldW rfl _ rfl wr.heap.size 0 (by simp [Act.eval, Act.put]) p a3 ?_) | (with_reducible show wpList Tryz.prog _ _ (Oper.mk _ (Op.load 35 _) _ _ _ none :: _) _ _; refine wpList_ldW rfl _ rfl wr.heap.size 0 (by simp [Act.eval, Act.put]) p a2 ?_) | (with_reducible show wpList Tryz.prog _ _ (Oper.mk _ (Op.load 35 _) _ _ _ none :: _) _ _; refine wpList_ldW rfl _ rfl b1 o1 (by simp [Act.eval, Act.put]) p (unhide HA) ?_) | (with_reducible show wpList Tryz.prog _ _ (Oper.mk _ (Op.alloc 35) _ _ _ none :: _) _ _; refine wpList_alK rfl _ rfl (wdC wd0) zeroWd ?_; intro w1 r1 q1 z1; clear z1) | (with_reducible show wpList Tryz.prog _ _ (Oper.mk _ (Op.store 35 _ _) _ _ _ none :: _) _ _; refine wpList_stK rfl _ _ _ rfl wr.heap.size (wdC p) (wdC wd0) (by simp [Act.eval, Act.put]) (by simp [Act.eval, Act.put]) r1 (wdc_info p) rfl (wdc_one p) ?_; intro w2 r2 q2 z2; clear z2; have a2 := AtW.of_row r2; have k2 := a2.k; have B2 := belowG q1 q2 (Nat.le_refl _) q1.size; have X2 := row_later hX B2; have x2 := cell_of_row _ _ 0 _ _ _ X2) | (go_at_call 36; refine (unhide CS w2).mono ?_; rintro e w3 ⟨rfl, b3⟩; have B3 := belT B2 b3; have X3 := row_later X2 b3; have x3 := cell_of_row _ _ 0 _ _ _ X3; have a3 := a2.later b3) | (go_at_call 43; refine (unhide CN w3 (belT hB B3)).mono ?_; rintro e w4 ⟨rfl, b4⟩; have B4 := belT B3 b4; have X4 := row_later X3 b4))
            go_roundw
            case rel => exact ⟨j + 1, by omega, by go_num, belT hB B4, X4, unhide HQ⟩
            case measure => simp [intOf]; omega
          | true =>
            simp only [hn, Bool.true_and] at CN hq
            clear hn
            cases hi : intL l j p.tx with
            | false =>
              simp only [hi, Bool.not_false, Bool.true_or] at CI hq
              have HQ := hide hq
              clear hq hi
              go_wp2_with (first | (with_reducible show wpList Tryz.prog _ _ (Oper.mk _ (Op.load 35 _) _ _ _ none :: _) _ _; refine wpList_ldW rfl _ rfl wr.heap.size 0 (by simp [Act.eval, Act.put]) p a3 ?_) | (with_reducible show wpList Tryz.prog _ _ (Oper.mk _ (Op.load 35 _) _ _ _ none :: _) _ _; refine wpList_ldW rfl _ rfl wr.heap.size 0 (by simp [Act.eval, Act.put]) p a2 ?_) | (with_reducible show wpList Tryz.prog _ _ (Oper.mk _ (Op.load 35 _) _ _ _ none :: _) _ _; refine wpList_ldW rfl _ rfl b1 o1 (by simp [Act.eval, Act.put]) p (unhide HA) ?_) | (with_reducible show wpList Tryz.prog _ _ (Oper.mk _ (Op.alloc 35) _ _ _ none :: _) _ _; refine wpList_alK rfl _ rfl (wdC wd0) zeroWd ?_; intro w1 r1 q1 z1; clear z1) | (with_reducible show wpList Tryz.prog _ _ (Oper.mk _ (Op.store 35 _ _) _ _ _ none :: _) _ _; refine wpList_stK rfl _ _ _ rfl wr.heap.size (wdC p) (wdC wd0) (by simp [Act.eval, Act.put]) (by simp [Act.eval, Act.put]) r1 (wdc_info p) rfl (wdc_one p) ?_; intro w2 r2 q2 z2; clear z2; have a2 := AtW.of_row r2; have k2 := a2.k; have B2 := belowG q1 q2 (Nat.le_refl _) q1.size; have X2 := row_later hX B2; have x2 := cell_of_row _ _ 0 _ _ _ X2) | (go_at_call 36; refine (unhide CS w2).mono ?_; rintro e w3 ⟨rfl, b3⟩; have B3 := belT B2 b3; have X3 := row_later X2 b3; have x3 := cell_of_row _ _ 0 _ _ _ X3; have a3 := a2.later b3) | (go_at_call 43; refine (unhide CN w3 (belT hB B3)).mono ?_; rintro e w4 ⟨rfl, b4⟩; have B4 := belT B3 b4; have X4 := row_later X3 b4) | (go_at_call 76; refine (unhide CI w4 (belT hB B4)).mono ?_; rintro e w5 ⟨rfl, b5⟩; have B5 := belT B4 b5; have X5 := row_later X4 b5))
              go_ret
              exact ⟨by rw [unhide HQ]; rfl, belT hB B5⟩
            | true =>
              simp only [hi, Bool.not_true, Bool.false_or] at CI hq
              have HQ := hide hq
              clear hq hi
              go_wp2_with (first | (with_reducible show wpList Tryz.prog _ _ (Oper.mk _ (Op.load 35 _) _ _ _ none :: _) _ _; refine wpList_ldW rfl _ rfl wr.heap.size 0 (by simp [Act.eval, Act.put]) p a3 ?_) | (with_reducible show wpList Tryz.prog _ _ (Oper.mk _ (Op.load 35 _) _ _ _ none :: _) _ _; refine wpList_ldW rfl _ rfl wr.heap.size 0 (by simp [Act.eval, Act.put]) p a2 ?_) | (with_reducible show wpList Tryz.prog _ _ (Oper.mk _ (Op.load 35 _) _ _ _ none :: _) _ _; refine wpList_ldW rfl _ rfl b1 o1 (by simp [Act.eval, Act.put]) p (unhide HA) ?_) | (with_reducible show wpList Tryz.prog _ _ (Oper.mk _ (Op.alloc 35) _ _ _ none :: _) _ _; refine wpList_alK rfl _ rfl (wdC wd0) zeroWd ?_; intro w1 r1 q1 z1; clear z1) | (with_reducible show wpList Tryz.prog _ _ (Oper.mk _ (Op.store 35 _ _) _ _ _ none :: _) _ _; refine wpList_stK rfl _ _ _ rfl wr.heap.size (wdC p) (wdC wd0) (by simp [Act.eval, Act.put]) (by simp [Act.eval, Act.put]) r1 (wdc_info p) rfl (wdc_one p) ?_; intro w2 r2 q2 z2; clear z2; have a2 := AtW.of_row r2; have k2 := a2.k; have B2 := belowG q1 q2 (Nat.le_refl _) q1.size; have X2 := row_later hX B2; have x2 := cell_of_row _ _ 0 _ _ _ X2) | (go_at_call 36; refine (unhide CS w2).mono ?_; rintro e w3 ⟨rfl, b3⟩; have B3 := belT B2 b3; have X3 := row_later X2 b3; have x3 := cell_of_row _ _ 0 _ _ _ X3; have a3 := a2.later b3) | (go_at_call 43; refine (unhide CN w3 (belT hB B3)).mono ?_; rintro e w4 ⟨rfl, b4⟩; have B4 := belT B3 b4; have X4 := row_later X3 b4) | (go_at_call 76; refine (unhide CI w4 (belT hB B4)).mono ?_; rintro e w5 ⟨rfl, b5⟩; have B5 := belT B4 b5; have X5 := row_later X4 b5))
              go_roundw
              case rel => exact ⟨j + 1, by omega, by go_num, belT hB B5, X5, unhide HQ⟩
              case measure => simp [intOf]; omega
    · have hjn : j = n := by omega
      subst hjn
      have h1 := hide (show R = false by rw [unhide HQ, List.drop_of_length_le (by rw [unhide hln]; exact Nat.le_refl _)]; rfl)
      go_wp2_with fail
      go_ret
      exact ⟨by rw [unhide h1]; rfl, hB⟩

/-- Where the first word is of which a function answers true. -/
def ixF (p : Wd → Bool) : List Wd → Nat → Int
  | [], _ => -1
  | x :: r, i => if p x then (i : Int) else ixF p r (i + 1)
theorem ixF_iff (p : Wd → Bool) : ∀ (l : List Wd) (i : Nat), (0 ≤ ixF p l i) ↔ l.any p = true
  | [], i => by simp [ixF]
  | x :: r, i => by
    have ih := ixF_iff p r (i + 1)
    by_cases h : p x = true
    · simp [ixF, h]
    · simp only [ixF, if_neg h, List.any_cons]
      rw [ih]
      simp [h]
theorem ixF_neg (p : Wd → Bool) (l : List Wd) (i : Nat) : decide (0 ≤ ixF p l i) = l.any p := by
  have h := ixF_iff p l i
  cases hb : l.any p with
  | false => exact decide_eq_false (fun q => by have := h.1 q; rw [hb] at this; cases this)
  | true => exact decide_eq_true (h.2 hb)

set_option maxHeartbeats 2000000 in
set_option maxRecDepth 20000 in
theorem indexFunc_any (F : Nat) (rc : Array Value) (q : Wd → Bool) (ao : Option Addr) (n c : Nat) (l : List Wd) (w : World) (hW : Wds w ao n c l) (hE : ∀ args w, (callFunc F args).run Tryz.prog w = .ok (.enter F args) w)
    (hF : ∀ x wx, Below w.heap.size w wx → Calls Tryz.prog F (rc ++ #[.agg (wdC x)]) wx (OutB wx (q x))) :
    Calls Tryz.prog 13 #[.slice ao n c, .func (.func F) rc #[]] w fun e w' => e = .returned (.int .i64 (ixF q l 0)) ∧ Below w.heap.size w w' := by
  have hmx := hW.max
  have hle := hW.le
  have hln := hide hW.len
  have HW := hide hW
  have HF := hide hF
  obtain ⟨R, hR⟩ : ∃ R, R = ixF q l 0 := ⟨_, rfl⟩
  rw [← hR]
  have HR := hide hR
  clear hW hF hR
  go_enter Tryz.func13, Tryz.ntmps13
  go_wp2_with fail
  go_loopw [8] (fun iv wr => ∃ (j : Nat), j ≤ n ∧ iv = .int .i64 (j : Int) ∧ Below w.heap.size w wr ∧ R = ixF q (l.drop j) j) (fun iv _ => n - (intOf iv).toNat)
  case atStart => exact ⟨0, by omega, rfl, Below.refl _ _, by rw [List.drop_zero]; exact unhide HR⟩
  case round =>
    obtain ⟨j, hj, rfl, hB, hA⟩ := hrel
    have HQ := hide hA
    clear hA HR
    by_cases hlt : j < n
    · have hlt2 : ((j : Nat) : Int) < (n : Int) := by omega
      obtain ⟨p, hp⟩ : ∃ p, l[j]? = some p := ⟨_, List.getElem?_eq_getElem (by rw [unhide hln]; exact hlt)⟩
      obtain ⟨b1, o1, i1, a1⟩ := ((unhide HW).later hB).idx hp (j : Int) rfl
      have HA := hide a1
      have hq := unhide HQ
      rw [kdrop_at hp] at hq
      simp only [ixF] at hq
      have C := hide (unhide HF p wr hB)
      clear a1 hp HQ
      cases hs : q p with
      | true =>
        simp only [hs, if_true] at C hq
        have HQ := hide hq
        clear hq hs
        go_wp2_with (first | (with_reducible show wpList Tryz.prog _ _ (Oper.mk _ (Op.load 35 _) _ _ _ none :: _) _ _; refine wpList_ldW rfl _ rfl b1 o1 (by simp [Act.eval, Act.put]) p (unhide HA) ?_) | (go_at_fn F; refine (unhide C).mono ?_; rintro e w2 ⟨rfl, b2⟩))
        go_ret
        exact ⟨by rw [unhide HQ]; rfl, belT hB b2⟩
      | false =>
        simp only [hs, Bool.false_eq_true, if_false] at C hq
        have HQ := hide hq
        clear hq hs
        go_wp2_with (first | (with_reducible show wpList Tryz.prog _ _ (Oper.mk _ (Op.load 35 _) _ _ _ none :: _) _ _; refine wpList_ldW rfl _ rfl b1 o1 (by simp [Act.eval, Act.put]) p (unhide HA) ?_) | (go_at_fn F; refine (unhide C).mono ?_; rintro e w2 ⟨rfl, b2⟩))
        go_roundw
        case rel => exact ⟨j + 1, by omega, by go_num, belT hB b2, unhide HQ⟩
        case measure => simp [intOf]; omega
    · have hjn : j = n := by omega
      subst hjn
      have h1 := hide (show R = -1 by rw [unhide HQ, List.drop_of_length_le (by rw [unhide hln]; exact Nat.le_refl _)]; rfl)
      go_wp2_with fail
      go_ret
      exact ⟨by rw [unhide h1]; rfl, hB⟩

set_option maxHeartbeats 1000000 in
theorem containsFunc_any (F : Nat) (rc : Array Value) (q : Wd → Bool) (ao : Option Addr) (n c : Nat) (l : List Wd) (w : World) (hW : Wds w ao n c l) (hE : ∀ args w, (callFunc F args).run Tryz.prog w = .ok (.enter F args) w)
    (hF : ∀ x wx, Below w.heap.size w wx → Calls Tryz.prog F (rc ++ #[.agg (wdC x)]) wx (OutB wx (q x))) :
    Calls Tryz.prog 42 #[.slice ao n c, .func (.func F) rc #[]] w (OutB w (l.any q)) := by
  have C := hide (indexFunc_any F rc q ao n c l w hW hE hF)
  have h := ixF_neg q l 0
  generalize ixF q l 0 = I at *
  rw [← h]
  clear h hW hE hF
  go_enter Tryz.func42, Tryz.ntmps42
  go_wp2_with (go_at_call 13; refine (unhide C).mono ?_; rintro e w2 ⟨rfl, b2⟩)
  go_ret
  exact ⟨rfl, b2⟩

theorem isEnd_any (p : Wd) (w : World) : Calls Tryz.prog 14 #[.agg (wdC p)] w (OutB w (isE p)) := by
  have b1 := below_alloc w (.cells (wdC p) 35)
  have r1 := AtW.of_row (heap_alloc_new w (.cells (wdC p) 35))
  have R1 := hide r1
  have B1 := hide b1
  have CS := hide (kSign_any p (ba [59]) (w.alloc (.cells (wdC p) 35)))
  unfold isE
  have e59 : (ba [59]) = (⟨#[59]⟩ : ByteArray) := rfl
  rw [e59] at CS ⊢
  generalize sgW p ⟨#[59]⟩ = R at *
  clear b1 r1 e59
  go_enter Tryz.func14, Tryz.ntmps14
  go_wp2_with (first | (with_reducible show wpList Tryz.prog _ _ (Oper.mk _ (Op.load 35 _) _ _ _ none :: _) _ _; refine wpList_ldW rfl _ rfl w.heap.size 0 (by simp [Act.eval, Act.put]) p (unhide R1) ?_) | (go_at_call 36; refine (unhide CS).mono ?_; rintro e w2 ⟨rfl, b2⟩))
  go_ret
  exact ⟨rfl, belT (unhide B1) b2⟩

end Go.Proofs.YtddfbaaghjcbnaaGreatDoor
