/-
  What the leaves of package digest return: whether a word is a sign or a parameter, one of some signs; whether words begin, end with some. Conditions: none but that the slices can be read.
-/
import Derived.Test.YtgbahfadjdincaaGreatDoorDgMem
namespace Go.Proofs.YtgbahfadjdincaaGreatDoor
open Go.RowKit
set_option linter.unusedVariables false
set_option linter.unusedSimpArgs false

set_option maxHeartbeats 1000000 in
theorem dis_any (p : Wd) (s : ByteArray) (w : World) : Calls Tryz.prog 107 #[.agg (wdC p), .string s] w (OutB w (dis s p)) := by
  have b1 := below_alloc w (.cells (wdC p) 34)
  obtain ⟨pk, ptx, pa⟩ := p
  have r1 := AtW.of_row (heap_alloc_new w (.cells (wdC ⟨pk, ptx, pa⟩) 34))
  have k0 := r1.k
  have k1 := r1.t
  simp only [Nat.zero_add] at k1
  unfold wdC at *
  simp only at *
  have B1 := hide b1
  clear b1 r1
  unfold dis
  have eq : dQu = (⟨#[63]⟩ : ByteArray) := rfl
  rw [eq]
  simp only
  by_cases e0 : s = ⟨#[63]⟩
  · have e9 : (s.toList == [63]) = true := by rw [e0]; decide +kernel
    rw [if_pos e0]
    clear e0 eq
    by_cases e1 : pk = 8
    · subst e1
      go_enter Tryz.func107, Tryz.ntmps107
      go_wp2_with fail
      go_ret
      exact ⟨by simp, unhide B1⟩
    · have e3 : (pk == 8) = false := by simpa using e1
      have e4 : decide (pk = 8) = false := decide_eq_false e1
      rw [e4]
      clear e4
      go_enter Tryz.func107, Tryz.ntmps107
      go_wp2_with fail
      go_ret
      exact ⟨by simp, unhide B1⟩
  · have e9 : (s.toList == [63]) = false := by
      have h1 := str_neK e0
      rwa [show (⟨#[63]⟩ : ByteArray).toList = [63] by decide +kernel] at h1
    rw [if_neg e0]
    clear eq
    by_cases e1 : pk = 5
    · subst e1
      by_cases e2 : ptx = s
      · subst e2
        have e3 := str_self ptx
        go_enter Tryz.func107, Tryz.ntmps107
        go_wp2_with fail
        go_ret
        exact ⟨by simp, unhide B1⟩
      · have e3 := str_neK e2
        go_enter Tryz.func107, Tryz.ntmps107
        go_wp2_with fail
        go_ret
        exact ⟨by simp [e2], unhide B1⟩
    · have e3 : (pk == 5) = false := by simpa using e1
      go_enter Tryz.func107, Tryz.ntmps107
      go_wp2_with fail
      go_ret
      exact ⟨by simp [e1], unhide B1⟩

theorem dbg_at (l : List Wd) (ss : List ByteArray) (j : Nat) (p : Wd) (s : ByteArray) (hp : l[j]? = some p) (hs : ss[j]? = some s) : dbg (l.drop j) (ss.drop j) = (dis s p && dbg (l.drop (j + 1)) (ss.drop (j + 1))) := by
  rw [kdrop_cons hp, kdrop_cons hs]
  rfl

set_option maxHeartbeats 2000000 in
theorem dbegin_any (ao : Option Addr) (n c : Nat) (l : List Wd) (so : Option Addr) (m d : Nat) (ss : List ByteArray) (w : World) (hW : Wds w ao n c l) (hS : Ss w so m d ss) :
    Calls Tryz.prog 69 #[.slice ao n c, .slice so m d] w (OutB w (dbg l ss)) := by
  have hle := hW.le
  have hmx := hW.max
  have hln := hW.len
  have kle := hS.le
  have kmx := hS.max
  have kln := hS.len
  have HW := hide hW
  have HS := hide hS
  obtain ⟨R, hR⟩ : ∃ R, R = dbg l ss := ⟨_, rfl⟩
  rw [← hR]
  have HR := hide hR
  have Hln := hide hln
  have Hkln := hide kln
  clear hW hS hR hln kln
  by_cases hlt : n < m
  · have g0 : (n : Int) < (m : Int) := by omega
    have h0 := hide (show R = false by rw [unhide HR]; exact dbg_short l ss (by rw [unhide Hln, unhide Hkln]; exact hlt))
    go_enter Tryz.func69, Tryz.ntmps69
    go_wp2_with fail
    go_ret
    exact ⟨by rw [unhide h0]; rfl, Below.refl _ _⟩
  · have g0 : ¬ (n : Int) < (m : Int) := by omega
    go_enter Tryz.func69, Tryz.ntmps69
    go_wp2_with fail
    go_loopw [14] (fun iv wr => ∃ (j : Nat), j ≤ m ∧ iv = .int .i64 (j : Int) ∧ Below w.heap.size w wr ∧ R = dbg (l.drop j) (ss.drop j)) (fun iv _ => m - (intOf iv).toNat)
    case atStart => exact ⟨0, by omega, rfl, Below.refl _ _, by rw [List.drop_zero, List.drop_zero]; exact unhide HR⟩
    case round =>
      obtain ⟨j, hj, rfl, hB, hA⟩ := hrel
      have HA := hide hA
      clear hA
      by_cases hjm : j < m
      · have g1 : ((j : Nat) : Int) < (m : Int) := by omega
        obtain ⟨p, hp⟩ : ∃ p, l[j]? = some p := ⟨_, List.getElem?_eq_getElem (by rw [unhide Hln]; omega)⟩
        obtain ⟨b1, o1, i1, a1⟩ := ((unhide HW).later hB).idx hp (j : Int) rfl
        obtain ⟨b2, o2, i2, c2⟩ := ((unhide HS).later hB).idx hjm (j : Int) rfl
        have hs := (unhide HS).get hjm
        generalize ss.getD j ByteArray.empty = s at *
        have hT := dbg_at l ss j p s hp hs
        have HP := hide a1
        have C := hide (dis_any p s wr)
        clear a1 hp hs
        cases hd : dis s p with
        | true =>
          rw [hd] at C hT
          have h1 := hide (show R = dbg (l.drop (j + 1)) (ss.drop (j + 1)) by rw [unhide HA, hT, Bool.true_and])
          clear hT hd
          go_wp2_with (first | (with_reducible show wpList Tryz.prog _ _ (Oper.mk _ (Op.load 34 _) _ _ _ none :: _) _ _; refine wpList_ldW rfl _ rfl b1 o1 (by simp [Act.eval, Act.put]) p (unhide HP) ?_) | (go_at_call 107; refine (unhide C).mono ?_; rintro e w2 ⟨rfl, q2⟩; have hB2 := belT hB q2))
          go_roundw
          case rel => exact ⟨j + 1, by omega, by go_num, hB2, unhide h1⟩
          case measure => simp [intOf]; omega
        | false =>
          rw [hd] at C hT
          have h1 := hide (show R = false by rw [unhide HA, hT, Bool.false_and])
          clear hT hd
          go_wp2_with (first | (with_reducible show wpList Tryz.prog _ _ (Oper.mk _ (Op.load 34 _) _ _ _ none :: _) _ _; refine wpList_ldW rfl _ rfl b1 o1 (by simp [Act.eval, Act.put]) p (unhide HP) ?_) | (go_at_call 107; refine (unhide C).mono ?_; rintro e w2 ⟨rfl, q2⟩; have hB2 := belT hB q2))
          go_ret
          exact ⟨by rw [unhide h1]; rfl, hB2⟩
      · have hjn : j = m := by omega
        subst hjn
        have g1 : ¬ ((j : Nat) : Int) < (j : Int) := by omega
        have h1 := hide (show R = true by rw [unhide HA, show ss.drop j = [] from List.drop_of_length_le (by rw [unhide Hkln]; exact Nat.le_refl _)]; cases l.drop j <;> rfl)
        go_wp2_with fail
        go_ret
        exact ⟨by rw [unhide h1]; rfl, hB⟩

set_option maxHeartbeats 1000000 in
theorem dend_any (ao : Option Addr) (n c : Nat) (l : List Wd) (so : Option Addr) (m d : Nat) (ss : List ByteArray) (w : World) (hW : Wds w ao n c l) (hS : Ss w so m d ss) :
    Calls Tryz.prog 70 #[.slice ao n c, .slice so m d] w (OutB w (dend l ss)) := by
  have hle := hW.le
  have hmx := hW.max
  have hln := hW.len
  have kle := hS.le
  have kmx := hS.max
  have kln := hS.len
  unfold dend
  rw [hln, kln]
  by_cases hmn : m ≤ n
  · have g0 : (n : Int) ≥ (m : Int) := by omega
    have g1 : (n : Int) - (m : Int) = ((n - m : Nat) : Int) := by omega
    have hcut := fun wx => run_cutW_l ao n c (n - m) (by omega) ((n - m : Nat) : Int) rfl wx
    have C := dbegin_any _ _ _ _ so m d ss w (hW.cut_l (lo := n - m) (by omega)) hS
    rw [decide_eq_true hmn, Bool.true_and]
    generalize dbg (l.drop (n - m)) ss = R at *
    have HC := hide C
    clear C hW hS hln kln
    go_enter Tryz.func70, Tryz.ntmps70
    go_wp2_with (go_at_call 69; refine (unhide HC).mono ?_; rintro e w1 ⟨rfl, b1⟩)
    go_ret
    exact ⟨rfl, b1⟩
  · have g0 : ¬ (n : Int) ≥ (m : Int) := by omega
    rw [decide_eq_false hmn, Bool.false_and]
    clear hW hS hln kln
    go_enter Tryz.func70, Tryz.ntmps70
    go_wp2_with fail
    go_ret
    exact ⟨rfl, Below.refl _ _⟩

def sxF (p : ByteArray → Bool) : List ByteArray → Int → Int
  | [], _ => -1
  | s :: r, i => if p s then i else sxF p r (i + 1)
theorem sxF_neg (p : ByteArray → Bool) : ∀ (l : List ByteArray) (i : Int), 0 ≤ i → decide (0 ≤ sxF p l i) = l.any p
  | [], i, h => rfl
  | s :: r, i, h => by
    have ih := sxF_neg p r (i + 1) (by omega)
    cases hp : p s with
    | true => simp [sxF, hp, h]
    | false => simp only [sxF, hp, Bool.false_eq_true, if_false, List.any_cons, Bool.false_or]; exact ih

set_option maxHeartbeats 2000000 in
set_option maxRecDepth 20000 in
/-- The closure of isOneOf, the word in block q. -/
theorem dclo_any (q : Nat) (p : Wd) (s : ByteArray) (w : World) (h : AtW w q 0 p) : Calls Tryz.prog 106 #[.string s, .pointer (some ⟨q, 0, none⟩)] w (OutB w (dis s p)) := by
  have H := hide h
  have C := hide (dis_any p s w)
  clear h
  go_enter Tryz.func106, Tryz.ntmps106
  go_wp2_with (first | (with_reducible show wpList Tryz.prog _ _ (Oper.mk _ (Op.load 34 _) _ _ _ none :: _) _ _; refine wpList_ldW rfl _ rfl q 0 (by simp [Act.eval, Act.put]) p (unhide H) ?_) | (go_at_call 107; refine (unhide C).mono ?_; rintro e w2 ⟨rfl, q2⟩))
  go_ret
  exact ⟨rfl, q2⟩

set_option maxHeartbeats 2000000 in
set_option maxRecDepth 20000 in
theorem dindex_any (q : Nat) (p : Wd) (ao : Option Addr) (n c : Nat) (l : List ByteArray) (w : World) (hS : Ss w ao n c l) (hq : q < w.heap.size) (hP : AtW w q 0 p) :
    Calls Tryz.prog 129 #[.slice ao n c, .func (.func 106) #[] #[.pointer (some ⟨q, 0, none⟩)]] w fun e w' => e = .returned (.int .i64 (sxF (fun s => dis s p) l 0)) ∧ Below w.heap.size w w' := by
  have hmx := hS.max
  have hle := hS.le
  have hln := hide hS.len
  have HS := hide hS
  have HP := hide hP
  obtain ⟨R, hR⟩ : ∃ R, R = sxF (fun s => dis s p) l 0 := ⟨_, rfl⟩
  rw [← hR]
  have HR := hide hR
  clear hS hP hR
  go_enter Tryz.func129, Tryz.ntmps129
  go_wp2_with fail
  go_loopw [8] (fun iv wr => ∃ (j : Nat), j ≤ n ∧ iv = .int .i64 (j : Int) ∧ Below w.heap.size w wr ∧ R = sxF (fun s => dis s p) (l.drop j) j) (fun iv _ => n - (intOf iv).toNat)
  case atStart => exact ⟨0, by omega, rfl, Below.refl _ _, by rw [List.drop_zero]; exact unhide HR⟩
  case round =>
    obtain ⟨j, hj, rfl, hB, hA⟩ := hrel
    have HQ := hide hA
    clear hA HR
    by_cases hlt : j < n
    · have hlt2 : ((j : Nat) : Int) < (n : Int) := by omega
      obtain ⟨b2, o2, i2, c2⟩ := ((unhide HS).later hB).idx hlt (j : Int) rfl
      have hs := (unhide HS).get hlt
      generalize l.getD j ByteArray.empty = s at *
      have hq := unhide HQ
      rw [kdrop_cons hs] at hq
      simp only [sxF] at hq
      have C := hide (dclo_any q p s wr ((unhide HP).later hB))
      clear hs HQ
      cases hd : dis s p with
      | true =>
        rw [hd] at C
        simp only [hd, if_true] at hq
        have HQ := hide hq
        clear hq hd
        go_wp2_with (go_at_call 106; refine (unhide C).mono ?_; rintro e w2 ⟨rfl, b2⟩)
        go_ret
        exact ⟨by rw [unhide HQ]; rfl, belT hB b2⟩
      | false =>
        rw [hd] at C
        simp only [hd, Bool.false_eq_true, if_false] at hq
        have HQ := hide hq
        clear hq hd
        go_wp2_with (go_at_call 106; refine (unhide C).mono ?_; rintro e w2 ⟨rfl, b2⟩)
        go_roundw
        case rel => exact ⟨j + 1, by omega, by go_num, belT hB b2, unhide HQ⟩
        case measure => simp [intOf]; omega
    · have hjn : j = n := by omega
      subst hjn
      have h1 := hide (show R = -1 by rw [unhide HQ, List.drop_of_length_le (by rw [unhide hln]; exact Nat.le_refl _)]; rfl)
      go_wp2_with fail
      go_ret
      exact ⟨by rw [unhide h1]; rfl, hB⟩

set_option maxHeartbeats 1000000 in
theorem dcont_any (q : Nat) (p : Wd) (ao : Option Addr) (n c : Nat) (l : List ByteArray) (w : World) (hS : Ss w ao n c l) (hq : q < w.heap.size) (hP : AtW w q 0 p) :
    Calls Tryz.prog 105 #[.slice ao n c, .func (.func 106) #[] #[.pointer (some ⟨q, 0, none⟩)]] w (OutB w (l.any fun s => dis s p)) := by
  have C := hide (dindex_any q p ao n c l w hS hq hP)
  have h := sxF_neg (fun s => dis s p) l 0 (Int.le_refl _)
  generalize sxF (fun s => dis s p) l 0 = I at *
  rw [← h]
  clear h hS hP
  go_enter Tryz.func105, Tryz.ntmps105
  go_wp2_with (go_at_call 129; refine (unhide C).mono ?_; rintro e w2 ⟨rfl, b2⟩)
  go_ret
  exact ⟨rfl, b2⟩

set_option maxHeartbeats 1000000 in
theorem doneof_any (p : Wd) (ao : Option Addr) (n c : Nat) (l : List ByteArray) (w : World) (hS : Ss w ao n c l) : Calls Tryz.prog 68 #[.agg (wdC p), .slice ao n c] w (OutB w (l.any fun s => dis s p)) := by
  have b1 := below_alloc w (.cells (wdC p) 34)
  have r1 := AtW.of_row (heap_alloc_new w (.cells (wdC p) 34))
  have C := hide (dcont_any w.heap.size p ao n c l _ (hS.later b1) (by simp) r1)
  have B1 := hide b1
  clear b1 r1 hS
  generalize (l.any fun s => dis s p) = R at *
  go_enter Tryz.func68, Tryz.ntmps68
  go_wp2_with (go_at_call 105; refine (unhide C).mono ?_; rintro e w2 ⟨rfl, b2⟩)
  go_ret
  exact ⟨rfl, belT (unhide B1) b2⟩

/-- Texts that are written out, at a call. -/
theorem dbegin_st (ao : Option Addr) (n c : Nat) (l : List Wd) (ss : List ByteArray) (w : World) (R : Bool) (hl : lits ss = true) (hW : Wds w ao n c l) (h : dbg l ss = R) :
    Calls Tryz.prog 69 #[.slice ao n c, .slice (some ⟨w.heap.size, 0, none⟩) ss.length ss.length] (w.alloc (.cells (ss.map Value.string).toArray 9)) (OutB w R) := by
  have b := below_alloc w (.cells (ss.map Value.string).toArray 9)
  have c := dbegin_any ao n c l _ _ _ ss _ (hW.later b) (lits_ss hl w)
  rw [h] at c
  exact c.mono fun e w2 k => OutB.low k b
theorem dend_st (ao : Option Addr) (n c : Nat) (l : List Wd) (ss : List ByteArray) (w : World) (R : Bool) (hl : lits ss = true) (hW : Wds w ao n c l) (h : dend l ss = R) :
    Calls Tryz.prog 70 #[.slice ao n c, .slice (some ⟨w.heap.size, 0, none⟩) ss.length ss.length] (w.alloc (.cells (ss.map Value.string).toArray 9)) (OutB w R) := by
  have b := below_alloc w (.cells (ss.map Value.string).toArray 9)
  have c := dend_any ao n c l _ _ _ ss _ (hW.later b) (lits_ss hl w)
  rw [h] at c
  exact c.mono fun e w2 k => OutB.low k b
theorem doneof_st (p : Wd) (ss : List ByteArray) (w : World) (R : Bool) (hl : lits ss = true) (h : (ss.any fun s => dis s p) = R) :
    Calls Tryz.prog 68 #[.agg (wdC p), .slice (some ⟨w.heap.size, 0, none⟩) ss.length ss.length] (w.alloc (.cells (ss.map Value.string).toArray 9)) (OutB w R) := by
  have b := below_alloc w (.cells (ss.map Value.string).toArray 9)
  have c := doneof_any p _ _ _ ss _ (lits_ss hl w)
  rw [h] at c
  exact c.mono fun e w2 k => OutB.low k b

end Go.Proofs.YtgbahfadjdincaaGreatDoor
