/-
  What withParams of package digest returns, and how many signs ; stand at the end. Conditions: at most 100,000 words, each of at most 2 to the 30 bytes.
-/
import Derived.Test.YtgbahfadjdincaaGreatDoorDgPa
namespace Go.Proofs.YtgbahfadjdincaaGreatDoor
open Go.RowKit
set_option linter.unusedVariables false
set_option linter.unusedSimpArgs false

theorem map_take {l M : List Wd} {j : Nat} {x : Wd} (hx : l[j]? = some x) (h : M.take j = (l.take j).map dpar) (hj : j < M.length) : (M.set j (dpar x)).take (j + 1) = (l.take (j + 1)).map dpar := by
  rw [set_take hj, h, List.take_add_one, hx]
  simp

set_option maxHeartbeats 4000000 in
set_option maxRecDepth 20000 in
theorem withParams_any (ao : Option Addr) (n c : Nat) (l : List Wd) (w : World) (hW : Wds w ao n c l) (hn : n ≤ 100000) (hT : ∀ x ∈ l, x.tx.size ≤ 1073741824) :
    Calls Tryz.prog 28 #[.slice ao n c] w fun e w' => e = .returned (.slice (some ⟨w.heap.size, 0, none⟩) n n) ∧ WdMine w.heap.size w' (some ⟨w.heap.size, 0, none⟩) n n (l.map dpar) ∧ Below w.heap.size w w' := by
  have hle := hW.le
  have hmx := hW.max
  have hln := hide hW.len
  have HW := hide hW
  have HT := hide hT
  clear hW hT
  go_enter Tryz.func28, Tryz.ntmps28
  go_wp2_with (at_make; refine wpList_mkW rfl _ _ rfl .i64 .i64 n n n (by simp [Act.eval, Act.put]) (by simp [Act.eval, Act.put]) rfl rfl (by omega) ?_; intro w1 m1 b1 s1)
  go_loopw [11] (fun iv wr => ∃ (j : Nat) (M : List Wd), j ≤ n ∧ iv = .int .i64 (j : Int) ∧ WdMine w.heap.size wr (some ⟨w.heap.size, 0, none⟩) n n M ∧ Below w.heap.size w wr ∧ w.heap.size < wr.heap.size ∧ M.take j = (l.take j).map dpar) (fun iv _ => n - (intOf iv).toNat)
  case atStart => exact ⟨0, _, Nat.zero_le _, rfl, m1, b1, s1, by simp⟩
  case round =>
    obtain ⟨j, M, hj, rfl, hM, hb, hs, hq⟩ := hrel
    have hml := hide hM.len
    have HM := hide hM
    have HQ := hide hq
    clear hM hq m1 b1 s1
    by_cases hlt : j < n
    · have hlt2 : ((j : Nat) : Int) < (n : Int) := by omega
      obtain ⟨x, hx⟩ : ∃ p, l[j]? = some p := ⟨_, List.getElem?_eq_getElem (by rw [unhide hln]; exact hlt)⟩
      obtain ⟨b2, o2, i2, a2⟩ := ((unhide HW).later hb).idx hx (j : Int) rfl
      obtain ⟨y, hy⟩ : ∃ p, M[j]? = some p := ⟨_, List.getElem?_eq_getElem (by rw [unhide hml]; exact hlt)⟩
      obtain ⟨g3, e3, _, _, i3, _⟩ := (unhide HM).idx hy (j : Int) rfl
      cases e3
      have HA := hide a2
      have HX := hide (map_take hx (unhide HQ) (by rw [unhide hml]; exact hlt))
      have CC := hide (fun wx => withParam_any x wx (unhide HT x (List.mem_of_getElem? hx)))
      clear a2 hx hy HQ
      go_wp2_with (first | (with_reducible show wpList Tryz.prog _ _ (Oper.mk _ (Op.load 34 _) _ _ _ none :: _) _ _; refine wpList_ldW rfl (.tmp 14) rfl b2 o2 (by simp [Act.eval, Act.put]) x (unhide HA) ?_) | (with_reducible show wpList Tryz.prog _ _ (Oper.mk _ (Op.alloc 34) _ _ _ none :: _) _ _; refine wpList_alK rfl _ rfl (wdC wd0) zeroWd ?_; intro w4 r4 q4 z4) | (with_reducible show wpList Tryz.prog _ _ (Oper.mk _ (Op.store 34 _ _) _ _ _ none :: _) _ _; refine wpList_stK rfl _ (.tmp 5) (.tmp 15) rfl wr.heap.size (wdC x) (wdC wd0) (by simp [Act.eval, Act.put]) (by simp [Act.eval, Act.put]) r4 (wdc_info _) rfl (wdc_one _) ?_; intro w5 r5 g5 z5; have Q5 := belowG q4 g5 (Nat.le_refl _) q4.size) | (with_reducible show wpList Tryz.prog _ _ (Oper.mk _ (Op.load 34 _) _ _ _ none :: _) _ _; refine wpList_ldW rfl (.tmp 5) rfl wr.heap.size 0 (by simp [Act.eval, Act.put]) x (AtW.of_row r5) ?_) | (go_at_call 67; refine (unhide CC w5).mono ?_; rintro e w6 ⟨rfl, q6⟩; have Q6 := belT Q5 q6) | (with_reducible show wpList Tryz.prog _ _ (Oper.mk _ (Op.store 34 _ _) _ _ _ none :: _) _ _; refine wpList_putW rfl (.tmp 20) (.tmp 19) rfl w.heap.size w.heap.size n n M j (dpar x) _ rfl (by simp [Act.eval, Act.put]) (by simp [Act.eval, Act.put]) ((unhide HM).later Q6) hlt ?_; intro w7 m7 g7))
      go_roundw
      case rel => exact ⟨j + 1, M.set j (dpar x), by omega, by go_num, m7, belowG (hb.trans (Q6.mono (Nat.le_of_lt hs))) g7 (Nat.le_refl _) (Nat.le_trans (Nat.le_of_lt hs) Q6.size), by have := Q6.size; have := g7.size; omega, unhide HX⟩
      case measure => simp [intOf]; omega
    · have hjn : j = n := by omega
      subst hjn
      have h1 := hide (show M = l.map dpar by
        have := unhide HQ
        rwa [List.take_of_length_le (by rw [unhide hml]; exact Nat.le_refl _), List.take_of_length_le (by rw [unhide hln]; exact Nat.le_refl _)] at this)
      go_wp2_with fail
      go_ret
      exact ⟨rfl, by rw [← unhide h1]; exact unhide HM, hb⟩

theorem dse_step (m : List Wd) : dse m = if dend m [dSe] then dse (m.take (m.length - 1)) + 1 else 0 := by
  rcases List.eq_nil_or_concat m with rfl | ⟨m', x, rfl⟩
  · simp [dse, dend]
  · rw [List.concat_eq_append, dend1]
    have e : (m' ++ [x]).take ((m' ++ [x]).length - 1) = m' := by simp
    rw [e]
    unfold dse
    rw [List.reverse_append, List.reverse_singleton, List.singleton_append]
    cases h : dis dSe x with
    | true => simp [h]
    | false => simp [h]
theorem dse_len (m : List Wd) : dse m ≤ m.length := by
  unfold dse
  have := (List.takeWhile_prefix (dis dSe) (l := m.reverse)).length_le
  simpa using this

set_option maxHeartbeats 2000000 in
set_option maxRecDepth 20000 in
theorem signsAtEnd_any (ao : Option Addr) (n c : Nat) (l : List Wd) (w : World) (hW : Wds w ao n c l) :
    Calls Tryz.prog 34 #[.slice ao n c] w fun e w' => e = .returned (.int .i64 (dse l)) ∧ Below w.heap.size w w' := by
  have hle := hW.le
  have hmx := hW.max
  have hln := hide hW.len
  have HW := hide hW
  have HD := hide (dse_len l)
  obtain ⟨D, hD⟩ : ∃ D, D = dse l := ⟨_, rfl⟩
  rw [← hD] at HD ⊢
  have HDD := hide hD
  clear hW hD
  go_enter Tryz.func34, Tryz.ntmps34
  go_wp2_with fail
  go_loopw [3] (fun iv wr => ∃ (j : Nat), j ≤ n ∧ iv = .int .i64 (j : Int) ∧ Below w.heap.size w wr ∧ D = j + dse (l.take (n - j))) (fun iv _ => n - (intOf iv).toNat)
  case atStart => exact ⟨0, Nat.zero_le _, rfl, Below.refl _ _, by rw [Nat.zero_add, Nat.sub_zero, List.take_of_length_le (by rw [unhide hln]; exact Nat.le_refl _)]; exact unhide HDD⟩
  case round =>
    obtain ⟨j, hj, rfl, hb, hq⟩ := hrel
    have HQ := hide hq
    clear hq HDD
    have s1 : (n : Int) - (j : Int) = ((n - j : Nat) : Int) := by omega
    have i1 := fun wx => run_cutW_h ao n c (n - j) (by omega) ((n - j : Nat) : Int) rfl wx
    have HX := hide (show Wds wr (cutW ao c 0) (n - j - 0) (c - 0) (l.take (n - j)) by
      have := ((unhide HW).later hb).cut (lo := 0) (hi := n - j) (Nat.zero_le _) (by omega)
      simpa using this)
    obtain ⟨T, hT⟩ : ∃ A, dend (l.take (n - j)) [dSe] = A := ⟨_, rfl⟩
    have C2 := hide (fun wx (h : Wds wx (cutW ao c 0) (n - j - 0) (c - 0) (l.take (n - j))) => de_se _ _ _ _ wx T h hT)
    have HS := unhide HQ
    rw [dse_step, hT, List.length_take, unhide hln, Nat.min_eq_left (by omega), List.take_take] at HS
    simp only [Nat.sub_zero] at HX C2 i1
    cases T with
    | true =>
      simp only [if_true] at HS
      have hpos : j < n := by
        rcases Nat.lt_or_ge j n with q | q
        · exact q
        · rw [show n - j = 0 by omega, List.take_zero, dend_none] at hT
          cases hT
      have h1 := hide (show D = (j + 1) + dse (l.take (n - (j + 1))) by
        rw [Nat.min_eq_left (by omega)] at HS
        rw [HS, show n - j - 1 = n - (j + 1) by omega]
        omega)
      clear hT HS
      go_wp2_with (go_at_call 70; (with_reducible refine (unhide C2 wr (unhide HX)).mono ?_); rintro e w2 ⟨rfl, b2⟩)
      go_roundw
      case rel => exact ⟨j + 1, by omega, by go_num, belT hb b2, unhide h1⟩
      case measure => simp [intOf]; omega
    | false =>
      simp only [Bool.false_eq_true, if_false, Nat.add_zero] at HS
      have h1 := hide HS
      clear hT HS
      go_wp2_with (go_at_call 70; (with_reducible refine (unhide C2 wr (unhide HX)).mono ?_); rintro e w2 ⟨rfl, b2⟩)
      go_ret
      exact ⟨by rw [unhide h1]; rfl, belT hb b2⟩

end Go.Proofs.YtgbahfadjdincaaGreatDoor
