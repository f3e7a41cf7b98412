/-
  What functions of package classify that look for a class return (set names, a file). Conditions: the words lie behind the slice, each says at most 2 to the 30 bytes.
-/
import Derived.Test.YtddfbaaghjcbnaaGreatDoorKlSv
import Derived.Test.YtddfbaaghjcbnaaGreatDoorKlOd
namespace Go.Proofs.YtddfbaaghjcbnaaGreatDoor
open Go.RowKit
set_option linter.unusedVariables false
set_option linter.unusedSimpArgs false

theorem nm_wk {B g : Nat} {ao : Option Addr} {n c : Nat} {l : List Wd} {w : World} (h : WkA B g ao n c (ws0 l) w) (S0 : WS) (e : S0 = ⟨l, (⟨#[110, 97, 109, 101, 115]⟩ : ByteArray), ba []⟩) : Wk B g S0 (w.setCell ⟨g, 1, none⟩ (.string (⟨#[110, 97, 109, 101, 115]⟩ : ByteArray))) := by
  rw [e]
  exact (h.set1 (v := (⟨#[110, 97, 109, 101, 115]⟩ : ByteArray)) (by decide)).wk

theorem nlz_set_names (B g : Nat) (S : WS) (R : Bool) (S1 : WS) (w : World) (z : Nat) (hz : w.heap.size = z) (hK : Wk B g S w) (h : naS [(⟨#[115, 101, 116]⟩ : ByteArray), (⟨#[110, 97, 109, 101, 115]⟩ : ByteArray)] S = (R, S1)) : Calls Tryz.prog 79 #[.pointer (some ⟨g, 0, none⟩), .slice (some ⟨z, 0, none⟩) 2 2] (w.alloc (.cells #[.string (⟨#[115, 101, 116]⟩ : ByteArray), .string (⟨#[110, 97, 109, 101, 115]⟩ : ByteArray)] 9)) (OutS B g w R S1) := by
  subst hz
  exact nl_set_names B g S R S1 w hK h

set_option maxHeartbeats 2000000 in
set_option maxRecDepth 20000 in
theorem setNames_any (ao : Option Addr) (n c : Nat) (l : List Wd) (w : World) (hW : Wds w ao n c l) (hT : ∀ x ∈ l, x.tx.size ≤ 1073741824) : Calls Tryz.prog 48 #[.slice ao n c] w (OutC w (setnF l)) := by
  have HW := hide hW
  have HT := hide hT
  clear hW hT
  obtain ⟨S0, h0⟩ : ∃ S, S = (⟨l, (⟨#[110, 97, 109, 101, 115]⟩ : ByteArray), ba []⟩ : WS) := ⟨_, rfl⟩
  rcases h1 : naS [(⟨#[115, 101, 116]⟩ : ByteArray), (⟨#[110, 97, 109, 101, 115]⟩ : ByteArray)] S0 with ⟨_ | _, S1⟩
  · rw [show setnF l = (cl0, false) by simp only [setnF, ← h0, thn, els, fou, if_true, if_false, Bool.false_eq_true, h1]]
    have H1 := hide h1
    clear h1
    have H0 := hide h0
    clear h0
    go_enter Tryz.func48, Tryz.ntmps48
    go_wp2_with (first | (go_at_call 79; refine (nlz_set_names wz.heap.size wz.heap.size S0 _ _ _ wx.heap.size (by simp) hk0 (unhide H1)).mono ?_; rintro e w1 ⟨rfl, hk1, b1⟩; have q1 := q0.trans b1) | (with_reducible show wpList Tryz.prog _ _ (Oper.mk _ (Op.alloc 40) _ _ _ none :: _) _ _; refine wpList_alC rfl rfl ?_; intro wz rz bz ez; clear ez) | (go_at_call 77; refine (over_any ao n c l wz ((unhide HW).later bz) (unhide HT)).mono ?_; rintro e wx ⟨rfl, hkx, qx⟩; obtain ⟨aoX, nX, cX, hAX⟩ := hkx; have u1 := hAX.c1; have f1 := hAX.fr 1; have hk0 := nm_wk hAX S0 (unhide H0); have q0 := qx.trans (below_set wz.heap.size 1 wx (.string (⟨#[110, 97, 109, 101, 115]⟩ : ByteArray))); clear hAX) | (go_at_call 78; refine (found_no wz.heap.size wz.heap.size S1 5 w1 hk1).mono ?_; rintro e wf ⟨rfl, bf⟩; have qf := q1.trans (bf.mono (Nat.le_of_lt hk1.lt)); have rf := rz.later qf) | (with_reducible show wpList Tryz.prog _ _ (Oper.mk _ (Op.store 40 _ _) _ _ _ none :: _) _ _; refine wpList_stC rfl _ _ rfl w.heap.size cl0 cl0 (by simp [Act.eval, Act.put]) (by simp [Act.eval, Act.put]) rf ?_; intro w9 z9 g9 e9))
    exact clb_end rfl w.heap.size (cl0, false) _ rfl rfl rfl z9 rfl (belowG (belT bz qf) g9 (Nat.le_refl _) (belT bz qf).size)
  · rcases h2 : liS S1 with ⟨_ | _, S2⟩
    · rw [show setnF l = (cl0, false) by simp only [setnF, ← h0, thn, els, fou, if_true, if_false, Bool.false_eq_true, h1, h2]]
      have H1 := hide h1
      have H2 := hide h2
      clear h1 h2
      have H0 := hide h0
      clear h0
      go_enter Tryz.func48, Tryz.ntmps48
      go_wp2_with (first | (go_at_call 87; refine (literal_st wz.heap.size wz.heap.size S1 _ _ _ hk1 (unhide H2)).mono ?_; rintro e w2 ⟨rfl, hk2, b2⟩; have q2 := q1.trans b2) | (go_at_call 79; refine (nlz_set_names wz.heap.size wz.heap.size S0 _ _ _ wx.heap.size (by simp) hk0 (unhide H1)).mono ?_; rintro e w1 ⟨rfl, hk1, b1⟩; have q1 := q0.trans b1) | (with_reducible show wpList Tryz.prog _ _ (Oper.mk _ (Op.alloc 40) _ _ _ none :: _) _ _; refine wpList_alC rfl rfl ?_; intro wz rz bz ez; clear ez) | (go_at_call 77; refine (over_any ao n c l wz ((unhide HW).later bz) (unhide HT)).mono ?_; rintro e wx ⟨rfl, hkx, qx⟩; obtain ⟨aoX, nX, cX, hAX⟩ := hkx; have u1 := hAX.c1; have f1 := hAX.fr 1; have hk0 := nm_wk hAX S0 (unhide H0); have q0 := qx.trans (below_set wz.heap.size 1 wx (.string (⟨#[110, 97, 109, 101, 115]⟩ : ByteArray))); clear hAX) | (go_at_call 78; refine (found_no wz.heap.size wz.heap.size S2 5 w2 hk2).mono ?_; rintro e wf ⟨rfl, bf⟩; have qf := q2.trans (bf.mono (Nat.le_of_lt hk2.lt)); have rf := rz.later qf) | (with_reducible show wpList Tryz.prog _ _ (Oper.mk _ (Op.store 40 _ _) _ _ _ none :: _) _ _; refine wpList_stC rfl _ _ rfl w.heap.size cl0 cl0 (by simp [Act.eval, Act.put]) (by simp [Act.eval, Act.put]) rf ?_; intro w9 z9 g9 e9))
      exact clb_end rfl w.heap.size (cl0, false) _ rfl rfl rfl z9 rfl (belowG (belT bz qf) g9 (Nat.le_refl _) (belT bz qf).size)
    · rcases h3 : enS S2 with ⟨_ | _, S3⟩
      · rw [show setnF l = (cl0, false) by simp only [setnF, ← h0, thn, els, fou, if_true, if_false, Bool.false_eq_true, h1, h2, h3]]
        have H1 := hide h1
        have H2 := hide h2
        have H3 := hide h3
        clear h1 h2 h3
        have H0 := hide h0
        clear h0
        go_enter Tryz.func48, Tryz.ntmps48
        go_wp2_with (first | (go_at_call 83; refine (end_st wz.heap.size wz.heap.size S2 _ _ _ hk2 (unhide H3)).mono ?_; rintro e w3 ⟨rfl, hk3, b3⟩; have q3 := q2.trans b3) | (go_at_call 87; refine (literal_st wz.heap.size wz.heap.size S1 _ _ _ hk1 (unhide H2)).mono ?_; rintro e w2 ⟨rfl, hk2, b2⟩; have q2 := q1.trans b2) | (go_at_call 79; refine (nlz_set_names wz.heap.size wz.heap.size S0 _ _ _ wx.heap.size (by simp) hk0 (unhide H1)).mono ?_; rintro e w1 ⟨rfl, hk1, b1⟩; have q1 := q0.trans b1) | (with_reducible show wpList Tryz.prog _ _ (Oper.mk _ (Op.alloc 40) _ _ _ none :: _) _ _; refine wpList_alC rfl rfl ?_; intro wz rz bz ez; clear ez) | (go_at_call 77; refine (over_any ao n c l wz ((unhide HW).later bz) (unhide HT)).mono ?_; rintro e wx ⟨rfl, hkx, qx⟩; obtain ⟨aoX, nX, cX, hAX⟩ := hkx; have u1 := hAX.c1; have f1 := hAX.fr 1; have hk0 := nm_wk hAX S0 (unhide H0); have q0 := qx.trans (below_set wz.heap.size 1 wx (.string (⟨#[110, 97, 109, 101, 115]⟩ : ByteArray))); clear hAX) | (go_at_call 78; refine (found_no wz.heap.size wz.heap.size S3 5 w3 hk3).mono ?_; rintro e wf ⟨rfl, bf⟩; have qf := q3.trans (bf.mono (Nat.le_of_lt hk3.lt)); have rf := rz.later qf) | (with_reducible show wpList Tryz.prog _ _ (Oper.mk _ (Op.store 40 _ _) _ _ _ none :: _) _ _; refine wpList_stC rfl _ _ rfl w.heap.size cl0 cl0 (by simp [Act.eval, Act.put]) (by simp [Act.eval, Act.put]) rf ?_; intro w9 z9 g9 e9))
        exact clb_end rfl w.heap.size (cl0, false) _ rfl rfl rfl z9 rfl (belowG (belT bz qf) g9 (Nat.le_refl _) (belT bz qf).size)
      · rw [show setnF l = ((⟨5, S3.nm, S3.va⟩ : Cl), true) by simp only [setnF, ← h0, thn, els, fou, if_true, if_false, Bool.false_eq_true, h1, h2, h3]]
        have H1 := hide h1
        have H2 := hide h2
        have H3 := hide h3
        clear h1 h2 h3
        have H0 := hide h0
        clear h0
        go_enter Tryz.func48, Tryz.ntmps48
        go_wp2_with (first | (go_at_call 83; refine (end_st wz.heap.size wz.heap.size S2 _ _ _ hk2 (unhide H3)).mono ?_; rintro e w3 ⟨rfl, hk3, b3⟩; have q3 := q2.trans b3) | (go_at_call 87; refine (literal_st wz.heap.size wz.heap.size S1 _ _ _ hk1 (unhide H2)).mono ?_; rintro e w2 ⟨rfl, hk2, b2⟩; have q2 := q1.trans b2) | (go_at_call 79; refine (nlz_set_names wz.heap.size wz.heap.size S0 _ _ _ wx.heap.size (by simp) hk0 (unhide H1)).mono ?_; rintro e w1 ⟨rfl, hk1, b1⟩; have q1 := q0.trans b1) | (with_reducible show wpList Tryz.prog _ _ (Oper.mk _ (Op.alloc 40) _ _ _ none :: _) _ _; refine wpList_alC rfl rfl ?_; intro wz rz bz ez; clear ez) | (go_at_call 77; refine (over_any ao n c l wz ((unhide HW).later bz) (unhide HT)).mono ?_; rintro e wx ⟨rfl, hkx, qx⟩; obtain ⟨aoX, nX, cX, hAX⟩ := hkx; have u1 := hAX.c1; have f1 := hAX.fr 1; have hk0 := nm_wk hAX S0 (unhide H0); have q0 := qx.trans (below_set wz.heap.size 1 wx (.string (⟨#[110, 97, 109, 101, 115]⟩ : ByteArray))); clear hAX) | (go_at_call 78; refine (found_yes wz.heap.size wz.heap.size S3 5 w3 hk3).mono ?_; rintro e wf ⟨rfl, bf⟩; have qf := q3.trans (bf.mono (Nat.le_of_lt hk3.lt)); have rf := rz.later qf) | (with_reducible show wpList Tryz.prog _ _ (Oper.mk _ (Op.store 40 _ _) _ _ _ none :: _) _ _; refine wpList_stC rfl _ _ rfl w.heap.size (⟨5, S3.nm, S3.va⟩ : Cl) cl0 (by simp [Act.eval, Act.put]) (by simp [Act.eval, Act.put]) rf ?_; intro w9 z9 g9 e9))
        exact clb_end rfl w.heap.size ((⟨5, S3.nm, S3.va⟩ : Cl), true) _ rfl rfl rfl z9 rfl (belowG (belT bz qf) g9 (Nat.le_refl _) (belT bz qf).size)

set_option maxHeartbeats 1000000 in
theorem file_any (ao : Option Addr) (n c : Nat) (l : List Wd) (w : World) (hW : Wds w ao n c l) (hT : ∀ x ∈ l, x.tx.size ≤ 1073741824) : Calls Tryz.prog 52 #[.slice ao n c] w (OutC w (fileF l)) := by
  have HW := hide hW
  have HT := hide hT
  clear hW hT
  unfold fileF fou
  simp only
  rcases hF : filL l with _ | _
  · simp only [Bool.false_eq_true, if_false]
    have CF := hide (fun wx (h : Wds wx ao n c l) => isFile_any ao n c l wx h)
    simp only [hF] at CF
    clear hF
    go_enter Tryz.func52, Tryz.ntmps52
    go_wp2_with (first | (with_reducible show wpList Tryz.prog _ _ (Oper.mk _ (Op.alloc 40) _ _ _ none :: _) _ _; refine wpList_alC rfl rfl ?_; intro wz rz bz ez; clear ez) | (go_at_call 77; refine (over_any ao n c l wz ((unhide HW).later bz) (unhide HT)).mono ?_; rintro e w0 ⟨rfl, hk0, q0⟩) | (go_at_call 92; refine (unhide CF w0 ((unhide HW).later (belT bz q0))).mono ?_; rintro e w1 ⟨rfl, b1⟩; have hk1 := hk0.later b1; have q1 := q0.trans (b1.mono (Nat.le_of_lt hk0.lt))) | (go_at_call 78; refine (found_no wz.heap.size wz.heap.size (ws0 l) 12 w1 hk1).mono ?_; rintro e wf ⟨rfl, bf⟩; have qf := q1.trans (bf.mono (Nat.le_of_lt hk1.lt)); have rf := rz.later qf) | (with_reducible show wpList Tryz.prog _ _ (Oper.mk _ (Op.store 40 _ _) _ _ _ none :: _) _ _; refine wpList_stC rfl _ _ rfl w.heap.size cl0 cl0 (by simp [Act.eval, Act.put]) (by simp [Act.eval, Act.put]) rf ?_; intro w9 z9 g9 e9))
    exact clb_end rfl w.heap.size (cl0, false) _ rfl rfl rfl z9 rfl (belowG (belT bz qf) g9 (Nat.le_refl _) (belT bz qf).size)
  · simp only [if_true]
    have CF := hide (fun wx (h : Wds wx ao n c l) => isFile_any ao n c l wx h)
    simp only [hF] at CF
    clear hF
    go_enter Tryz.func52, Tryz.ntmps52
    go_wp2_with (first | (with_reducible show wpList Tryz.prog _ _ (Oper.mk _ (Op.alloc 40) _ _ _ none :: _) _ _; refine wpList_alC rfl rfl ?_; intro wz rz bz ez; clear ez) | (go_at_call 77; refine (over_any ao n c l wz ((unhide HW).later bz) (unhide HT)).mono ?_; rintro e w0 ⟨rfl, hk0, q0⟩) | (go_at_call 92; refine (unhide CF w0 ((unhide HW).later (belT bz q0))).mono ?_; rintro e w1 ⟨rfl, b1⟩; have hk1 := hk0.later b1; have q1 := q0.trans (b1.mono (Nat.le_of_lt hk0.lt))) | (go_at_call 78; refine (found_yes wz.heap.size wz.heap.size (ws0 l) 12 w1 hk1).mono ?_; rintro e wf ⟨rfl, bf⟩; have qf := q1.trans (bf.mono (Nat.le_of_lt hk1.lt)); have rf := rz.later qf) | (with_reducible show wpList Tryz.prog _ _ (Oper.mk _ (Op.store 40 _ _) _ _ _ none :: _) _ _; refine wpList_stC rfl _ _ rfl w.heap.size (⟨12, (ws0 l).nm, (ws0 l).va⟩ : Cl) cl0 (by simp [Act.eval, Act.put]) (by simp [Act.eval, Act.put]) rf ?_; intro w9 z9 g9 e9))
    exact clb_end rfl w.heap.size ((⟨12, (ws0 l).nm, (ws0 l).va⟩ : Cl), true) _ rfl rfl rfl z9 rfl (belowG (belT bz qf) g9 (Nat.le_refl _) (belT bz qf).size)

end Go.Proofs.YtddfbaaghjcbnaaGreatDoor
