/-
  What functions of package classify that look for a class return. Conditions: the words lie behind the slice, each says at most 2 to the 30 bytes.
-/
import Derived.Test.YtddfbaaghjcbnaaGreatDoorKlSv
namespace Go.Proofs.YtddfbaaghjcbnaaGreatDoor
open Go.RowKit
set_option linter.unusedVariables false
set_option linter.unusedSimpArgs false

set_option maxHeartbeats 2000000 in
set_option maxRecDepth 20000 in
theorem unlock_any (ao : Option Addr) (n c : Nat) (l : List Wd) (w : World) (hW : Wds w ao n c l) (hT : ∀ x ∈ l, x.tx.size ≤ 1073741824) : Calls Tryz.prog 41 #[.slice ao n c] w (OutC w (unloF l)) := by
  have HW := hide hW
  have HT := hide hT
  clear hW hT
  obtain ⟨S0, h0⟩ : ∃ S, S = (ws0 l) := ⟨_, rfl⟩
  rcases h1 : naS [(⟨#[117, 110, 108, 111, 99, 107]⟩ : ByteArray), (⟨#[116, 97, 98, 108, 101]⟩ : ByteArray)] S0 with ⟨_ | _, S1⟩
  · rcases h2 : naS [(⟨#[117, 110, 108, 111, 99, 107]⟩ : ByteArray), (⟨#[116, 97, 98, 108, 101, 115]⟩ : ByteArray)] S1 with ⟨_ | _, S2⟩
    · rcases h3 : naS [(⟨#[115, 101, 108, 101, 99, 116]⟩ : ByteArray), (⟨#[114, 101, 108, 101, 97, 115, 101, 95, 97, 108, 108, 95, 108, 111, 99, 107, 115]⟩ : ByteArray)] S2 with ⟨_ | _, S3⟩
      · rw [show unloF l = (cl0, false) by simp only [unloF, ← h0, thn, els, fou, if_true, if_false, Bool.false_eq_true, h1, h2, h3]]
        have H1 := hide h1
        have H2 := hide h2
        have H3 := hide h3
        clear h1 h2 h3
        have H0 := hide h0
        clear h0
        go_enter Tryz.func41, Tryz.ntmps41
        go_wp2_with (first | (go_at_call 79; refine (nl_select_release_all_locks wz.heap.size wz.heap.size S2 _ _ _ hk2 (unhide H3)).mono ?_; rintro e w3 ⟨rfl, hk3, b3⟩; have q3 := q2.trans b3) | (go_at_call 79; refine (nl_unlock_tables wz.heap.size wz.heap.size S1 _ _ _ hk1 (unhide H2)).mono ?_; rintro e w2 ⟨rfl, hk2, b2⟩; have q2 := q1.trans b2) | (go_at_call 79; refine (nl_unlock_table wz.heap.size wz.heap.size S0 _ _ _ hk0 (unhide H1)).mono ?_; rintro e w1 ⟨rfl, hk1, b1⟩; have q1 := q0.trans b1) | (with_reducible show wpList Tryz.prog _ _ (Oper.mk _ (Op.alloc 40) _ _ _ none :: _) _ _; refine wpList_alC rfl rfl ?_; intro wz rz bz ez; clear ez) | (go_at_call 77; refine (over_st ao n c l wz ((unhide HW).later bz) (unhide HT) S0 (unhide H0)).mono ?_; rintro e w0 ⟨rfl, hk0, q0⟩) | (go_at_call 78; refine (found_no wz.heap.size wz.heap.size S3 11 w3 hk3).mono ?_; rintro e wf ⟨rfl, bf⟩; have qf := q3.trans (bf.mono (Nat.le_of_lt hk3.lt)); have rf := rz.later qf) | (with_reducible show wpList Tryz.prog _ _ (Oper.mk _ (Op.store 40 _ _) _ _ _ none :: _) _ _; refine wpList_stC rfl _ _ rfl w.heap.size cl0 cl0 (by simp [Act.eval, Act.put]) (by simp [Act.eval, Act.put]) rf ?_; intro w9 z9 g9 e9))
        exact clb_end rfl w.heap.size (cl0, false) _ rfl rfl rfl z9 rfl (belowG (belT bz qf) g9 (Nat.le_refl _) (belT bz qf).size)
      · rcases h4 : siS (ba [40]) S3 with ⟨_ | _, S4⟩
        · rw [show unloF l = (cl0, false) by simp only [unloF, ← h0, thn, els, fou, if_true, if_false, Bool.false_eq_true, h1, h2, h3, h4]]
          have H1 := hide h1
          have H2 := hide h2
          have H3 := hide h3
          have H4 := hide h4
          clear h1 h2 h3 h4
          have H0 := hide h0
          clear h0
          go_enter Tryz.func41, Tryz.ntmps41
          go_wp2_with (first | (go_at_call 80; refine (sg_40 wz.heap.size wz.heap.size S3 _ _ _ hk3 (unhide H4)).mono ?_; rintro e w4 ⟨rfl, hk4, b4⟩; have q4 := q3.trans b4) | (go_at_call 79; refine (nl_select_release_all_locks wz.heap.size wz.heap.size S2 _ _ _ hk2 (unhide H3)).mono ?_; rintro e w3 ⟨rfl, hk3, b3⟩; have q3 := q2.trans b3) | (go_at_call 79; refine (nl_unlock_tables wz.heap.size wz.heap.size S1 _ _ _ hk1 (unhide H2)).mono ?_; rintro e w2 ⟨rfl, hk2, b2⟩; have q2 := q1.trans b2) | (go_at_call 79; refine (nl_unlock_table wz.heap.size wz.heap.size S0 _ _ _ hk0 (unhide H1)).mono ?_; rintro e w1 ⟨rfl, hk1, b1⟩; have q1 := q0.trans b1) | (with_reducible show wpList Tryz.prog _ _ (Oper.mk _ (Op.alloc 40) _ _ _ none :: _) _ _; refine wpList_alC rfl rfl ?_; intro wz rz bz ez; clear ez) | (go_at_call 77; refine (over_st ao n c l wz ((unhide HW).later bz) (unhide HT) S0 (unhide H0)).mono ?_; rintro e w0 ⟨rfl, hk0, q0⟩) | (go_at_call 78; refine (found_no wz.heap.size wz.heap.size S4 11 w4 hk4).mono ?_; rintro e wf ⟨rfl, bf⟩; have qf := q4.trans (bf.mono (Nat.le_of_lt hk4.lt)); have rf := rz.later qf) | (with_reducible show wpList Tryz.prog _ _ (Oper.mk _ (Op.store 40 _ _) _ _ _ none :: _) _ _; refine wpList_stC rfl _ _ rfl w.heap.size cl0 cl0 (by simp [Act.eval, Act.put]) (by simp [Act.eval, Act.put]) rf ?_; intro w9 z9 g9 e9))
          exact clb_end rfl w.heap.size (cl0, false) _ rfl rfl rfl z9 rfl (belowG (belT bz qf) g9 (Nat.le_refl _) (belT bz qf).size)
        · rcases h5 : siS (ba [41]) S4 with ⟨_ | _, S5⟩
          · rw [show unloF l = (cl0, false) by simp only [unloF, ← h0, thn, els, fou, if_true, if_false, Bool.false_eq_true, h1, h2, h3, h4, h5]]
            have H1 := hide h1
            have H2 := hide h2
            have H3 := hide h3
            have H4 := hide h4
            have H5 := hide h5
            clear h1 h2 h3 h4 h5
            have H0 := hide h0
            clear h0
            go_enter Tryz.func41, Tryz.ntmps41
            go_wp2_with (first | (go_at_call 80; refine (sg_41 wz.heap.size wz.heap.size S4 _ _ _ hk4 (unhide H5)).mono ?_; rintro e w5 ⟨rfl, hk5, b5⟩; have q5 := q4.trans b5) | (go_at_call 80; refine (sg_40 wz.heap.size wz.heap.size S3 _ _ _ hk3 (unhide H4)).mono ?_; rintro e w4 ⟨rfl, hk4, b4⟩; have q4 := q3.trans b4) | (go_at_call 79; refine (nl_select_release_all_locks wz.heap.size wz.heap.size S2 _ _ _ hk2 (unhide H3)).mono ?_; rintro e w3 ⟨rfl, hk3, b3⟩; have q3 := q2.trans b3) | (go_at_call 79; refine (nl_unlock_tables wz.heap.size wz.heap.size S1 _ _ _ hk1 (unhide H2)).mono ?_; rintro e w2 ⟨rfl, hk2, b2⟩; have q2 := q1.trans b2) | (go_at_call 79; refine (nl_unlock_table wz.heap.size wz.heap.size S0 _ _ _ hk0 (unhide H1)).mono ?_; rintro e w1 ⟨rfl, hk1, b1⟩; have q1 := q0.trans b1) | (with_reducible show wpList Tryz.prog _ _ (Oper.mk _ (Op.alloc 40) _ _ _ none :: _) _ _; refine wpList_alC rfl rfl ?_; intro wz rz bz ez; clear ez) | (go_at_call 77; refine (over_st ao n c l wz ((unhide HW).later bz) (unhide HT) S0 (unhide H0)).mono ?_; rintro e w0 ⟨rfl, hk0, q0⟩) | (go_at_call 78; refine (found_no wz.heap.size wz.heap.size S5 11 w5 hk5).mono ?_; rintro e wf ⟨rfl, bf⟩; have qf := q5.trans (bf.mono (Nat.le_of_lt hk5.lt)); have rf := rz.later qf) | (with_reducible show wpList Tryz.prog _ _ (Oper.mk _ (Op.store 40 _ _) _ _ _ none :: _) _ _; refine wpList_stC rfl _ _ rfl w.heap.size cl0 cl0 (by simp [Act.eval, Act.put]) (by simp [Act.eval, Act.put]) rf ?_; intro w9 z9 g9 e9))
            exact clb_end rfl w.heap.size (cl0, false) _ rfl rfl rfl z9 rfl (belowG (belT bz qf) g9 (Nat.le_refl _) (belT bz qf).size)
          · rcases h6 : enS S5 with ⟨_ | _, S6⟩
            · rw [show unloF l = (cl0, false) by simp only [unloF, ← h0, thn, els, fou, if_true, if_false, Bool.false_eq_true, h1, h2, h3, h4, h5, h6]]
              have H1 := hide h1
              have H2 := hide h2
              have H3 := hide h3
              have H4 := hide h4
              have H5 := hide h5
              have H6 := hide h6
              clear h1 h2 h3 h4 h5 h6
              have H0 := hide h0
              clear h0
              go_enter Tryz.func41, Tryz.ntmps41
              go_wp2_with (first | (go_at_call 83; refine (end_st wz.heap.size wz.heap.size S5 _ _ _ hk5 (unhide H6)).mono ?_; rintro e w6 ⟨rfl, hk6, b6⟩; have q6 := q5.trans b6) | (go_at_call 80; refine (sg_41 wz.heap.size wz.heap.size S4 _ _ _ hk4 (unhide H5)).mono ?_; rintro e w5 ⟨rfl, hk5, b5⟩; have q5 := q4.trans b5) | (go_at_call 80; refine (sg_40 wz.heap.size wz.heap.size S3 _ _ _ hk3 (unhide H4)).mono ?_; rintro e w4 ⟨rfl, hk4, b4⟩; have q4 := q3.trans b4) | (go_at_call 79; refine (nl_select_release_all_locks wz.heap.size wz.heap.size S2 _ _ _ hk2 (unhide H3)).mono ?_; rintro e w3 ⟨rfl, hk3, b3⟩; have q3 := q2.trans b3) | (go_at_call 79; refine (nl_unlock_tables wz.heap.size wz.heap.size S1 _ _ _ hk1 (unhide H2)).mono ?_; rintro e w2 ⟨rfl, hk2, b2⟩; have q2 := q1.trans b2) | (go_at_call 79; refine (nl_unlock_table wz.heap.size wz.heap.size S0 _ _ _ hk0 (unhide H1)).mono ?_; rintro e w1 ⟨rfl, hk1, b1⟩; have q1 := q0.trans b1) | (with_reducible show wpList Tryz.prog _ _ (Oper.mk _ (Op.alloc 40) _ _ _ none :: _) _ _; refine wpList_alC rfl rfl ?_; intro wz rz bz ez; clear ez) | (go_at_call 77; refine (over_st ao n c l wz ((unhide HW).later bz) (unhide HT) S0 (unhide H0)).mono ?_; rintro e w0 ⟨rfl, hk0, q0⟩) | (go_at_call 78; refine (found_no wz.heap.size wz.heap.size S6 11 w6 hk6).mono ?_; rintro e wf ⟨rfl, bf⟩; have qf := q6.trans (bf.mono (Nat.le_of_lt hk6.lt)); have rf := rz.later qf) | (with_reducible show wpList Tryz.prog _ _ (Oper.mk _ (Op.store 40 _ _) _ _ _ none :: _) _ _; refine wpList_stC rfl _ _ rfl w.heap.size cl0 cl0 (by simp [Act.eval, Act.put]) (by simp [Act.eval, Act.put]) rf ?_; intro w9 z9 g9 e9))
              exact clb_end rfl w.heap.size (cl0, false) _ rfl rfl rfl z9 rfl (belowG (belT bz qf) g9 (Nat.le_refl _) (belT bz qf).size)
            · rw [show unloF l = ((⟨11, S6.nm, S6.va⟩ : Cl), true) by simp only [unloF, ← h0, thn, els, fou, if_true, if_false, Bool.false_eq_true, h1, h2, h3, h4, h5, h6]]
              have H1 := hide h1
              have H2 := hide h2
              have H3 := hide h3
              have H4 := hide h4
              have H5 := hide h5
              have H6 := hide h6
              clear h1 h2 h3 h4 h5 h6
              have H0 := hide h0
              clear h0
              go_enter Tryz.func41, Tryz.ntmps41
              go_wp2_with (first | (go_at_call 83; refine (end_st wz.heap.size wz.heap.size S5 _ _ _ hk5 (unhide H6)).mono ?_; rintro e w6 ⟨rfl, hk6, b6⟩; have q6 := q5.trans b6) | (go_at_call 80; refine (sg_41 wz.heap.size wz.heap.size S4 _ _ _ hk4 (unhide H5)).mono ?_; rintro e w5 ⟨rfl, hk5, b5⟩; have q5 := q4.trans b5) | (go_at_call 80; refine (sg_40 wz.heap.size wz.heap.size S3 _ _ _ hk3 (unhide H4)).mono ?_; rintro e w4 ⟨rfl, hk4, b4⟩; have q4 := q3.trans b4) | (go_at_call 79; refine (nl_select_release_all_locks wz.heap.size wz.heap.size S2 _ _ _ hk2 (unhide H3)).mono ?_; rintro e w3 ⟨rfl, hk3, b3⟩; have q3 := q2.trans b3) | (go_at_call 79; refine (nl_unlock_tables wz.heap.size wz.heap.size S1 _ _ _ hk1 (unhide H2)).mono ?_; rintro e w2 ⟨rfl, hk2, b2⟩; have q2 := q1.trans b2) | (go_at_call 79; refine (nl_unlock_table wz.heap.size wz.heap.size S0 _ _ _ hk0 (unhide H1)).mono ?_; rintro e w1 ⟨rfl, hk1, b1⟩; have q1 := q0.trans b1) | (with_reducible show wpList Tryz.prog _ _ (Oper.mk _ (Op.alloc 40) _ _ _ none :: _) _ _; refine wpList_alC rfl rfl ?_; intro wz rz bz ez; clear ez) | (go_at_call 77; refine (over_st ao n c l wz ((unhide HW).later bz) (unhide HT) S0 (unhide H0)).mono ?_; rintro e w0 ⟨rfl, hk0, q0⟩) | (go_at_call 78; refine (found_yes wz.heap.size wz.heap.size S6 11 w6 hk6).mono ?_; rintro e wf ⟨rfl, bf⟩; have qf := q6.trans (bf.mono (Nat.le_of_lt hk6.lt)); have rf := rz.later qf) | (with_reducible show wpList Tryz.prog _ _ (Oper.mk _ (Op.store 40 _ _) _ _ _ none :: _) _ _; refine wpList_stC rfl _ _ rfl w.heap.size (⟨11, S6.nm, S6.va⟩ : Cl) cl0 (by simp [Act.eval, Act.put]) (by simp [Act.eval, Act.put]) rf ?_; intro w9 z9 g9 e9))
              exact clb_end rfl w.heap.size ((⟨11, S6.nm, S6.va⟩ : Cl), true) _ rfl rfl rfl z9 rfl (belowG (belT bz qf) g9 (Nat.le_refl _) (belT bz qf).size)
    · rcases h3 : enS S2 with ⟨_ | _, S3⟩
      · rw [show unloF l = (cl0, false) by simp only [unloF, ← h0, thn, els, fou, if_true, if_false, Bool.false_eq_true, h1, h2, h3]]
        have H1 := hide h1
        have H2 := hide h2
        have H3 := hide h3
        clear h1 h2 h3
        have H0 := hide h0
        clear h0
        go_enter Tryz.func41, Tryz.ntmps41
        go_wp2_with (first | (go_at_call 83; refine (end_st wz.heap.size wz.heap.size S2 _ _ _ hk2 (unhide H3)).mono ?_; rintro e w3 ⟨rfl, hk3, b3⟩; have q3 := q2.trans b3) | (go_at_call 79; refine (nl_unlock_tables wz.heap.size wz.heap.size S1 _ _ _ hk1 (unhide H2)).mono ?_; rintro e w2 ⟨rfl, hk2, b2⟩; have q2 := q1.trans b2) | (go_at_call 79; refine (nl_unlock_table wz.heap.size wz.heap.size S0 _ _ _ hk0 (unhide H1)).mono ?_; rintro e w1 ⟨rfl, hk1, b1⟩; have q1 := q0.trans b1) | (with_reducible show wpList Tryz.prog _ _ (Oper.mk _ (Op.alloc 40) _ _ _ none :: _) _ _; refine wpList_alC rfl rfl ?_; intro wz rz bz ez; clear ez) | (go_at_call 77; refine (over_st ao n c l wz ((unhide HW).later bz) (unhide HT) S0 (unhide H0)).mono ?_; rintro e w0 ⟨rfl, hk0, q0⟩) | (go_at_call 78; refine (found_no wz.heap.size wz.heap.size S3 11 w3 hk3).mono ?_; rintro e wf ⟨rfl, bf⟩; have qf := q3.trans (bf.mono (Nat.le_of_lt hk3.lt)); have rf := rz.later qf) | (with_reducible show wpList Tryz.prog _ _ (Oper.mk _ (Op.store 40 _ _) _ _ _ none :: _) _ _; refine wpList_stC rfl _ _ rfl w.heap.size cl0 cl0 (by simp [Act.eval, Act.put]) (by simp [Act.eval, Act.put]) rf ?_; intro w9 z9 g9 e9))
        exact clb_end rfl w.heap.size (cl0, false) _ rfl rfl rfl z9 rfl (belowG (belT bz qf) g9 (Nat.le_refl _) (belT bz qf).size)
      · rw [show unloF l = ((⟨11, S3.nm, S3.va⟩ : Cl), true) by simp only [unloF, ← h0, thn, els, fou, if_true, if_false, Bool.false_eq_true, h1, h2, h3]]
        have H1 := hide h1
        have H2 := hide h2
        have H3 := hide h3
        clear h1 h2 h3
        have H0 := hide h0
        clear h0
        go_enter Tryz.func41, Tryz.ntmps41
        go_wp2_with (first | (go_at_call 83; refine (end_st wz.heap.size wz.heap.size S2 _ _ _ hk2 (unhide H3)).mono ?_; rintro e w3 ⟨rfl, hk3, b3⟩; have q3 := q2.trans b3) | (go_at_call 79; refine (nl_unlock_tables wz.heap.size wz.heap.size S1 _ _ _ hk1 (unhide H2)).mono ?_; rintro e w2 ⟨rfl, hk2, b2⟩; have q2 := q1.trans b2) | (go_at_call 79; refine (nl_unlock_table wz.heap.size wz.heap.size S0 _ _ _ hk0 (unhide H1)).mono ?_; rintro e w1 ⟨rfl, hk1, b1⟩; have q1 := q0.trans b1) | (with_reducible show wpList Tryz.prog _ _ (Oper.mk _ (Op.alloc 40) _ _ _ none :: _) _ _; refine wpList_alC rfl rfl ?_; intro wz rz bz ez; clear ez) | (go_at_call 77; refine (over_st ao n c l wz ((unhide HW).later bz) (unhide HT) S0 (unhide H0)).mono ?_; rintro e w0 ⟨rfl, hk0, q0⟩) | (go_at_call 78; refine (found_yes wz.heap.size wz.heap.size S3 11 w3 hk3).mono ?_; rintro e wf ⟨rfl, bf⟩; have qf := q3.trans (bf.mono (Nat.le_of_lt hk3.lt)); have rf := rz.later qf) | (with_reducible show wpList Tryz.prog _ _ (Oper.mk _ (Op.store 40 _ _) _ _ _ none :: _) _ _; refine wpList_stC rfl _ _ rfl w.heap.size (⟨11, S3.nm, S3.va⟩ : Cl) cl0 (by simp [Act.eval, Act.put]) (by simp [Act.eval, Act.put]) rf ?_; intro w9 z9 g9 e9))
        exact clb_end rfl w.heap.size ((⟨11, S3.nm, S3.va⟩ : Cl), true) _ rfl rfl rfl z9 rfl (belowG (belT bz qf) g9 (Nat.le_refl _) (belT bz qf).size)
  · rcases h2 : enS S1 with ⟨_ | _, S2⟩
    · rw [show unloF l = (cl0, false) by simp only [unloF, ← h0, thn, els, fou, if_true, if_false, Bool.false_eq_true, h1, h2]]
      have H1 := hide h1
      have H2 := hide h2
      clear h1 h2
      have H0 := hide h0
      clear h0
      go_enter Tryz.func41, Tryz.ntmps41
      go_wp2_with (first | (go_at_call 83; refine (end_st wz.heap.size wz.heap.size S1 _ _ _ hk1 (unhide H2)).mono ?_; rintro e w2 ⟨rfl, hk2, b2⟩; have q2 := q1.trans b2) | (go_at_call 79; refine (nl_unlock_table wz.heap.size wz.heap.size S0 _ _ _ hk0 (unhide H1)).mono ?_; rintro e w1 ⟨rfl, hk1, b1⟩; have q1 := q0.trans b1) | (with_reducible show wpList Tryz.prog _ _ (Oper.mk _ (Op.alloc 40) _ _ _ none :: _) _ _; refine wpList_alC rfl rfl ?_; intro wz rz bz ez; clear ez) | (go_at_call 77; refine (over_st ao n c l wz ((unhide HW).later bz) (unhide HT) S0 (unhide H0)).mono ?_; rintro e w0 ⟨rfl, hk0, q0⟩) | (go_at_call 78; refine (found_no wz.heap.size wz.heap.size S2 11 w2 hk2).mono ?_; rintro e wf ⟨rfl, bf⟩; have qf := q2.trans (bf.mono (Nat.le_of_lt hk2.lt)); have rf := rz.later qf) | (with_reducible show wpList Tryz.prog _ _ (Oper.mk _ (Op.store 40 _ _) _ _ _ none :: _) _ _; refine wpList_stC rfl _ _ rfl w.heap.size cl0 cl0 (by simp [Act.eval, Act.put]) (by simp [Act.eval, Act.put]) rf ?_; intro w9 z9 g9 e9))
      exact clb_end rfl w.heap.size (cl0, false) _ rfl rfl rfl z9 rfl (belowG (belT bz qf) g9 (Nat.le_refl _) (belT bz qf).size)
    · rw [show unloF l = ((⟨11, S2.nm, S2.va⟩ : Cl), true) by simp only [unloF, ← h0, thn, els, fou, if_true, if_false, Bool.false_eq_true, h1, h2]]
      have H1 := hide h1
      have H2 := hide h2
      clear h1 h2
      have H0 := hide h0
      clear h0
      go_enter Tryz.func41, Tryz.ntmps41
      go_wp2_with (first | (go_at_call 83; refine (end_st wz.heap.size wz.heap.size S1 _ _ _ hk1 (unhide H2)).mono ?_; rintro e w2 ⟨rfl, hk2, b2⟩; have q2 := q1.trans b2) | (go_at_call 79; refine (nl_unlock_table wz.heap.size wz.heap.size S0 _ _ _ hk0 (unhide H1)).mono ?_; rintro e w1 ⟨rfl, hk1, b1⟩; have q1 := q0.trans b1) | (with_reducible show wpList Tryz.prog _ _ (Oper.mk _ (Op.alloc 40) _ _ _ none :: _) _ _; refine wpList_alC rfl rfl ?_; intro wz rz bz ez; clear ez) | (go_at_call 77; refine (over_st ao n c l wz ((unhide HW).later bz) (unhide HT) S0 (unhide H0)).mono ?_; rintro e w0 ⟨rfl, hk0, q0⟩) | (go_at_call 78; refine (found_yes wz.heap.size wz.heap.size S2 11 w2 hk2).mono ?_; rintro e wf ⟨rfl, bf⟩; have qf := q2.trans (bf.mono (Nat.le_of_lt hk2.lt)); have rf := rz.later qf) | (with_reducible show wpList Tryz.prog _ _ (Oper.mk _ (Op.store 40 _ _) _ _ _ none :: _) _ _; refine wpList_stC rfl _ _ rfl w.heap.size (⟨11, S2.nm, S2.va⟩ : Cl) cl0 (by simp [Act.eval, Act.put]) (by simp [Act.eval, Act.put]) rf ?_; intro w9 z9 g9 e9))
      exact clb_end rfl w.heap.size ((⟨11, S2.nm, S2.va⟩ : Cl), true) _ rfl rfl rfl z9 rfl (belowG (belT bz qf) g9 (Nat.le_refl _) (belT bz qf).size)

end Go.Proofs.YtddfbaaghjcbnaaGreatDoor
