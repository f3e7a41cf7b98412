/-
  What functions of package classify that look for a class return. Conditions: the words lie behind the slice, each says at most 2 to the 30 bytes.
-/
import Derived.Test.YtddfbaaghjcbnaaGreatDoorKlSv
namespace Go.Proofs.YtddfbaaghjcbnaaGreatDoor
open Go.RowKit
set_option linter.unusedVariables false
set_option linter.unusedSimpArgs false

set_option maxHeartbeats 2000000 in
set_option maxRecDepth 20000 in
theorem begin_any (ao : Option Addr) (n c : Nat) (l : List Wd) (w : World) (hW : Wds w ao n c l) (hT : ∀ x ∈ l, x.tx.size ≤ 1073741824) : Calls Tryz.prog 44 #[.slice ao n c] w (OutC w (begiF l)) := by
  have HW := hide hW
  have HT := hide hT
  clear hW hT
  obtain ⟨S0, h0⟩ : ∃ S, S = (ws0 l) := ⟨_, rfl⟩
  rcases h1 : naS [(⟨#[115, 116, 97, 114, 116]⟩ : ByteArray), (⟨#[116, 114, 97, 110, 115, 97, 99, 116, 105, 111, 110]⟩ : ByteArray)] S0 with ⟨_ | _, S1⟩
  · rcases h2 : naS [(⟨#[98, 101, 103, 105, 110]⟩ : ByteArray)] S1 with ⟨_ | _, S2⟩
    · rw [show begiF l = (cl0, false) by simp only [begiF, ← h0, thn, els, fou, if_true, if_false, Bool.false_eq_true, h1, h2]]
      have H1 := hide h1
      have H2 := hide h2
      clear h1 h2
      have H0 := hide h0
      clear h0
      go_enter Tryz.func44, Tryz.ntmps44
      go_wp2_with (first | (go_at_call 79; refine (nl_begin wz.heap.size wz.heap.size S1 _ _ _ hk1 (unhide H2)).mono ?_; rintro e w2 ⟨rfl, hk2, b2⟩; have q2 := q1.trans b2) | (go_at_call 79; refine (nl_start_transaction wz.heap.size wz.heap.size S0 _ _ _ hk0 (unhide H1)).mono ?_; rintro e w1 ⟨rfl, hk1, b1⟩; have q1 := q0.trans b1) | (with_reducible show wpList Tryz.prog _ _ (Oper.mk _ (Op.alloc 40) _ _ _ none :: _) _ _; refine wpList_alC rfl rfl ?_; intro wz rz bz ez; clear ez) | (go_at_call 77; refine (over_st ao n c l wz ((unhide HW).later bz) (unhide HT) S0 (unhide H0)).mono ?_; rintro e w0 ⟨rfl, hk0, q0⟩) | (go_at_call 78; refine (found_no wz.heap.size wz.heap.size S2 3 w2 hk2).mono ?_; rintro e wf ⟨rfl, bf⟩; have qf := q2.trans (bf.mono (Nat.le_of_lt hk2.lt)); have rf := rz.later qf) | (with_reducible show wpList Tryz.prog _ _ (Oper.mk _ (Op.store 40 _ _) _ _ _ none :: _) _ _; refine wpList_stC rfl _ _ rfl w.heap.size cl0 cl0 (by simp [Act.eval, Act.put]) (by simp [Act.eval, Act.put]) rf ?_; intro w9 z9 g9 e9))
      exact clb_end rfl w.heap.size (cl0, false) _ rfl rfl rfl z9 rfl (belowG (belT bz qf) g9 (Nat.le_refl _) (belT bz qf).size)
    · obtain ⟨S3, h3⟩ : ∃ S, peS [(⟨#[119, 111, 114, 107]⟩ : ByteArray)] S2 = (true, S) := ⟨_, rfl⟩
      rcases h4 : enS S3 with ⟨_ | _, S4⟩
      · rw [show begiF l = (cl0, false) by simp only [begiF, ← h0, thn, els, fou, if_true, if_false, Bool.false_eq_true, h1, h2, h3, h4]]
        have H1 := hide h1
        have H2 := hide h2
        have H3 := hide h3
        have H4 := hide h4
        clear h1 h2 h3 h4
        have H0 := hide h0
        clear h0
        go_enter Tryz.func44, Tryz.ntmps44
        go_wp2_with (first | (go_at_call 83; refine (end_st wz.heap.size wz.heap.size S3 _ _ _ hk3 (unhide H4)).mono ?_; rintro e w4 ⟨rfl, hk4, b4⟩; have q4 := q3.trans b4) | (go_at_call 86; refine (pl_work wz.heap.size wz.heap.size S2 _ _ _ hk2 (unhide H3)).mono ?_; rintro e w3 ⟨rfl, hk3, b3⟩; have q3 := q2.trans b3) | (go_at_call 79; refine (nl_begin wz.heap.size wz.heap.size S1 _ _ _ hk1 (unhide H2)).mono ?_; rintro e w2 ⟨rfl, hk2, b2⟩; have q2 := q1.trans b2) | (go_at_call 79; refine (nl_start_transaction wz.heap.size wz.heap.size S0 _ _ _ hk0 (unhide H1)).mono ?_; rintro e w1 ⟨rfl, hk1, b1⟩; have q1 := q0.trans b1) | (with_reducible show wpList Tryz.prog _ _ (Oper.mk _ (Op.alloc 40) _ _ _ none :: _) _ _; refine wpList_alC rfl rfl ?_; intro wz rz bz ez; clear ez) | (go_at_call 77; refine (over_st ao n c l wz ((unhide HW).later bz) (unhide HT) S0 (unhide H0)).mono ?_; rintro e w0 ⟨rfl, hk0, q0⟩) | (go_at_call 78; refine (found_no wz.heap.size wz.heap.size S4 3 w4 hk4).mono ?_; rintro e wf ⟨rfl, bf⟩; have qf := q4.trans (bf.mono (Nat.le_of_lt hk4.lt)); have rf := rz.later qf) | (with_reducible show wpList Tryz.prog _ _ (Oper.mk _ (Op.store 40 _ _) _ _ _ none :: _) _ _; refine wpList_stC rfl _ _ rfl w.heap.size cl0 cl0 (by simp [Act.eval, Act.put]) (by simp [Act.eval, Act.put]) rf ?_; intro w9 z9 g9 e9))
        exact clb_end rfl w.heap.size (cl0, false) _ rfl rfl rfl z9 rfl (belowG (belT bz qf) g9 (Nat.le_refl _) (belT bz qf).size)
      · rw [show begiF l = ((⟨3, S4.nm, S4.va⟩ : Cl), true) by simp only [begiF, ← h0, thn, els, fou, if_true, if_false, Bool.false_eq_true, h1, h2, h3, h4]]
        have H1 := hide h1
        have H2 := hide h2
        have H3 := hide h3
        have H4 := hide h4
        clear h1 h2 h3 h4
        have H0 := hide h0
        clear h0
        go_enter Tryz.func44, Tryz.ntmps44
        go_wp2_with (first | (go_at_call 83; refine (end_st wz.heap.size wz.heap.size S3 _ _ _ hk3 (unhide H4)).mono ?_; rintro e w4 ⟨rfl, hk4, b4⟩; have q4 := q3.trans b4) | (go_at_call 86; refine (pl_work wz.heap.size wz.heap.size S2 _ _ _ hk2 (unhide H3)).mono ?_; rintro e w3 ⟨rfl, hk3, b3⟩; have q3 := q2.trans b3) | (go_at_call 79; refine (nl_begin wz.heap.size wz.heap.size S1 _ _ _ hk1 (unhide H2)).mono ?_; rintro e w2 ⟨rfl, hk2, b2⟩; have q2 := q1.trans b2) | (go_at_call 79; refine (nl_start_transaction wz.heap.size wz.heap.size S0 _ _ _ hk0 (unhide H1)).mono ?_; rintro e w1 ⟨rfl, hk1, b1⟩; have q1 := q0.trans b1) | (with_reducible show wpList Tryz.prog _ _ (Oper.mk _ (Op.alloc 40) _ _ _ none :: _) _ _; refine wpList_alC rfl rfl ?_; intro wz rz bz ez; clear ez) | (go_at_call 77; refine (over_st ao n c l wz ((unhide HW).later bz) (unhide HT) S0 (unhide H0)).mono ?_; rintro e w0 ⟨rfl, hk0, q0⟩) | (go_at_call 78; refine (found_yes wz.heap.size wz.heap.size S4 3 w4 hk4).mono ?_; rintro e wf ⟨rfl, bf⟩; have qf := q4.trans (bf.mono (Nat.le_of_lt hk4.lt)); have rf := rz.later qf) | (with_reducible show wpList Tryz.prog _ _ (Oper.mk _ (Op.store 40 _ _) _ _ _ none :: _) _ _; refine wpList_stC rfl _ _ rfl w.heap.size (⟨3, S4.nm, S4.va⟩ : Cl) cl0 (by simp [Act.eval, Act.put]) (by simp [Act.eval, Act.put]) rf ?_; intro w9 z9 g9 e9))
        exact clb_end rfl w.heap.size ((⟨3, S4.nm, S4.va⟩ : Cl), true) _ rfl rfl rfl z9 rfl (belowG (belT bz qf) g9 (Nat.le_refl _) (belT bz qf).size)
  · rw [show begiF l = ((⟨3, S1.nm, S1.va⟩ : Cl), true) by simp only [begiF, ← h0, thn, els, fou, if_true, if_false, Bool.false_eq_true, h1]]
    have H1 := hide h1
    clear h1
    have H0 := hide h0
    clear h0
    go_enter Tryz.func44, Tryz.ntmps44
    go_wp2_with (first | (go_at_call 79; refine (nl_start_transaction wz.heap.size wz.heap.size S0 _ _ _ hk0 (unhide H1)).mono ?_; rintro e w1 ⟨rfl, hk1, b1⟩; have q1 := q0.trans b1) | (with_reducible show wpList Tryz.prog _ _ (Oper.mk _ (Op.alloc 40) _ _ _ none :: _) _ _; refine wpList_alC rfl rfl ?_; intro wz rz bz ez; clear ez) | (go_at_call 77; refine (over_st ao n c l wz ((unhide HW).later bz) (unhide HT) S0 (unhide H0)).mono ?_; rintro e w0 ⟨rfl, hk0, q0⟩) | (go_at_call 78; refine (found_yes wz.heap.size wz.heap.size S1 3 w1 hk1).mono ?_; rintro e wf ⟨rfl, bf⟩; have qf := q1.trans (bf.mono (Nat.le_of_lt hk1.lt)); have rf := rz.later qf) | (with_reducible show wpList Tryz.prog _ _ (Oper.mk _ (Op.store 40 _ _) _ _ _ none :: _) _ _; refine wpList_stC rfl _ _ rfl w.heap.size (⟨3, S1.nm, S1.va⟩ : Cl) cl0 (by simp [Act.eval, Act.put]) (by simp [Act.eval, Act.put]) rf ?_; intro w9 z9 g9 e9))
    exact clb_end rfl w.heap.size ((⟨3, S1.nm, S1.va⟩ : Cl), true) _ rfl rfl rfl z9 rfl (belowG (belT bz qf) g9 (Nat.le_refl _) (belT bz qf).size)

set_option maxHeartbeats 2000000 in
set_option maxRecDepth 20000 in
theorem cend_any (ao : Option Addr) (n c : Nat) (l : List Wd) (w : World) (hW : Wds w ao n c l) (hT : ∀ x ∈ l, x.tx.size ≤ 1073741824) : Calls Tryz.prog 45 #[.slice ao n c] w (OutC w (endF l)) := by
  have HW := hide hW
  have HT := hide hT
  clear hW hT
  obtain ⟨S0, h0⟩ : ∃ S, S = (ws0 l) := ⟨_, rfl⟩
  rcases h1 : naS [(⟨#[99, 111, 109, 109, 105, 116]⟩ : ByteArray)] S0 with ⟨_ | _, S1⟩
  · rcases h2 : naS [(⟨#[114, 111, 108, 108, 98, 97, 99, 107]⟩ : ByteArray)] S1 with ⟨_ | _, S2⟩
    · rw [show endF l = (cl0, false) by simp only [endF, ← h0, thn, els, fou, if_true, if_false, Bool.false_eq_true, h1, h2]]
      have H1 := hide h1
      have H2 := hide h2
      clear h1 h2
      have H0 := hide h0
      clear h0
      go_enter Tryz.func45, Tryz.ntmps45
      go_wp2_with (first | (go_at_call 79; refine (nl_rollback wz.heap.size wz.heap.size S1 _ _ _ hk1 (unhide H2)).mono ?_; rintro e w2 ⟨rfl, hk2, b2⟩; have q2 := q1.trans b2) | (go_at_call 79; refine (nl_commit wz.heap.size wz.heap.size S0 _ _ _ hk0 (unhide H1)).mono ?_; rintro e w1 ⟨rfl, hk1, b1⟩; have q1 := q0.trans b1) | (with_reducible show wpList Tryz.prog _ _ (Oper.mk _ (Op.alloc 40) _ _ _ none :: _) _ _; refine wpList_alC rfl rfl ?_; intro wz rz bz ez; clear ez) | (go_at_call 77; refine (over_st ao n c l wz ((unhide HW).later bz) (unhide HT) S0 (unhide H0)).mono ?_; rintro e w0 ⟨rfl, hk0, q0⟩) | (go_at_call 78; refine (found_no wz.heap.size wz.heap.size S2 4 w2 hk2).mono ?_; rintro e wf ⟨rfl, bf⟩; have qf := q2.trans (bf.mono (Nat.le_of_lt hk2.lt)); have rf := rz.later qf) | (with_reducible show wpList Tryz.prog _ _ (Oper.mk _ (Op.store 40 _ _) _ _ _ none :: _) _ _; refine wpList_stC rfl _ _ rfl w.heap.size cl0 cl0 (by simp [Act.eval, Act.put]) (by simp [Act.eval, Act.put]) rf ?_; intro w9 z9 g9 e9))
      exact clb_end rfl w.heap.size (cl0, false) _ rfl rfl rfl z9 rfl (belowG (belT bz qf) g9 (Nat.le_refl _) (belT bz qf).size)
    · obtain ⟨S3, h3⟩ : ∃ S, peS [(⟨#[119, 111, 114, 107]⟩ : ByteArray)] S2 = (true, S) := ⟨_, rfl⟩
      rcases h4 : enS S3 with ⟨_ | _, S4⟩
      · rw [show endF l = (cl0, false) by simp only [endF, ← h0, thn, els, fou, if_true, if_false, Bool.false_eq_true, h1, h2, h3, h4]]
        have H1 := hide h1
        have H2 := hide h2
        have H3 := hide h3
        have H4 := hide h4
        clear h1 h2 h3 h4
        have H0 := hide h0
        clear h0
        go_enter Tryz.func45, Tryz.ntmps45
        go_wp2_with (first | (go_at_call 83; refine (end_st wz.heap.size wz.heap.size S3 _ _ _ hk3 (unhide H4)).mono ?_; rintro e w4 ⟨rfl, hk4, b4⟩; have q4 := q3.trans b4) | (go_at_call 86; refine (pl_work wz.heap.size wz.heap.size S2 _ _ _ hk2 (unhide H3)).mono ?_; rintro e w3 ⟨rfl, hk3, b3⟩; have q3 := q2.trans b3) | (go_at_call 79; refine (nl_rollback wz.heap.size wz.heap.size S1 _ _ _ hk1 (unhide H2)).mono ?_; rintro e w2 ⟨rfl, hk2, b2⟩; have q2 := q1.trans b2) | (go_at_call 79; refine (nl_commit wz.heap.size wz.heap.size S0 _ _ _ hk0 (unhide H1)).mono ?_; rintro e w1 ⟨rfl, hk1, b1⟩; have q1 := q0.trans b1) | (with_reducible show wpList Tryz.prog _ _ (Oper.mk _ (Op.alloc 40) _ _ _ none :: _) _ _; refine wpList_alC rfl rfl ?_; intro wz rz bz ez; clear ez) | (go_at_call 77; refine (over_st ao n c l wz ((unhide HW).later bz) (unhide HT) S0 (unhide H0)).mono ?_; rintro e w0 ⟨rfl, hk0, q0⟩) | (go_at_call 78; refine (found_no wz.heap.size wz.heap.size S4 4 w4 hk4).mono ?_; rintro e wf ⟨rfl, bf⟩; have qf := q4.trans (bf.mono (Nat.le_of_lt hk4.lt)); have rf := rz.later qf) | (with_reducible show wpList Tryz.prog _ _ (Oper.mk _ (Op.store 40 _ _) _ _ _ none :: _) _ _; refine wpList_stC rfl _ _ rfl w.heap.size cl0 cl0 (by simp [Act.eval, Act.put]) (by simp [Act.eval, Act.put]) rf ?_; intro w9 z9 g9 e9))
        exact clb_end rfl w.heap.size (cl0, false) _ rfl rfl rfl z9 rfl (belowG (belT bz qf) g9 (Nat.le_refl _) (belT bz qf).size)
      · rw [show endF l = ((⟨4, S4.nm, S4.va⟩ : Cl), true) by simp only [endF, ← h0, thn, els, fou, if_true, if_false, Bool.false_eq_true, h1, h2, h3, h4]]
        have H1 := hide h1
        have H2 := hide h2
        have H3 := hide h3
        have H4 := hide h4
        clear h1 h2 h3 h4
        have H0 := hide h0
        clear h0
        go_enter Tryz.func45, Tryz.ntmps45
        go_wp2_with (first | (go_at_call 83; refine (end_st wz.heap.size wz.heap.size S3 _ _ _ hk3 (unhide H4)).mono ?_; rintro e w4 ⟨rfl, hk4, b4⟩; have q4 := q3.trans b4) | (go_at_call 86; refine (pl_work wz.heap.size wz.heap.size S2 _ _ _ hk2 (unhide H3)).mono ?_; rintro e w3 ⟨rfl, hk3, b3⟩; have q3 := q2.trans b3) | (go_at_call 79; refine (nl_rollback wz.heap.size wz.heap.size S1 _ _ _ hk1 (unhide H2)).mono ?_; rintro e w2 ⟨rfl, hk2, b2⟩; have q2 := q1.trans b2) | (go_at_call 79; refine (nl_commit wz.heap.size wz.heap.size S0 _ _ _ hk0 (unhide H1)).mono ?_; rintro e w1 ⟨rfl, hk1, b1⟩; have q1 := q0.trans b1) | (with_reducible show wpList Tryz.prog _ _ (Oper.mk _ (Op.alloc 40) _ _ _ none :: _) _ _; refine wpList_alC rfl rfl ?_; intro wz rz bz ez; clear ez) | (go_at_call 77; refine (over_st ao n c l wz ((unhide HW).later bz) (unhide HT) S0 (unhide H0)).mono ?_; rintro e w0 ⟨rfl, hk0, q0⟩) | (go_at_call 78; refine (found_yes wz.heap.size wz.heap.size S4 4 w4 hk4).mono ?_; rintro e wf ⟨rfl, bf⟩; have qf := q4.trans (bf.mono (Nat.le_of_lt hk4.lt)); have rf := rz.later qf) | (with_reducible show wpList Tryz.prog _ _ (Oper.mk _ (Op.store 40 _ _) _ _ _ none :: _) _ _; refine wpList_stC rfl _ _ rfl w.heap.size (⟨4, S4.nm, S4.va⟩ : Cl) cl0 (by simp [Act.eval, Act.put]) (by simp [Act.eval, Act.put]) rf ?_; intro w9 z9 g9 e9))
        exact clb_end rfl w.heap.size ((⟨4, S4.nm, S4.va⟩ : Cl), true) _ rfl rfl rfl z9 rfl (belowG (belT bz qf) g9 (Nat.le_refl _) (belT bz qf).size)
  · obtain ⟨S2, h2⟩ : ∃ S, peS [(⟨#[119, 111, 114, 107]⟩ : ByteArray)] S1 = (true, S) := ⟨_, rfl⟩
    rcases h3 : enS S2 with ⟨_ | _, S3⟩
    · rw [show endF l = (cl0, false) by simp only [endF, ← h0, thn, els, fou, if_true, if_false, Bool.false_eq_true, h1, h2, h3]]
      have H1 := hide h1
      have H2 := hide h2
      have H3 := hide h3
      clear h1 h2 h3
      have H0 := hide h0
      clear h0
      go_enter Tryz.func45, Tryz.ntmps45
      go_wp2_with (first | (go_at_call 83; refine (end_st wz.heap.size wz.heap.size S2 _ _ _ hk2 (unhide H3)).mono ?_; rintro e w3 ⟨rfl, hk3, b3⟩; have q3 := q2.trans b3) | (go_at_call 86; refine (pl_work wz.heap.size wz.heap.size S1 _ _ _ hk1 (unhide H2)).mono ?_; rintro e w2 ⟨rfl, hk2, b2⟩; have q2 := q1.trans b2) | (go_at_call 79; refine (nl_commit wz.heap.size wz.heap.size S0 _ _ _ hk0 (unhide H1)).mono ?_; rintro e w1 ⟨rfl, hk1, b1⟩; have q1 := q0.trans b1) | (with_reducible show wpList Tryz.prog _ _ (Oper.mk _ (Op.alloc 40) _ _ _ none :: _) _ _; refine wpList_alC rfl rfl ?_; intro wz rz bz ez; clear ez) | (go_at_call 77; refine (over_st ao n c l wz ((unhide HW).later bz) (unhide HT) S0 (unhide H0)).mono ?_; rintro e w0 ⟨rfl, hk0, q0⟩) | (go_at_call 78; refine (found_no wz.heap.size wz.heap.size S3 4 w3 hk3).mono ?_; rintro e wf ⟨rfl, bf⟩; have qf := q3.trans (bf.mono (Nat.le_of_lt hk3.lt)); have rf := rz.later qf) | (with_reducible show wpList Tryz.prog _ _ (Oper.mk _ (Op.store 40 _ _) _ _ _ none :: _) _ _; refine wpList_stC rfl _ _ rfl w.heap.size cl0 cl0 (by simp [Act.eval, Act.put]) (by simp [Act.eval, Act.put]) rf ?_; intro w9 z9 g9 e9))
      exact clb_end rfl w.heap.size (cl0, false) _ rfl rfl rfl z9 rfl (belowG (belT bz qf) g9 (Nat.le_refl _) (belT bz qf).size)
    · rw [show endF l = ((⟨4, S3.nm, S3.va⟩ : Cl), true) by simp only [endF, ← h0, thn, els, fou, if_true, if_false, Bool.false_eq_true, h1, h2, h3]]
      have H1 := hide h1
      have H2 := hide h2
      have H3 := hide h3
      clear h1 h2 h3
      have H0 := hide h0
      clear h0
      go_enter Tryz.func45, Tryz.ntmps45
      go_wp2_with (first | (go_at_call 83; refine (end_st wz.heap.size wz.heap.size S2 _ _ _ hk2 (unhide H3)).mono ?_; rintro e w3 ⟨rfl, hk3, b3⟩; have q3 := q2.trans b3) | (go_at_call 86; refine (pl_work wz.heap.size wz.heap.size S1 _ _ _ hk1 (unhide H2)).mono ?_; rintro e w2 ⟨rfl, hk2, b2⟩; have q2 := q1.trans b2) | (go_at_call 79; refine (nl_commit wz.heap.size wz.heap.size S0 _ _ _ hk0 (unhide H1)).mono ?_; rintro e w1 ⟨rfl, hk1, b1⟩; have q1 := q0.trans b1) | (with_reducible show wpList Tryz.prog _ _ (Oper.mk _ (Op.alloc 40) _ _ _ none :: _) _ _; refine wpList_alC rfl rfl ?_; intro wz rz bz ez; clear ez) | (go_at_call 77; refine (over_st ao n c l wz ((unhide HW).later bz) (unhide HT) S0 (unhide H0)).mono ?_; rintro e w0 ⟨rfl, hk0, q0⟩) | (go_at_call 78; refine (found_yes wz.heap.size wz.heap.size S3 4 w3 hk3).mono ?_; rintro e wf ⟨rfl, bf⟩; have qf := q3.trans (bf.mono (Nat.le_of_lt hk3.lt)); have rf := rz.later qf) | (with_reducible show wpList Tryz.prog _ _ (Oper.mk _ (Op.store 40 _ _) _ _ _ none :: _) _ _; refine wpList_stC rfl _ _ rfl w.heap.size (⟨4, S3.nm, S3.va⟩ : Cl) cl0 (by simp [Act.eval, Act.put]) (by simp [Act.eval, Act.put]) rf ?_; intro w9 z9 g9 e9))
      exact clb_end rfl w.heap.size ((⟨4, S3.nm, S3.va⟩ : Cl), true) _ rfl rfl rfl z9 rfl (belowG (belT bz qf) g9 (Nat.le_refl _) (belT bz qf).size)

end Go.Proofs.YtddfbaaghjcbnaaGreatDoor
