/-
  What read of package classify returns. Conditions: the words lie behind the slice, each says at most 2 to the 30 bytes; the sets lie in memory.
-/
import Derived.Test.YtddfbaaghjcbnaaGreatDoorKlFn7
namespace Go.Proofs.YtddfbaaghjcbnaaGreatDoor
open Go.RowKit
set_option linter.unusedVariables false
set_option linter.unusedSimpArgs false

set_option maxHeartbeats 4000000 in
set_option maxRecDepth 20000 in
theorem read_any (cs : Array Value) (ao : Option Addr) (n c : Nat) (l : List Wd) (w : World) (hS : Sts cs w) (hW : Wds w ao n c l) (hT : ∀ x ∈ l, x.tx.size ≤ 1073741824) : Calls Tryz.prog 54 #[.agg cs, .slice ao n c] w (OutC w (readF l)) := by
  obtain ⟨g1, g2, g3, g4, g5, rfl, m1, m2, m3, m4, m5⟩ := hS.ex
  have HW := hide hW
  have HT := hide hT
  have M := hide m5
  have bX := hide (below_alloc w (.cells #[.map (some g1), .map (some g2), .map (some g3), .map (some g4), .map (some g5)] 48))
  have rX := hide (heap_alloc_new w (.cells #[.map (some g1), .map (some g2), .map (some g3), .map (some g4), .map (some g5)] 48))
  have ez := hide (show (w.alloc (.cells #[.map (some g1), .map (some g2), .map (some g3), .map (some g4), .map (some g5)] 48)).heap.size = w.heap.size + 1 by simp)
  clear hS hW hT m1 m2 m3 m4 m5
  obtain ⟨S0, h0⟩ : ∃ S, S = ws0 l := ⟨_, rfl⟩
  rcases h1 : naS [(⟨#[114, 101, 108, 101, 97, 115, 101]⟩ : ByteArray), (⟨#[115, 97, 118, 101, 112, 111, 105, 110, 116]⟩ : ByteArray)] S0 with ⟨_ | _, S1⟩
  · rcases h2 : naS [(⟨#[114, 111, 108, 108, 98, 97, 99, 107]⟩ : ByteArray), (⟨#[116, 111]⟩ : ByteArray)] S1 with ⟨_ | _, S2⟩
    · rcases h3 : naS [(⟨#[114, 111, 108, 108, 98, 97, 99, 107]⟩ : ByteArray), (⟨#[119, 111, 114, 107]⟩ : ByteArray), (⟨#[116, 111]⟩ : ByteArray)] S2 with ⟨_ | _, S3⟩
      · rcases h4 : firS kRead l with _ | _
        · rcases h5 : siS (ba [40]) S3 with ⟨_ | _, S5⟩
          · rw [show readF l = (cl0, false) by simp only [readF, ← h0, thn, els, h1, h2, h3, h4, h5, Bool.true_and, Bool.false_and, Bool.true_or, Bool.false_or, Bool.or_true, Bool.or_false, Bool.and_true, Bool.and_false, fou, if_true, if_false, Bool.false_eq_true]]
            have H1 := hide h1
            have H2 := hide h2
            have H3 := hide h3
            have H4 := hide h4
            have H5 := hide h5
            clear h1 h2 h3 h4 h5
            have H0 := hide h0
            clear h0
            go_enter Tryz.func54, Tryz.ntmps54
            go_wp2_with (first | (go_at_call 80; refine (sg_40 wz.heap.size wz.heap.size S3 _ _ _ hk4 (unhide H5)).mono ?_; rintro e w5 ⟨rfl, hk5, c5⟩; have q5 := q4.trans c5; have b5 := belT bz q5; have r5 := row_later rb q5; have v5 := rz.later q5; have x5 := cell_of_row _ _ 4 _ _ _ r5) | (go_at_call 95; refine (hasFirst_st g5 kRead ao n c l w3 _ ((unhide M).later b3) ((unhide HW).later b3) (unhide H4)).mono ?_; rintro e w4 ⟨rfl, c4⟩; have q4 := q3.trans (c4.mono (Nat.le_of_lt hk3.lt)); have b4 := belT bz q4; have r4 := row_later rb q4; have v4 := rz.later q4; have hk4 := hk3.later c4; have x4 := cell_of_row _ _ 4 _ _ _ r4) | (go_at_call 79; refine (nl_rollback_work_to wz.heap.size wz.heap.size S2 _ _ _ hk2 (unhide H3)).mono ?_; rintro e w3 ⟨rfl, hk3, c3⟩; have q3 := q2.trans c3; have b3 := belT bz q3; have r3 := row_later rb q3; have v3 := rz.later q3; have x3 := cell_of_row _ _ 4 _ _ _ r3) | (go_at_call 79; refine (nl_rollback_to wz.heap.size wz.heap.size S1 _ _ _ hk1 (unhide H2)).mono ?_; rintro e w2 ⟨rfl, hk2, c2⟩; have q2 := q1.trans c2; have b2 := belT bz q2; have r2 := row_later rb q2; have v2 := rz.later q2; have x2 := cell_of_row _ _ 4 _ _ _ r2) | (go_at_call 79; refine (nl_release_savepoint wz.heap.size wz.heap.size S0 _ _ _ hk0 (unhide H1)).mono ?_; rintro e w1 ⟨rfl, hk1, c1⟩; have q1 := q0.trans c1; have b1 := belT bz q1; have r1 := row_later rb q1; have v1 := rz.later q1; have x1 := cell_of_row _ _ 4 _ _ _ r1) | (go_at_call 77; refine (over_st ao n c l wz ((unhide HW).later bz) (unhide HT) S0 (unhide H0)).mono ?_; rintro e w0 ⟨rfl, hk0, q0⟩; have b0 := belT bz q0; have r0 := row_later rb q0; have v0 := rz.later q0; have x0 := cell_of_row _ _ 4 _ _ _ r0) | (with_reducible show wpList Tryz.prog _ _ (Oper.mk _ (Op.alloc 40) _ _ _ none :: _) _ _; refine wpList_alC rfl rfl ?_; intro wz rz0 bz0 ez0; clear ez0; have bz := (unhide bX).trans (bz0.mono (by rw [unhide ez]; exact Nat.le_succ _)); have rb := row_later (unhide rX) bz0; have rz := rz0.at (unhide ez)) | (go_at_call 78; refine (found_no wz.heap.size wz.heap.size S5 1 w5 hk5).mono ?_; rintro e wf ⟨rfl, bf⟩; have qf := belT b5 bf; have rf := v5.later bf) | (with_reducible show wpList Tryz.prog _ _ (Oper.mk _ (Op.store 40 _ _) _ _ _ none :: _) _ _; refine wpList_stC rfl _ _ rfl (w.heap.size + 1) cl0 cl0 (by simp [Act.eval, Act.put]) (by simp [Act.eval, Act.put]) rf ?_; intro w9 z9 g9 e9))
            exact clb_end rfl (w.heap.size + 1) (cl0, false) _ rfl rfl rfl z9 rfl (belowG qf g9 (Nat.le_succ _) qf.size)
          · rcases h6 : naS [(⟨#[115, 101, 108, 101, 99, 116]⟩ : ByteArray)] S5 with ⟨_ | _, S6⟩
            · rw [show readF l = (cl0, false) by simp only [readF, ← h0, thn, els, h1, h2, h3, h4, h5, h6, Bool.true_and, Bool.false_and, Bool.true_or, Bool.false_or, Bool.or_true, Bool.or_false, Bool.and_true, Bool.and_false, fou, if_true, if_false, Bool.false_eq_true]]
              have H1 := hide h1
              have H2 := hide h2
              have H3 := hide h3
              have H4 := hide h4
              have H5 := hide h5
              have H6 := hide h6
              clear h1 h2 h3 h4 h5 h6
              have H0 := hide h0
              clear h0
              go_enter Tryz.func54, Tryz.ntmps54
              go_wp2_with (first | (go_at_call 79; refine (nl_select wz.heap.size wz.heap.size S5 _ _ _ hk5 (unhide H6)).mono ?_; rintro e w6 ⟨rfl, hk6, c6⟩; have q6 := q5.trans c6; have b6 := belT bz q6; have r6 := row_later rb q6; have v6 := rz.later q6; have x6 := cell_of_row _ _ 4 _ _ _ r6) | (go_at_call 80; refine (sg_40 wz.heap.size wz.heap.size S3 _ _ _ hk4 (unhide H5)).mono ?_; rintro e w5 ⟨rfl, hk5, c5⟩; have q5 := q4.trans c5; have b5 := belT bz q5; have r5 := row_later rb q5; have v5 := rz.later q5; have x5 := cell_of_row _ _ 4 _ _ _ r5) | (go_at_call 95; refine (hasFirst_st g5 kRead ao n c l w3 _ ((unhide M).later b3) ((unhide HW).later b3) (unhide H4)).mono ?_; rintro e w4 ⟨rfl, c4⟩; have q4 := q3.trans (c4.mono (Nat.le_of_lt hk3.lt)); have b4 := belT bz q4; have r4 := row_later rb q4; have v4 := rz.later q4; have hk4 := hk3.later c4; have x4 := cell_of_row _ _ 4 _ _ _ r4) | (go_at_call 79; refine (nl_rollback_work_to wz.heap.size wz.heap.size S2 _ _ _ hk2 (unhide H3)).mono ?_; rintro e w3 ⟨rfl, hk3, c3⟩; have q3 := q2.trans c3; have b3 := belT bz q3; have r3 := row_later rb q3; have v3 := rz.later q3; have x3 := cell_of_row _ _ 4 _ _ _ r3) | (go_at_call 79; refine (nl_rollback_to wz.heap.size wz.heap.size S1 _ _ _ hk1 (unhide H2)).mono ?_; rintro e w2 ⟨rfl, hk2, c2⟩; have q2 := q1.trans c2; have b2 := belT bz q2; have r2 := row_later rb q2; have v2 := rz.later q2; have x2 := cell_of_row _ _ 4 _ _ _ r2) | (go_at_call 79; refine (nl_release_savepoint wz.heap.size wz.heap.size S0 _ _ _ hk0 (unhide H1)).mono ?_; rintro e w1 ⟨rfl, hk1, c1⟩; have q1 := q0.trans c1; have b1 := belT bz q1; have r1 := row_later rb q1; have v1 := rz.later q1; have x1 := cell_of_row _ _ 4 _ _ _ r1) | (go_at_call 77; refine (over_st ao n c l wz ((unhide HW).later bz) (unhide HT) S0 (unhide H0)).mono ?_; rintro e w0 ⟨rfl, hk0, q0⟩; have b0 := belT bz q0; have r0 := row_later rb q0; have v0 := rz.later q0; have x0 := cell_of_row _ _ 4 _ _ _ r0) | (with_reducible show wpList Tryz.prog _ _ (Oper.mk _ (Op.alloc 40) _ _ _ none :: _) _ _; refine wpList_alC rfl rfl ?_; intro wz rz0 bz0 ez0; clear ez0; have bz := (unhide bX).trans (bz0.mono (by rw [unhide ez]; exact Nat.le_succ _)); have rb := row_later (unhide rX) bz0; have rz := rz0.at (unhide ez)) | (go_at_call 78; refine (found_no wz.heap.size wz.heap.size S6 1 w6 hk6).mono ?_; rintro e wf ⟨rfl, bf⟩; have qf := belT b6 bf; have rf := v6.later bf) | (with_reducible show wpList Tryz.prog _ _ (Oper.mk _ (Op.store 40 _ _) _ _ _ none :: _) _ _; refine wpList_stC rfl _ _ rfl (w.heap.size + 1) cl0 cl0 (by simp [Act.eval, Act.put]) (by simp [Act.eval, Act.put]) rf ?_; intro w9 z9 g9 e9))
              exact clb_end rfl (w.heap.size + 1) (cl0, false) _ rfl rfl rfl z9 rfl (belowG qf g9 (Nat.le_succ _) qf.size)
            · rw [show readF l = ((⟨1, S6.nm, S6.va⟩ : Cl), true) by simp only [readF, ← h0, thn, els, h1, h2, h3, h4, h5, h6, Bool.true_and, Bool.false_and, Bool.true_or, Bool.false_or, Bool.or_true, Bool.or_false, Bool.and_true, Bool.and_false, fou, if_true, if_false, Bool.false_eq_true]]
              have H1 := hide h1
              have H2 := hide h2
              have H3 := hide h3
              have H4 := hide h4
              have H5 := hide h5
              have H6 := hide h6
              clear h1 h2 h3 h4 h5 h6
              have H0 := hide h0
              clear h0
              go_enter Tryz.func54, Tryz.ntmps54
              go_wp2_with (first | (go_at_call 79; refine (nl_select wz.heap.size wz.heap.size S5 _ _ _ hk5 (unhide H6)).mono ?_; rintro e w6 ⟨rfl, hk6, c6⟩; have q6 := q5.trans c6; have b6 := belT bz q6; have r6 := row_later rb q6; have v6 := rz.later q6; have x6 := cell_of_row _ _ 4 _ _ _ r6) | (go_at_call 80; refine (sg_40 wz.heap.size wz.heap.size S3 _ _ _ hk4 (unhide H5)).mono ?_; rintro e w5 ⟨rfl, hk5, c5⟩; have q5 := q4.trans c5; have b5 := belT bz q5; have r5 := row_later rb q5; have v5 := rz.later q5; have x5 := cell_of_row _ _ 4 _ _ _ r5) | (go_at_call 95; refine (hasFirst_st g5 kRead ao n c l w3 _ ((unhide M).later b3) ((unhide HW).later b3) (unhide H4)).mono ?_; rintro e w4 ⟨rfl, c4⟩; have q4 := q3.trans (c4.mono (Nat.le_of_lt hk3.lt)); have b4 := belT bz q4; have r4 := row_later rb q4; have v4 := rz.later q4; have hk4 := hk3.later c4; have x4 := cell_of_row _ _ 4 _ _ _ r4) | (go_at_call 79; refine (nl_rollback_work_to wz.heap.size wz.heap.size S2 _ _ _ hk2 (unhide H3)).mono ?_; rintro e w3 ⟨rfl, hk3, c3⟩; have q3 := q2.trans c3; have b3 := belT bz q3; have r3 := row_later rb q3; have v3 := rz.later q3; have x3 := cell_of_row _ _ 4 _ _ _ r3) | (go_at_call 79; refine (nl_rollback_to wz.heap.size wz.heap.size S1 _ _ _ hk1 (unhide H2)).mono ?_; rintro e w2 ⟨rfl, hk2, c2⟩; have q2 := q1.trans c2; have b2 := belT bz q2; have r2 := row_later rb q2; have v2 := rz.later q2; have x2 := cell_of_row _ _ 4 _ _ _ r2) | (go_at_call 79; refine (nl_release_savepoint wz.heap.size wz.heap.size S0 _ _ _ hk0 (unhide H1)).mono ?_; rintro e w1 ⟨rfl, hk1, c1⟩; have q1 := q0.trans c1; have b1 := belT bz q1; have r1 := row_later rb q1; have v1 := rz.later q1; have x1 := cell_of_row _ _ 4 _ _ _ r1) | (go_at_call 77; refine (over_st ao n c l wz ((unhide HW).later bz) (unhide HT) S0 (unhide H0)).mono ?_; rintro e w0 ⟨rfl, hk0, q0⟩; have b0 := belT bz q0; have r0 := row_later rb q0; have v0 := rz.later q0; have x0 := cell_of_row _ _ 4 _ _ _ r0) | (with_reducible show wpList Tryz.prog _ _ (Oper.mk _ (Op.alloc 40) _ _ _ none :: _) _ _; refine wpList_alC rfl rfl ?_; intro wz rz0 bz0 ez0; clear ez0; have bz := (unhide bX).trans (bz0.mono (by rw [unhide ez]; exact Nat.le_succ _)); have rb := row_later (unhide rX) bz0; have rz := rz0.at (unhide ez)) | (go_at_call 78; refine (found_yes wz.heap.size wz.heap.size S6 1 w6 hk6).mono ?_; rintro e wf ⟨rfl, bf⟩; have qf := belT b6 bf; have rf := v6.later bf) | (with_reducible show wpList Tryz.prog _ _ (Oper.mk _ (Op.store 40 _ _) _ _ _ none :: _) _ _; refine wpList_stC rfl _ _ rfl (w.heap.size + 1) (⟨1, S6.nm, S6.va⟩ : Cl) cl0 (by simp [Act.eval, Act.put]) (by simp [Act.eval, Act.put]) rf ?_; intro w9 z9 g9 e9))
              exact clb_end rfl (w.heap.size + 1) ((⟨1, S6.nm, S6.va⟩ : Cl), true) _ rfl rfl rfl z9 rfl (belowG qf g9 (Nat.le_succ _) qf.size)
        · rw [show readF l = ((⟨1, S3.nm, S3.va⟩ : Cl), true) by simp only [readF, ← h0, thn, els, h1, h2, h3, h4, Bool.true_and, Bool.false_and, Bool.true_or, Bool.false_or, Bool.or_true, Bool.or_false, Bool.and_true, Bool.and_false, fou, if_true, if_false, Bool.false_eq_true]]
          have H1 := hide h1
          have H2 := hide h2
          have H3 := hide h3
          have H4 := hide h4
          clear h1 h2 h3 h4
          have H0 := hide h0
          clear h0
          go_enter Tryz.func54, Tryz.ntmps54
          go_wp2_with (first | (go_at_call 95; refine (hasFirst_st g5 kRead ao n c l w3 _ ((unhide M).later b3) ((unhide HW).later b3) (unhide H4)).mono ?_; rintro e w4 ⟨rfl, c4⟩; have q4 := q3.trans (c4.mono (Nat.le_of_lt hk3.lt)); have b4 := belT bz q4; have r4 := row_later rb q4; have v4 := rz.later q4; have hk4 := hk3.later c4; have x4 := cell_of_row _ _ 4 _ _ _ r4) | (go_at_call 79; refine (nl_rollback_work_to wz.heap.size wz.heap.size S2 _ _ _ hk2 (unhide H3)).mono ?_; rintro e w3 ⟨rfl, hk3, c3⟩; have q3 := q2.trans c3; have b3 := belT bz q3; have r3 := row_later rb q3; have v3 := rz.later q3; have x3 := cell_of_row _ _ 4 _ _ _ r3) | (go_at_call 79; refine (nl_rollback_to wz.heap.size wz.heap.size S1 _ _ _ hk1 (unhide H2)).mono ?_; rintro e w2 ⟨rfl, hk2, c2⟩; have q2 := q1.trans c2; have b2 := belT bz q2; have r2 := row_later rb q2; have v2 := rz.later q2; have x2 := cell_of_row _ _ 4 _ _ _ r2) | (go_at_call 79; refine (nl_release_savepoint wz.heap.size wz.heap.size S0 _ _ _ hk0 (unhide H1)).mono ?_; rintro e w1 ⟨rfl, hk1, c1⟩; have q1 := q0.trans c1; have b1 := belT bz q1; have r1 := row_later rb q1; have v1 := rz.later q1; have x1 := cell_of_row _ _ 4 _ _ _ r1) | (go_at_call 77; refine (over_st ao n c l wz ((unhide HW).later bz) (unhide HT) S0 (unhide H0)).mono ?_; rintro e w0 ⟨rfl, hk0, q0⟩; have b0 := belT bz q0; have r0 := row_later rb q0; have v0 := rz.later q0; have x0 := cell_of_row _ _ 4 _ _ _ r0) | (with_reducible show wpList Tryz.prog _ _ (Oper.mk _ (Op.alloc 40) _ _ _ none :: _) _ _; refine wpList_alC rfl rfl ?_; intro wz rz0 bz0 ez0; clear ez0; have bz := (unhide bX).trans (bz0.mono (by rw [unhide ez]; exact Nat.le_succ _)); have rb := row_later (unhide rX) bz0; have rz := rz0.at (unhide ez)) | (go_at_call 78; refine (found_yes wz.heap.size wz.heap.size S3 1 w4 hk4).mono ?_; rintro e wf ⟨rfl, bf⟩; have qf := belT b4 bf; have rf := v4.later bf) | (with_reducible show wpList Tryz.prog _ _ (Oper.mk _ (Op.store 40 _ _) _ _ _ none :: _) _ _; refine wpList_stC rfl _ _ rfl (w.heap.size + 1) (⟨1, S3.nm, S3.va⟩ : Cl) cl0 (by simp [Act.eval, Act.put]) (by simp [Act.eval, Act.put]) rf ?_; intro w9 z9 g9 e9))
          exact clb_end rfl (w.heap.size + 1) ((⟨1, S3.nm, S3.va⟩ : Cl), true) _ rfl rfl rfl z9 rfl (belowG qf g9 (Nat.le_succ _) qf.size)
      · rw [show readF l = ((⟨1, S3.nm, S3.va⟩ : Cl), true) by simp only [readF, ← h0, thn, els, h1, h2, h3, Bool.true_and, Bool.false_and, Bool.true_or, Bool.false_or, Bool.or_true, Bool.or_false, Bool.and_true, Bool.and_false, fou, if_true, if_false, Bool.false_eq_true]]
        have H1 := hide h1
        have H2 := hide h2
        have H3 := hide h3
        clear h1 h2 h3
        have H0 := hide h0
        clear h0
        go_enter Tryz.func54, Tryz.ntmps54
        go_wp2_with (first | (go_at_call 79; refine (nl_rollback_work_to wz.heap.size wz.heap.size S2 _ _ _ hk2 (unhide H3)).mono ?_; rintro e w3 ⟨rfl, hk3, c3⟩; have q3 := q2.trans c3; have b3 := belT bz q3; have r3 := row_later rb q3; have v3 := rz.later q3; have x3 := cell_of_row _ _ 4 _ _ _ r3) | (go_at_call 79; refine (nl_rollback_to wz.heap.size wz.heap.size S1 _ _ _ hk1 (unhide H2)).mono ?_; rintro e w2 ⟨rfl, hk2, c2⟩; have q2 := q1.trans c2; have b2 := belT bz q2; have r2 := row_later rb q2; have v2 := rz.later q2; have x2 := cell_of_row _ _ 4 _ _ _ r2) | (go_at_call 79; refine (nl_release_savepoint wz.heap.size wz.heap.size S0 _ _ _ hk0 (unhide H1)).mono ?_; rintro e w1 ⟨rfl, hk1, c1⟩; have q1 := q0.trans c1; have b1 := belT bz q1; have r1 := row_later rb q1; have v1 := rz.later q1; have x1 := cell_of_row _ _ 4 _ _ _ r1) | (go_at_call 77; refine (over_st ao n c l wz ((unhide HW).later bz) (unhide HT) S0 (unhide H0)).mono ?_; rintro e w0 ⟨rfl, hk0, q0⟩; have b0 := belT bz q0; have r0 := row_later rb q0; have v0 := rz.later q0; have x0 := cell_of_row _ _ 4 _ _ _ r0) | (with_reducible show wpList Tryz.prog _ _ (Oper.mk _ (Op.alloc 40) _ _ _ none :: _) _ _; refine wpList_alC rfl rfl ?_; intro wz rz0 bz0 ez0; clear ez0; have bz := (unhide bX).trans (bz0.mono (by rw [unhide ez]; exact Nat.le_succ _)); have rb := row_later (unhide rX) bz0; have rz := rz0.at (unhide ez)) | (go_at_call 78; refine (found_yes wz.heap.size wz.heap.size S3 1 w3 hk3).mono ?_; rintro e wf ⟨rfl, bf⟩; have qf := belT b3 bf; have rf := v3.later bf) | (with_reducible show wpList Tryz.prog _ _ (Oper.mk _ (Op.store 40 _ _) _ _ _ none :: _) _ _; refine wpList_stC rfl _ _ rfl (w.heap.size + 1) (⟨1, S3.nm, S3.va⟩ : Cl) cl0 (by simp [Act.eval, Act.put]) (by simp [Act.eval, Act.put]) rf ?_; intro w9 z9 g9 e9))
        exact clb_end rfl (w.heap.size + 1) ((⟨1, S3.nm, S3.va⟩ : Cl), true) _ rfl rfl rfl z9 rfl (belowG qf g9 (Nat.le_succ _) qf.size)
    · rw [show readF l = ((⟨1, S2.nm, S2.va⟩ : Cl), true) by simp only [readF, ← h0, thn, els, h1, h2, Bool.true_and, Bool.false_and, Bool.true_or, Bool.false_or, Bool.or_true, Bool.or_false, Bool.and_true, Bool.and_false, fou, if_true, if_false, Bool.false_eq_true]]
      have H1 := hide h1
      have H2 := hide h2
      clear h1 h2
      have H0 := hide h0
      clear h0
      go_enter Tryz.func54, Tryz.ntmps54
      go_wp2_with (first | (go_at_call 79; refine (nl_rollback_to wz.heap.size wz.heap.size S1 _ _ _ hk1 (unhide H2)).mono ?_; rintro e w2 ⟨rfl, hk2, c2⟩; have q2 := q1.trans c2; have b2 := belT bz q2; have r2 := row_later rb q2; have v2 := rz.later q2; have x2 := cell_of_row _ _ 4 _ _ _ r2) | (go_at_call 79; refine (nl_release_savepoint wz.heap.size wz.heap.size S0 _ _ _ hk0 (unhide H1)).mono ?_; rintro e w1 ⟨rfl, hk1, c1⟩; have q1 := q0.trans c1; have b1 := belT bz q1; have r1 := row_later rb q1; have v1 := rz.later q1; have x1 := cell_of_row _ _ 4 _ _ _ r1) | (go_at_call 77; refine (over_st ao n c l wz ((unhide HW).later bz) (unhide HT) S0 (unhide H0)).mono ?_; rintro e w0 ⟨rfl, hk0, q0⟩; have b0 := belT bz q0; have r0 := row_later rb q0; have v0 := rz.later q0; have x0 := cell_of_row _ _ 4 _ _ _ r0) | (with_reducible show wpList Tryz.prog _ _ (Oper.mk _ (Op.alloc 40) _ _ _ none :: _) _ _; refine wpList_alC rfl rfl ?_; intro wz rz0 bz0 ez0; clear ez0; have bz := (unhide bX).trans (bz0.mono (by rw [unhide ez]; exact Nat.le_succ _)); have rb := row_later (unhide rX) bz0; have rz := rz0.at (unhide ez)) | (go_at_call 78; refine (found_yes wz.heap.size wz.heap.size S2 1 w2 hk2).mono ?_; rintro e wf ⟨rfl, bf⟩; have qf := belT b2 bf; have rf := v2.later bf) | (with_reducible show wpList Tryz.prog _ _ (Oper.mk _ (Op.store 40 _ _) _ _ _ none :: _) _ _; refine wpList_stC rfl _ _ rfl (w.heap.size + 1) (⟨1, S2.nm, S2.va⟩ : Cl) cl0 (by simp [Act.eval, Act.put]) (by simp [Act.eval, Act.put]) rf ?_; intro w9 z9 g9 e9))
      exact clb_end rfl (w.heap.size + 1) ((⟨1, S2.nm, S2.va⟩ : Cl), true) _ rfl rfl rfl z9 rfl (belowG qf g9 (Nat.le_succ _) qf.size)
  · rw [show readF l = ((⟨1, S1.nm, S1.va⟩ : Cl), true) by simp only [readF, ← h0, thn, els, h1, Bool.true_and, Bool.false_and, Bool.true_or, Bool.false_or, Bool.or_true, Bool.or_false, Bool.and_true, Bool.and_false, fou, if_true, if_false, Bool.false_eq_true]]
    have H1 := hide h1
    clear h1
    have H0 := hide h0
    clear h0
    go_enter Tryz.func54, Tryz.ntmps54
    go_wp2_with (first | (go_at_call 79; refine (nl_release_savepoint wz.heap.size wz.heap.size S0 _ _ _ hk0 (unhide H1)).mono ?_; rintro e w1 ⟨rfl, hk1, c1⟩; have q1 := q0.trans c1; have b1 := belT bz q1; have r1 := row_later rb q1; have v1 := rz.later q1; have x1 := cell_of_row _ _ 4 _ _ _ r1) | (go_at_call 77; refine (over_st ao n c l wz ((unhide HW).later bz) (unhide HT) S0 (unhide H0)).mono ?_; rintro e w0 ⟨rfl, hk0, q0⟩; have b0 := belT bz q0; have r0 := row_later rb q0; have v0 := rz.later q0; have x0 := cell_of_row _ _ 4 _ _ _ r0) | (with_reducible show wpList Tryz.prog _ _ (Oper.mk _ (Op.alloc 40) _ _ _ none :: _) _ _; refine wpList_alC rfl rfl ?_; intro wz rz0 bz0 ez0; clear ez0; have bz := (unhide bX).trans (bz0.mono (by rw [unhide ez]; exact Nat.le_succ _)); have rb := row_later (unhide rX) bz0; have rz := rz0.at (unhide ez)) | (go_at_call 78; refine (found_yes wz.heap.size wz.heap.size S1 1 w1 hk1).mono ?_; rintro e wf ⟨rfl, bf⟩; have qf := belT b1 bf; have rf := v1.later bf) | (with_reducible show wpList Tryz.prog _ _ (Oper.mk _ (Op.store 40 _ _) _ _ _ none :: _) _ _; refine wpList_stC rfl _ _ rfl (w.heap.size + 1) (⟨1, S1.nm, S1.va⟩ : Cl) cl0 (by simp [Act.eval, Act.put]) (by simp [Act.eval, Act.put]) rf ?_; intro w9 z9 g9 e9))
    exact clb_end rfl (w.heap.size + 1) ((⟨1, S1.nm, S1.va⟩ : Cl), true) _ rfl rfl rfl z9 rfl (belowG qf g9 (Nat.le_succ _) qf.size)

end Go.Proofs.YtddfbaaghjcbnaaGreatDoor
