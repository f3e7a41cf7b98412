/-
  What class and One of package classify return: the class of a statement's words. Conditions: the words lie behind the slice, each says at most 2 to the 30 bytes.
-/
import Derived.Test.YtffbmfjmdcjcmaaGreatDoorKlCh
namespace Go.Proofs.YtffbmfjmdcjcmaaGreatDoor
open Go.RowKit
set_option linter.unusedVariables false
set_option linter.unusedSimpArgs false

theorem ent_hasName : ∀ args w, (callFunc 59 args).run Tryz.prog w = .ok (.enter 59 args) w := enters_of Tryz.func59 (by kernel_rfl) rfl
theorem ent_isEnd : ∀ args w, (callFunc 29 args).run Tryz.prog w = .ok (.enter 29 args) w := enters_of Tryz.func29 (by kernel_rfl) rfl
/-- What a function that answers a class leaves. -/
def OutK (w : World) (c : Cl) (e : Ending) (w' : World) : Prop := e = .returned (.agg (clC c)) ∧ Below w.heap.size w w'
theorem isOdd_st (cs : Array Value) (ao : Option Addr) (n c : Nat) (l : List Wd) (w : World) (R : Bool) (hS : Sts cs w) (hW : Wds w ao n c l) (h : oddL l = R) : Calls Tryz.prog 54 #[.agg cs, .slice ao n c] w (OutB w R) := by
  have c := isOdd_any cs ao n c l w hS hW
  rw [h] at c
  exact c
theorem locks_st (g : Nat) (ao : Option Addr) (n c : Nat) (l : List Wd) (w : World) (R : Bool) (hM : Mp g kLock w) (hW : Wds w ao n c l) (h : l.any (inS kLock) = R) : Calls Tryz.prog 36 #[.slice ao n c, .func (.func 59) #[.map (some g)] #[]] w (OutB w R) := by
  have c := containsFunc_any 59 #[.map (some g)] (inS kLock) ao n c l w hW ent_hasName (fun x wx hx => hasName_any g kLock x wx (hM.later hx))
  rw [h] at c
  exact c
theorem hasEnd_st (ao : Option Addr) (n c : Nat) (l : List Wd) (w : World) (R : Bool) (hW : Wds w ao n c l) (h : l.any isE = R) : Calls Tryz.prog 36 #[.slice ao n c, .func (.func 29) #[] #[]] w (OutB w R) := by
  have c := containsFunc_any 29 #[] isE ao n c l w hW ent_isEnd (fun x wx hx => isEnd_any x wx)
  rw [h] at c
  exact c

set_option maxHeartbeats 8000000 in
set_option maxRecDepth 20000 in
theorem class_any (cs : Array Value) (ao : Option Addr) (n c : Nat) (l : List Wd) (w : World) (hS : Sts cs w) (hW : Wds w ao n c l) (hT : ∀ x ∈ l, x.tx.size ≤ 1073741824) : Calls Tryz.prog 30 #[.agg cs, .slice ao n c] w (OutK w (clsF l)) := by
  obtain ⟨g1, g2, g3, g4, g5, rfl, m1, m2, m3, m4, m5⟩ := hS.ex
  have HW := hide hW
  have HT := hide hT
  have HS := hide hS
  have M := hide m2
  have bX := hide (below_alloc w (.cells #[.map (some g1), .map (some g2), .map (some g3), .map (some g4), .map (some g5)] 55))
  have rX := hide (heap_alloc_new w (.cells #[.map (some g1), .map (some g2), .map (some g3), .map (some g4), .map (some g5)] 55))
  have ez := hide (show (w.alloc (.cells #[.map (some g1), .map (some g2), .map (some g3), .map (some g4), .map (some g5)] 55)).heap.size = w.heap.size + 1 by simp)
  clear hS hW hT m1 m2 m3 m4 m5
  unfold clsF
  rcases h1 : oddL l with _ | _
  · simp only [Bool.false_eq_true, if_false]
    rcases h2 : firF [lockF l, lotaF l, unloF l] with ⟨C2, _ | _⟩
    · simp only [Bool.false_eq_true, if_false]
      rcases h3 : l.any (inS kLock) with _ | _
      · simp only [Bool.false_eq_true, if_false]
        rcases h4 : firF [begiF l, endF l, setuF l, setF l, setnF l, useF l, mateF l, drteF l, fileF l, writF l, readF l] with ⟨C4, _ | _⟩
        · simp only [Bool.false_eq_true, if_false]
          have H1 := hide h1
          have H2 := hide h2
          have H3 := hide h3
          have H4 := hide h4
          clear h1 h2 h3 h4
          go_enter Tryz.func30, Tryz.ntmps30
          go_wp2_with (first | (with_reducible show wpList Tryz.prog _ _ (Oper.mk _ (Op.store 23 _ _) _ _ _ none :: _) _ _; refine wpList_stC rfl _ _ rfl (w.heap.size + 1) (kl 13) cl0 (by simp [Act.eval, Act.put]) (by simp [Act.eval, Act.put, clC, kl, ba]) z8 ?_; intro w9 z9 g9 e9) | (with_reducible show wpList Tryz.prog _ _ (Oper.mk _ (Op.load 55 _) _ _ _ none :: _) _ _; refine wpList_load_row rfl _ _ rfl w.heap.size (by simp [Act.eval, Act.put]) _ _ (0, 0) _ x5 Tryz.underlying55 rfl (st_info _ _ _ _ _) ?_) | (with_reducible show wpList Tryz.prog _ _ (Oper.mk _ (Op.load 55 _) _ _ _ none :: _) _ _; refine wpList_load_row rfl _ _ rfl w.heap.size (by simp [Act.eval, Act.put]) _ _ (0, 0) _ rb Tryz.underlying55 rfl (st_info _ _ _ _ _) ?_) | (with_reducible show wpList Tryz.prog _ _ (Oper.mk _ (Op.alloc 23) _ _ _ none :: _) _ _; refine wpList_alC rfl rfl ?_; intro wd rd bd ed; clear ed; have b7 := belT b6 bd; have z7 := z6.later bd) | (with_reducible show wpList Tryz.prog _ _ (Oper.mk _ (Op.alloc 23) _ _ _ none :: _) _ _; refine wpList_alC rfl rfl ?_; intro wc rc bc ec; clear ec; have b3 := belT b2 bc; have x3 := row_later x2 bc; have z3 := z2.later bc) | (with_reducible show wpList Tryz.prog _ _ (Oper.mk _ (Op.store 23 _ _) _ _ _ none :: _) _ _; refine wpList_stC rfl _ _ rfl w6.heap.size C4 cl0 (by simp [Act.eval, Act.put]) (by simp [Act.eval, Act.put]) rd ?_; intro w8 r8 g8 e8; clear e8; have b8 := belowG b7 g8 b6.size b7.size; have z8 := z7.gb g8 (Nat.ne_of_lt z6.lt)) | (with_reducible show wpList Tryz.prog _ _ (Oper.mk _ (Op.store 23 _ _) _ _ _ none :: _) _ _; refine wpList_stC rfl _ _ rfl w2.heap.size C2 cl0 (by simp [Act.eval, Act.put]) (by simp [Act.eval, Act.put]) rc ?_; intro w4 r4 g4 e4; clear e4; have b4 := belowG b3 g4 b2.size b3.size; have x4 := row_gb x3 g4 (Nat.ne_of_lt (row_lt x2)); have z4 := z3.gb g4 (Nat.ne_of_lt z2.lt); have v4 := cell_of_row _ _ 1 _ _ _ x4) | (go_at_call 55; refine (chain11 _ ao n c l w5 ((unhide HS).later b5) ((unhide HW).later b5) (unhide HT) _ (unhide H4)).mono ?_; rintro e w6 ⟨rfl, c6⟩; have b6 := belT b5 c6; have z6 := z5.later c6) | (go_at_call 36; refine (locks_st g2 ao n c l w4 _ ((unhide M).later b4) ((unhide HW).later b4) (unhide H3)).mono ?_; rintro e w5 ⟨rfl, c5⟩; have b5 := belT b4 c5; have x5 := row_later x4 c5; have z5 := z4.later c5) | (go_at_call 55; refine (kchain3 ao n c l w1 ((unhide HW).later b1) (unhide HT) _ (unhide H2)).mono ?_; rintro e w2 ⟨rfl, c2⟩; have b2 := belT b1 c2; have x2 := row_later x1 c2; have z2 := z1.later c2) | (go_at_call 54; refine (isOdd_st _ ao n c l wz _ ((unhide HS).later bz) ((unhide HW).later bz) (unhide H1)).mono ?_; rintro e w1 ⟨rfl, c1⟩; have b1 := belT bz c1; have x1 := row_later rb c1; have z1 := rz.later c1) | (with_reducible show wpList Tryz.prog _ _ (Oper.mk _ (Op.alloc 23) _ _ _ none :: _) _ _; refine wpList_alC rfl rfl ?_; intro wz rz0 bz0 ez0; clear ez0; have bz := (unhide bX).trans (bz0.mono (by rw [unhide ez]; exact Nat.le_succ _)); have rb := row_later (unhide rX) bz0; have rz := rz0.at (unhide ez)))
          exact cl_end rfl (w.heap.size + 1) (kl 13) _ rfl rfl z9 rfl (belowG b8 g9 (Nat.le_succ _) b8.size)
        · simp only [if_true]
          have H1 := hide h1
          have H2 := hide h2
          have H3 := hide h3
          have H4 := hide h4
          clear h1 h2 h3 h4
          go_enter Tryz.func30, Tryz.ntmps30
          go_wp2_with (first | (with_reducible show wpList Tryz.prog _ _ (Oper.mk _ (Op.load 23 _) _ _ _ none :: _) _ _; refine wpList_ldC rfl _ rfl w6.heap.size C4 (by simp [Act.eval, Act.put]) r8 ?_) | (with_reducible show wpList Tryz.prog _ _ (Oper.mk _ (Op.store 23 _ _) _ _ _ none :: _) _ _; refine wpList_stC rfl _ _ rfl (w.heap.size + 1) C4 cl0 (by simp [Act.eval, Act.put]) (by simp [Act.eval, Act.put]) z8 ?_; intro w9 z9 g9 e9) | (with_reducible show wpList Tryz.prog _ _ (Oper.mk _ (Op.load 55 _) _ _ _ none :: _) _ _; refine wpList_load_row rfl _ _ rfl w.heap.size (by simp [Act.eval, Act.put]) _ _ (0, 0) _ x5 Tryz.underlying55 rfl (st_info _ _ _ _ _) ?_) | (with_reducible show wpList Tryz.prog _ _ (Oper.mk _ (Op.load 55 _) _ _ _ none :: _) _ _; refine wpList_load_row rfl _ _ rfl w.heap.size (by simp [Act.eval, Act.put]) _ _ (0, 0) _ rb Tryz.underlying55 rfl (st_info _ _ _ _ _) ?_) | (with_reducible show wpList Tryz.prog _ _ (Oper.mk _ (Op.alloc 23) _ _ _ none :: _) _ _; refine wpList_alC rfl rfl ?_; intro wd rd bd ed; clear ed; have b7 := belT b6 bd; have z7 := z6.later bd) | (with_reducible show wpList Tryz.prog _ _ (Oper.mk _ (Op.alloc 23) _ _ _ none :: _) _ _; refine wpList_alC rfl rfl ?_; intro wc rc bc ec; clear ec; have b3 := belT b2 bc; have x3 := row_later x2 bc; have z3 := z2.later bc) | (with_reducible show wpList Tryz.prog _ _ (Oper.mk _ (Op.store 23 _ _) _ _ _ none :: _) _ _; refine wpList_stC rfl _ _ rfl w6.heap.size C4 cl0 (by simp [Act.eval, Act.put]) (by simp [Act.eval, Act.put]) rd ?_; intro w8 r8 g8 e8; clear e8; have b8 := belowG b7 g8 b6.size b7.size; have z8 := z7.gb g8 (Nat.ne_of_lt z6.lt)) | (with_reducible show wpList Tryz.prog _ _ (Oper.mk _ (Op.store 23 _ _) _ _ _ none :: _) _ _; refine wpList_stC rfl _ _ rfl w2.heap.size C2 cl0 (by simp [Act.eval, Act.put]) (by simp [Act.eval, Act.put]) rc ?_; intro w4 r4 g4 e4; clear e4; have b4 := belowG b3 g4 b2.size b3.size; have x4 := row_gb x3 g4 (Nat.ne_of_lt (row_lt x2)); have z4 := z3.gb g4 (Nat.ne_of_lt z2.lt); have v4 := cell_of_row _ _ 1 _ _ _ x4) | (go_at_call 55; refine (chain11 _ ao n c l w5 ((unhide HS).later b5) ((unhide HW).later b5) (unhide HT) _ (unhide H4)).mono ?_; rintro e w6 ⟨rfl, c6⟩; have b6 := belT b5 c6; have z6 := z5.later c6) | (go_at_call 36; refine (locks_st g2 ao n c l w4 _ ((unhide M).later b4) ((unhide HW).later b4) (unhide H3)).mono ?_; rintro e w5 ⟨rfl, c5⟩; have b5 := belT b4 c5; have x5 := row_later x4 c5; have z5 := z4.later c5) | (go_at_call 55; refine (kchain3 ao n c l w1 ((unhide HW).later b1) (unhide HT) _ (unhide H2)).mono ?_; rintro e w2 ⟨rfl, c2⟩; have b2 := belT b1 c2; have x2 := row_later x1 c2; have z2 := z1.later c2) | (go_at_call 54; refine (isOdd_st _ ao n c l wz _ ((unhide HS).later bz) ((unhide HW).later bz) (unhide H1)).mono ?_; rintro e w1 ⟨rfl, c1⟩; have b1 := belT bz c1; have x1 := row_later rb c1; have z1 := rz.later c1) | (with_reducible show wpList Tryz.prog _ _ (Oper.mk _ (Op.alloc 23) _ _ _ none :: _) _ _; refine wpList_alC rfl rfl ?_; intro wz rz0 bz0 ez0; clear ez0; have bz := (unhide bX).trans (bz0.mono (by rw [unhide ez]; exact Nat.le_succ _)); have rb := row_later (unhide rX) bz0; have rz := rz0.at (unhide ez)))
          exact cl_end rfl (w.heap.size + 1) C4 _ rfl rfl z9 rfl (belowG b8 g9 (Nat.le_succ _) b8.size)
      · simp only [if_true]
        have H1 := hide h1
        have H2 := hide h2
        have H3 := hide h3
        clear h1 h2 h3
        go_enter Tryz.func30, Tryz.ntmps30
        go_wp2_with (first | (with_reducible show wpList Tryz.prog _ _ (Oper.mk _ (Op.store 23 _ _) _ _ _ none :: _) _ _; refine wpList_stC rfl _ _ rfl (w.heap.size + 1) (kl 13) cl0 (by simp [Act.eval, Act.put]) (by simp [Act.eval, Act.put, clC, kl, ba]) z5 ?_; intro w9 z9 g9 e9) | (with_reducible show wpList Tryz.prog _ _ (Oper.mk _ (Op.load 55 _) _ _ _ none :: _) _ _; refine wpList_load_row rfl _ _ rfl w.heap.size (by simp [Act.eval, Act.put]) _ _ (0, 0) _ rb Tryz.underlying55 rfl (st_info _ _ _ _ _) ?_) | (with_reducible show wpList Tryz.prog _ _ (Oper.mk _ (Op.alloc 23) _ _ _ none :: _) _ _; refine wpList_alC rfl rfl ?_; intro wc rc bc ec; clear ec; have b3 := belT b2 bc; have x3 := row_later x2 bc; have z3 := z2.later bc) | (with_reducible show wpList Tryz.prog _ _ (Oper.mk _ (Op.store 23 _ _) _ _ _ none :: _) _ _; refine wpList_stC rfl _ _ rfl w2.heap.size C2 cl0 (by simp [Act.eval, Act.put]) (by simp [Act.eval, Act.put]) rc ?_; intro w4 r4 g4 e4; clear e4; have b4 := belowG b3 g4 b2.size b3.size; have x4 := row_gb x3 g4 (Nat.ne_of_lt (row_lt x2)); have z4 := z3.gb g4 (Nat.ne_of_lt z2.lt); have v4 := cell_of_row _ _ 1 _ _ _ x4) | (go_at_call 36; refine (locks_st g2 ao n c l w4 _ ((unhide M).later b4) ((unhide HW).later b4) (unhide H3)).mono ?_; rintro e w5 ⟨rfl, c5⟩; have b5 := belT b4 c5; have x5 := row_later x4 c5; have z5 := z4.later c5) | (go_at_call 55; refine (kchain3 ao n c l w1 ((unhide HW).later b1) (unhide HT) _ (unhide H2)).mono ?_; rintro e w2 ⟨rfl, c2⟩; have b2 := belT b1 c2; have x2 := row_later x1 c2; have z2 := z1.later c2) | (go_at_call 54; refine (isOdd_st _ ao n c l wz _ ((unhide HS).later bz) ((unhide HW).later bz) (unhide H1)).mono ?_; rintro e w1 ⟨rfl, c1⟩; have b1 := belT bz c1; have x1 := row_later rb c1; have z1 := rz.later c1) | (with_reducible show wpList Tryz.prog _ _ (Oper.mk _ (Op.alloc 23) _ _ _ none :: _) _ _; refine wpList_alC rfl rfl ?_; intro wz rz0 bz0 ez0; clear ez0; have bz := (unhide bX).trans (bz0.mono (by rw [unhide ez]; exact Nat.le_succ _)); have rb := row_later (unhide rX) bz0; have rz := rz0.at (unhide ez)))
        exact cl_end rfl (w.heap.size + 1) (kl 13) _ rfl rfl z9 rfl (belowG b5 g9 (Nat.le_succ _) b5.size)
    · simp only [if_true]
      have H1 := hide h1
      have H2 := hide h2
      clear h1 h2
      go_enter Tryz.func30, Tryz.ntmps30
      go_wp2_with (first | (with_reducible show wpList Tryz.prog _ _ (Oper.mk _ (Op.load 23 _) _ _ _ none :: _) _ _; refine wpList_ldC rfl _ rfl w2.heap.size C2 (by simp [Act.eval, Act.put]) r4 ?_) | (with_reducible show wpList Tryz.prog _ _ (Oper.mk _ (Op.store 23 _ _) _ _ _ none :: _) _ _; refine wpList_stC rfl _ _ rfl (w.heap.size + 1) C2 cl0 (by simp [Act.eval, Act.put]) (by simp [Act.eval, Act.put]) z4 ?_; intro w9 z9 g9 e9) | (with_reducible show wpList Tryz.prog _ _ (Oper.mk _ (Op.load 55 _) _ _ _ none :: _) _ _; refine wpList_load_row rfl _ _ rfl w.heap.size (by simp [Act.eval, Act.put]) _ _ (0, 0) _ rb Tryz.underlying55 rfl (st_info _ _ _ _ _) ?_) | (with_reducible show wpList Tryz.prog _ _ (Oper.mk _ (Op.alloc 23) _ _ _ none :: _) _ _; refine wpList_alC rfl rfl ?_; intro wc rc bc ec; clear ec; have b3 := belT b2 bc; have x3 := row_later x2 bc; have z3 := z2.later bc) | (with_reducible show wpList Tryz.prog _ _ (Oper.mk _ (Op.store 23 _ _) _ _ _ none :: _) _ _; refine wpList_stC rfl _ _ rfl w2.heap.size C2 cl0 (by simp [Act.eval, Act.put]) (by simp [Act.eval, Act.put]) rc ?_; intro w4 r4 g4 e4; clear e4; have b4 := belowG b3 g4 b2.size b3.size; have x4 := row_gb x3 g4 (Nat.ne_of_lt (row_lt x2)); have z4 := z3.gb g4 (Nat.ne_of_lt z2.lt); have v4 := cell_of_row _ _ 1 _ _ _ x4) | (go_at_call 55; refine (kchain3 ao n c l w1 ((unhide HW).later b1) (unhide HT) _ (unhide H2)).mono ?_; rintro e w2 ⟨rfl, c2⟩; have b2 := belT b1 c2; have x2 := row_later x1 c2; have z2 := z1.later c2) | (go_at_call 54; refine (isOdd_st _ ao n c l wz _ ((unhide HS).later bz) ((unhide HW).later bz) (unhide H1)).mono ?_; rintro e w1 ⟨rfl, c1⟩; have b1 := belT bz c1; have x1 := row_later rb c1; have z1 := rz.later c1) | (with_reducible show wpList Tryz.prog _ _ (Oper.mk _ (Op.alloc 23) _ _ _ none :: _) _ _; refine wpList_alC rfl rfl ?_; intro wz rz0 bz0 ez0; clear ez0; have bz := (unhide bX).trans (bz0.mono (by rw [unhide ez]; exact Nat.le_succ _)); have rb := row_later (unhide rX) bz0; have rz := rz0.at (unhide ez)))
      exact cl_end rfl (w.heap.size + 1) C2 _ rfl rfl z9 rfl (belowG b4 g9 (Nat.le_succ _) b4.size)
  · simp only [if_true]
    have H1 := hide h1
    clear h1
    go_enter Tryz.func30, Tryz.ntmps30
    go_wp2_with (first | (with_reducible show wpList Tryz.prog _ _ (Oper.mk _ (Op.store 23 _ _) _ _ _ none :: _) _ _; refine wpList_stC rfl _ _ rfl (w.heap.size + 1) (kl 13) cl0 (by simp [Act.eval, Act.put]) (by simp [Act.eval, Act.put, clC, kl, ba]) z1 ?_; intro w9 z9 g9 e9) | (with_reducible show wpList Tryz.prog _ _ (Oper.mk _ (Op.load 55 _) _ _ _ none :: _) _ _; refine wpList_load_row rfl _ _ rfl w.heap.size (by simp [Act.eval, Act.put]) _ _ (0, 0) _ rb Tryz.underlying55 rfl (st_info _ _ _ _ _) ?_) | (go_at_call 54; refine (isOdd_st _ ao n c l wz _ ((unhide HS).later bz) ((unhide HW).later bz) (unhide H1)).mono ?_; rintro e w1 ⟨rfl, c1⟩; have b1 := belT bz c1; have x1 := row_later rb c1; have z1 := rz.later c1) | (with_reducible show wpList Tryz.prog _ _ (Oper.mk _ (Op.alloc 23) _ _ _ none :: _) _ _; refine wpList_alC rfl rfl ?_; intro wz rz0 bz0 ez0; clear ez0; have bz := (unhide bX).trans (bz0.mono (by rw [unhide ez]; exact Nat.le_succ _)); have rb := row_later (unhide rX) bz0; have rz := rz0.at (unhide ez)))
    exact cl_end rfl (w.heap.size + 1) (kl 13) _ rfl rfl z9 rfl (belowG b1 g9 (Nat.le_succ _) b1.size)

theorem class_st (cs : Array Value) (ao : Option Addr) (n c : Nat) (l : List Wd) (w : World) (C : Cl) (hS : Sts cs w) (hW : Wds w ao n c l) (hT : ∀ x ∈ l, x.tx.size ≤ 1073741824) (h : clsF l = C) : Calls Tryz.prog 30 #[.agg cs, .slice ao n c] w (OutK w C) := by
  rw [← h]
  exact class_any cs ao n c l w hS hW hT

set_option maxHeartbeats 2000000 in
set_option maxRecDepth 20000 in
theorem one_any (ao : Option Addr) (n c : Nat) (l : List Wd) (w : World) (hW : Wds w ao n c l) (hT : ∀ x ∈ l, x.tx.size ≤ 1073741824) : Calls Tryz.prog 22 #[.slice ao n c] w (OutK w (oneF l)) := by
  have HW := hide hW
  have HT := hide hT
  clear hW hT
  unfold oneF
  rcases h1 : l.any isE with _ | _
  · simp only [Bool.false_eq_true, if_false]
    obtain ⟨C, h2⟩ : ∃ C, clsF l = C := ⟨_, rfl⟩
    rw [h2]
    have H1 := hide h1
    have H2 := hide h2
    have HN := hide newSets_any
    clear h1 h2
    go_enter Tryz.func22, Tryz.ntmps22
    go_wp2_with (first | (with_reducible show wpList Tryz.prog _ _ (Oper.mk _ (Op.alloc 23) _ _ _ none :: _) _ _; refine wpList_alC rfl rfl ?_; intro wz rz bz ez; clear ez) | (go_at_call 36; refine (hasEnd_st ao n c l wz _ ((unhide HW).later bz) (unhide H1)).mono ?_; rintro e w1 ⟨rfl, c1⟩; have b1 := belT bz c1; have z1 := rz.later c1) | (go_at_call 27; refine (unhide HN w1).mono ?_; rintro e w2 ⟨cs, rfl, s2, c2⟩; have b2 := belT b1 c2; have z2 := z1.later c2) | (go_at_call 30; refine (class_st cs ao n c l w2 C s2 ((unhide HW).later b2) (unhide HT) (unhide H2)).mono ?_; rintro e w3 ⟨rfl, c3⟩; have b3 := belT b2 c3; have z3 := z2.later c3) | (with_reducible show wpList Tryz.prog _ _ (Oper.mk _ (Op.store 23 _ _) _ _ _ none :: _) _ _; refine wpList_stC rfl _ _ rfl w.heap.size C cl0 (by simp [Act.eval, Act.put]) (by simp [Act.eval, Act.put]) z3 ?_; intro w9 z9 g9 e9))
    exact cl_end rfl w.heap.size C _ rfl rfl z9 rfl (belowG b3 g9 (Nat.le_refl _) b3.size)
  · simp only [if_true]
    have H1 := hide h1
    clear h1
    go_enter Tryz.func22, Tryz.ntmps22
    go_wp2_with (first | (with_reducible show wpList Tryz.prog _ _ (Oper.mk _ (Op.alloc 23) _ _ _ none :: _) _ _; refine wpList_alC rfl rfl ?_; intro wz rz bz ez; clear ez) | (go_at_call 36; refine (hasEnd_st ao n c l wz _ ((unhide HW).later bz) (unhide H1)).mono ?_; rintro e w1 ⟨rfl, c1⟩; have b1 := belT bz c1; have z1 := rz.later c1) | (with_reducible show wpList Tryz.prog _ _ (Oper.mk _ (Op.store 23 _ _) _ _ _ none :: _) _ _; refine wpList_stC rfl _ _ rfl w.heap.size (kl 13) cl0 (by simp [Act.eval, Act.put]) (by simp [Act.eval, Act.put, clC, kl, ba]) z1 ?_; intro w9 z9 g9 e9))
    exact cl_end rfl w.heap.size (kl 13) _ rfl rfl z9 rfl (belowG b1 g9 (Nat.le_refl _) b1.size)

end Go.Proofs.YtffbmfjmdcjcmaaGreatDoor
