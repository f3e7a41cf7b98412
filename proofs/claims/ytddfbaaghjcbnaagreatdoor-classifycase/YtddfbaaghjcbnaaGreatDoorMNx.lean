/-
  What next of package scan returns for any text that is not empty. Conditions: at most 2,000,000 bytes; the library's variables read as they were laid.
  What All of package scan returns for any text: the words, or the first fault. Conditions: the library's variables read as they were laid.
-/
import Derived.Test.YtddfbaaghjcbnaaGreatDoorScUs
import Derived.Test.YtddfbaaghjcbnaaGreatDoorScPl2
namespace Go.Proofs.YtddfbaaghjcbnaaGreatDoor
open Go.RowKit
set_option linter.unusedVariables false
set_option linter.unusedSimpArgs false
theorem en_oddRemark : ∀ args w, (callFunc 22 args).run Tryz.prog w = .ok (.enter 22 args) w := enters_of Tryz.func22 (by kernel_rfl) rfl
theorem en_number : ∀ args w, (callFunc 23 args).run Tryz.prog w = .ok (.enter 23 args) w := enters_of Tryz.func23 (by kernel_rfl) rfl
theorem en_userVar : ∀ args w, (callFunc 27 args).run Tryz.prog w = .ok (.enter 27 args) w := enters_of Tryz.func27 (by kernel_rfl) rfl
theorem en_systemVar : ∀ args w, (callFunc 28 args).run Tryz.prog w = .ok (.enter 28 args) w := enters_of Tryz.func28 (by kernel_rfl) rfl
theorem en_param : ∀ args w, (callFunc 29 args).run Tryz.prog w = .ok (.enter 29 args) w := enters_of Tryz.func29 (by kernel_rfl) rfl
theorem en_sign : ∀ args w, (callFunc 30 args).run Tryz.prog w = .ok (.enter 30 args) w := enters_of Tryz.func30 (by kernel_rfl) rfl
def fns9 : Array Value := #[.func (.func 22) #[] #[], .func (.func 23) #[] #[], .func (.func 24) #[] #[], .func (.func 25) #[] #[], .func (.func 26) #[] #[], .func (.func 27) #[] #[], .func (.func 28) #[] #[], .func (.func 29) #[] #[], .func (.func 30) #[] #[]]
theorem userVar_ok (s : ByteArray) (w : World) (hV : Vr w) (hs : s.size ≤ 2000000) : Calls Tryz.prog 27 #[.string s] w fun e w' => e = .returned (.agg (fdC (usF (bl s)))) ∧ Below w.heap.size w w' := by
  have h := usB_fits ((bl s).drop 1)
  have hl : ((bl s).drop 1).length ≤ s.size := by rw [List.length_drop, bl_len]; omega
  exact userVar_any s w hV hs (Nat.le_trans h.2 (by omega)) (Nat.le_trans h.1 (by omega))
theorem chain9 (s : ByteArray) (w w' : World) (g : Nat) (T : TypeId) (h : w'.heap[g]? = some (.cells fns9 T (0, 0))) (hs : s.size ≤ 2000000) :
    Chain s w' g 0 9 [(22, odF (bl s)), (23, numF (bl s)), (24, naF (bl s)), (25, qnF (bl s)), (26, qtF (bl s)), (27, usF (bl s)), (28, syF (bl s)), (29, paF (bl s)), (30, sgF (bl s))] := by
  have hc := fun j => cell_of_row w' g j _ _ _ h
  refine ⟨rfl, fun i p hp => ?_, fun i p hp => ?_, fun i p hp => ?_⟩
  · rw [Nat.zero_add, hc]
    match i, hp with
    | 0, hp | 1, hp | 2, hp | 3, hp | 4, hp | 5, hp | 6, hp | 7, hp | 8, hp => simp at hp; subst hp; rfl
    | i + 9, hp => simp at hp
  · match i, hp with
    | 0, hp => simp at hp; subst hp; exact en_oddRemark
    | 1, hp => simp at hp; subst hp; exact en_number
    | 2, hp => simp at hp; subst hp; exact en_name
    | 3, hp => simp at hp; subst hp; exact en_quotedName
    | 4, hp => simp at hp; subst hp; exact en_quotedText
    | 5, hp => simp at hp; subst hp; exact en_userVar
    | 6, hp => simp at hp; subst hp; exact en_systemVar
    | 7, hp => simp at hp; subst hp; exact en_param
    | 8, hp => simp at hp; subst hp; exact en_sign
    | i + 9, hp => simp at hp
  · match i, hp with
    | 0, hp => simp at hp; subst hp; exact fun wx hx => oddRemark_any s wx hx hs
    | 1, hp => simp at hp; subst hp; exact fun wx hx => number_any s wx hx hs
    | 2, hp => simp at hp; subst hp; exact fun wx hx => name_any s wx hx hs
    | 3, hp => simp at hp; subst hp; exact fun wx _ => quotedName_any s wx hs
    | 4, hp => simp at hp; subst hp; exact fun wx _ => quotedText_any s wx hs
    | 5, hp => simp at hp; subst hp; exact fun wx hx => userVar_ok s wx hx hs
    | 6, hp => simp at hp; subst hp; exact fun wx hx => systemVar_any s wx hx hs
    | 7, hp => simp at hp; subst hp; exact fun wx _ => param_any s wx
    | 8, hp => simp at hp; subst hp; exact fun wx _ => sign_any s wx hs
    | i + 9, hp => simp at hp
theorem longest9 (s : ByteArray) (w : World) (g : Nat) (hV : Vr w) (hs : s.size ≤ 2000000) (hg : g = w.heap.size) :
    Calls Tryz.prog 21 #[.string s, .slice (some ⟨g, 0, none⟩) 9 9] (w.alloc (.cells fns9 44)) fun e w' => e = .returned (.agg (fdC (chF (bl s)))) ∧ Below w.heap.size w w' :=
  (longest_any s _ g 0 9 9 _ (chain9 s w _ g _ (by rw [hg]; exact heap_alloc_new w _) hs) (hV.later (below_alloc w _)) (by omega) (by omega) (by omega)).mono fun e w' h => ⟨h.1, bt (below_alloc w _) h.2⟩

set_option maxHeartbeats 4000000 in
set_option maxRecDepth 20000 in
theorem next_any (s : ByteArray) (w : World) (hV : Vr w) (hs : s.size ≤ 2000000) (h1 : 1 ≤ s.size) : Calls Tryz.prog 11 #[.string s] w fun e w' => e = .returned (.agg (fdC (nxF (bl s)))) ∧ Below w.heap.size w w' := by
  have HV := hide hV
  have c0 := fun wx (h : Vr wx) => blankOrRemark_any s wx h hs h1
  have c1 := fun wx g (h : Vr wx) (hg : g = wx.heap.size) => longest9 s wx g h hs hg
  unfold nxF
  unfold fns9 at c1
  generalize gaF (bl s) = G at *
  generalize chF (bl s) = H at *
  obtain ⟨gk, gt, gn, ge⟩ := G
  obtain ⟨k, tx, m, E⟩ := H
  have HC0 := hide c0
  have HC1 := hide c1
  clear c0 c1
  simp only
  by_cases hA : 0 < gn
  · have ha : decide ((0 : Int) < (gn : Int)) = true := by simp; omega
    rw [if_pos (.inl hA)]
    go_enter Tryz.func11, Tryz.ntmps11
    go_wp2_with (first | (with_reducible show wpList Tryz.prog _ _ (Oper.mk _ (Op.alloc 43) _ _ _ none :: _) _ _; refine wpList_alF rfl rfl ?_; intro w7 fy q7 t7; have r7 := r6.later q7; have b7 := bt b6 q7; have n6 := r6.lt) | (with_reducible show wpList Tryz.prog _ _ (Oper.mk _ (Op.alloc 43) _ _ _ none :: _) _ _; refine wpList_alF rfl rfl ?_; intro w3 fz q3 t3; have r3 := r2.later q3; have b3 := bt b2 q3; have n2 := r2.lt) | (with_reducible show wpList Tryz.prog _ _ (Oper.mk _ (Op.alloc 43) _ _ _ none :: _) _ _; refine wpList_alF rfl rfl ?_; intro w1 r1 b1 t1) | (go_at_call 20; (with_reducible refine (unhide HC0 w1 ((unhide HV).later b1)).mono ?_); rintro e w2 ⟨rfl, q2⟩; have r2 := r1.later q2; have b2 := bt b1 q2) | (with_reducible show wpList Tryz.prog _ _ (Oper.mk _ (Op.store 43 _ _) _ _ _ none :: _) _ _; refine wpList_stF rfl (.tmp 3) (.tmp 6) rfl _ ⟨gk, gt, gn, ge⟩ nil0 (by simp [Act.eval, Act.put]) (by simp [Act.eval, Act.put]) fz ?_; intro w4 fz g4 t4; have r4 := r3.gb g4 (Nat.ne_of_lt n2); have b4 := below_gb b3 g4 (Nat.le_of_lt n2); have k3 := fb_n fz; have k4 := fb_e fz) | (with_reducible show wpList Tryz.prog _ _ (Oper.mk _ (Op.load 43 _) _ _ _ none :: _) _ _; refine wpList_ldF rfl (.tmp 3) rfl _ ⟨gk, gt, gn, ge⟩ (by simp [Act.eval, Act.put]) fz ?_) | (with_reducible show wpList Tryz.prog _ _ (Oper.mk _ (Op.store 43 _ _) _ _ _ none :: _) _ _; refine wpList_stF rfl (.tmp 2) (.tmp 15) rfl w.heap.size ⟨gk, gt, gn, ge⟩ nil0 (by simp [Act.eval, Act.put]) (by simp [Act.eval, Act.put]) r4 ?_; intro wy ry gy sy) | (go_at_call 21; (with_reducible refine (unhide HC1 w4 _ ((unhide HV).later b4) (by first | rfl | (rw [t4, t3]) | omega)).mono ?_); rintro e w6 ⟨rfl, q6⟩; have r6 := r4.later q6; have b6 := bt b4 q6) | (with_reducible show wpList Tryz.prog _ _ (Oper.mk _ (Op.store 43 _ _) _ _ _ none :: _) _ _; refine wpList_stF rfl (.tmp 4) (.tmp 18) rfl _ ⟨k, tx, m, E⟩ nil0 (by simp [Act.eval, Act.put]) (by simp [Act.eval, Act.put]) fy ?_; intro w8 fy g8 t8; have r8 := r7.gb g8 (Nat.ne_of_lt n6); have b8 := below_gb b7 g8 (Nat.le_of_lt n6); have l3 := fb_n fy; have l4 := fb_e fy) | (with_reducible show wpList Tryz.prog _ _ (Oper.mk _ (Op.store 43 _ _) _ _ _ none :: _) _ _; refine wpList_stF rfl (.tmp 2) (.tmp 27) rfl w.heap.size (er 191) nil0 (by simp [Act.eval, Act.put]) (by simp [Act.eval, Act.put, fdC, er, ba]) r8 ?_; intro wy ry gy sy) | (with_reducible show wpList Tryz.prog _ _ (Oper.mk _ (Op.load 43 _) _ _ _ none :: _) _ _; refine wpList_ldF rfl (.tmp 4) rfl _ ⟨k, tx, m, E⟩ (by simp [Act.eval, Act.put]) fy ?_) | (with_reducible show wpList Tryz.prog _ _ (Oper.mk _ (Op.store 43 _ _) _ _ _ none :: _) _ _; refine wpList_stF rfl (.tmp 2) (.tmp 28) rfl w.heap.size ⟨k, tx, m, E⟩ nil0 (by simp [Act.eval, Act.put]) (by simp [Act.eval, Act.put]) r8 ?_; intro wy ry gy sy))
    exact fd_end rfl w.heap.size _ _ rfl rfl ry rfl (below_gb b4 gy (Nat.le_refl _))
  · have ha : decide ((0 : Int) < (gn : Int)) = false := by simp; omega
    by_cases hB : ge = 0
    · have hb : (ge != 0) = false := by simpa using hB
      rw [if_neg (fun h => by rcases h with h | h; exact hA h; exact h hB)]
      clear hB
      by_cases hM : m = 0
      · have hm : ((m : Int) == 0) = true := by simp [hM]
        by_cases hE : E = 0
        · have he : (E == 0) = true := by simpa using hE
          rw [if_pos ⟨hM, hE⟩]
          clear hE hM
          go_enter Tryz.func11, Tryz.ntmps11
          go_wp2_with (first | (with_reducible show wpList Tryz.prog _ _ (Oper.mk _ (Op.alloc 43) _ _ _ none :: _) _ _; refine wpList_alF rfl rfl ?_; intro w7 fy q7 t7; have r7 := r6.later q7; have b7 := bt b6 q7; have n6 := r6.lt) | (with_reducible show wpList Tryz.prog _ _ (Oper.mk _ (Op.alloc 43) _ _ _ none :: _) _ _; refine wpList_alF rfl rfl ?_; intro w3 fz q3 t3; have r3 := r2.later q3; have b3 := bt b2 q3; have n2 := r2.lt) | (with_reducible show wpList Tryz.prog _ _ (Oper.mk _ (Op.alloc 43) _ _ _ none :: _) _ _; refine wpList_alF rfl rfl ?_; intro w1 r1 b1 t1) | (go_at_call 20; (with_reducible refine (unhide HC0 w1 ((unhide HV).later b1)).mono ?_); rintro e w2 ⟨rfl, q2⟩; have r2 := r1.later q2; have b2 := bt b1 q2) | (with_reducible show wpList Tryz.prog _ _ (Oper.mk _ (Op.store 43 _ _) _ _ _ none :: _) _ _; refine wpList_stF rfl (.tmp 3) (.tmp 6) rfl _ ⟨gk, gt, gn, ge⟩ nil0 (by simp [Act.eval, Act.put]) (by simp [Act.eval, Act.put]) fz ?_; intro w4 fz g4 t4; have r4 := r3.gb g4 (Nat.ne_of_lt n2); have b4 := below_gb b3 g4 (Nat.le_of_lt n2); have k3 := fb_n fz; have k4 := fb_e fz) | (with_reducible show wpList Tryz.prog _ _ (Oper.mk _ (Op.load 43 _) _ _ _ none :: _) _ _; refine wpList_ldF rfl (.tmp 3) rfl _ ⟨gk, gt, gn, ge⟩ (by simp [Act.eval, Act.put]) fz ?_) | (with_reducible show wpList Tryz.prog _ _ (Oper.mk _ (Op.store 43 _ _) _ _ _ none :: _) _ _; refine wpList_stF rfl (.tmp 2) (.tmp 15) rfl w.heap.size ⟨gk, gt, gn, ge⟩ nil0 (by simp [Act.eval, Act.put]) (by simp [Act.eval, Act.put]) r4 ?_; intro wy ry gy sy) | (go_at_call 21; (with_reducible refine (unhide HC1 w4 _ ((unhide HV).later b4) (by first | rfl | (rw [t4, t3]) | omega)).mono ?_); rintro e w6 ⟨rfl, q6⟩; have r6 := r4.later q6; have b6 := bt b4 q6) | (with_reducible show wpList Tryz.prog _ _ (Oper.mk _ (Op.store 43 _ _) _ _ _ none :: _) _ _; refine wpList_stF rfl (.tmp 4) (.tmp 18) rfl _ ⟨k, tx, m, E⟩ nil0 (by simp [Act.eval, Act.put]) (by simp [Act.eval, Act.put]) fy ?_; intro w8 fy g8 t8; have r8 := r7.gb g8 (Nat.ne_of_lt n6); have b8 := below_gb b7 g8 (Nat.le_of_lt n6); have l3 := fb_n fy; have l4 := fb_e fy) | (with_reducible show wpList Tryz.prog _ _ (Oper.mk _ (Op.store 43 _ _) _ _ _ none :: _) _ _; refine wpList_stF rfl (.tmp 2) (.tmp 27) rfl w.heap.size (er 191) nil0 (by simp [Act.eval, Act.put]) (by simp [Act.eval, Act.put, fdC, er, ba]) r8 ?_; intro wy ry gy sy) | (with_reducible show wpList Tryz.prog _ _ (Oper.mk _ (Op.load 43 _) _ _ _ none :: _) _ _; refine wpList_ldF rfl (.tmp 4) rfl _ ⟨k, tx, m, E⟩ (by simp [Act.eval, Act.put]) fy ?_) | (with_reducible show wpList Tryz.prog _ _ (Oper.mk _ (Op.store 43 _ _) _ _ _ none :: _) _ _; refine wpList_stF rfl (.tmp 2) (.tmp 28) rfl w.heap.size ⟨k, tx, m, E⟩ nil0 (by simp [Act.eval, Act.put]) (by simp [Act.eval, Act.put]) r8 ?_; intro wy ry gy sy))
          exact fd_end rfl w.heap.size _ _ rfl rfl ry rfl (below_gb b8 gy (Nat.le_refl _))
        · have he : (E == 0) = false := by simpa using hE
          rw [if_neg (fun h => hE h.2)]
          clear hE hM
          go_enter Tryz.func11, Tryz.ntmps11
          go_wp2_with (first | (with_reducible show wpList Tryz.prog _ _ (Oper.mk _ (Op.alloc 43) _ _ _ none :: _) _ _; refine wpList_alF rfl rfl ?_; intro w7 fy q7 t7; have r7 := r6.later q7; have b7 := bt b6 q7; have n6 := r6.lt) | (with_reducible show wpList Tryz.prog _ _ (Oper.mk _ (Op.alloc 43) _ _ _ none :: _) _ _; refine wpList_alF rfl rfl ?_; intro w3 fz q3 t3; have r3 := r2.later q3; have b3 := bt b2 q3; have n2 := r2.lt) | (with_reducible show wpList Tryz.prog _ _ (Oper.mk _ (Op.alloc 43) _ _ _ none :: _) _ _; refine wpList_alF rfl rfl ?_; intro w1 r1 b1 t1) | (go_at_call 20; (with_reducible refine (unhide HC0 w1 ((unhide HV).later b1)).mono ?_); rintro e w2 ⟨rfl, q2⟩; have r2 := r1.later q2; have b2 := bt b1 q2) | (with_reducible show wpList Tryz.prog _ _ (Oper.mk _ (Op.store 43 _ _) _ _ _ none :: _) _ _; refine wpList_stF rfl (.tmp 3) (.tmp 6) rfl _ ⟨gk, gt, gn, ge⟩ nil0 (by simp [Act.eval, Act.put]) (by simp [Act.eval, Act.put]) fz ?_; intro w4 fz g4 t4; have r4 := r3.gb g4 (Nat.ne_of_lt n2); have b4 := below_gb b3 g4 (Nat.le_of_lt n2); have k3 := fb_n fz; have k4 := fb_e fz) | (with_reducible show wpList Tryz.prog _ _ (Oper.mk _ (Op.load 43 _) _ _ _ none :: _) _ _; refine wpList_ldF rfl (.tmp 3) rfl _ ⟨gk, gt, gn, ge⟩ (by simp [Act.eval, Act.put]) fz ?_) | (with_reducible show wpList Tryz.prog _ _ (Oper.mk _ (Op.store 43 _ _) _ _ _ none :: _) _ _; refine wpList_stF rfl (.tmp 2) (.tmp 15) rfl w.heap.size ⟨gk, gt, gn, ge⟩ nil0 (by simp [Act.eval, Act.put]) (by simp [Act.eval, Act.put]) r4 ?_; intro wy ry gy sy) | (go_at_call 21; (with_reducible refine (unhide HC1 w4 _ ((unhide HV).later b4) (by first | rfl | (rw [t4, t3]) | omega)).mono ?_); rintro e w6 ⟨rfl, q6⟩; have r6 := r4.later q6; have b6 := bt b4 q6) | (with_reducible show wpList Tryz.prog _ _ (Oper.mk _ (Op.store 43 _ _) _ _ _ none :: _) _ _; refine wpList_stF rfl (.tmp 4) (.tmp 18) rfl _ ⟨k, tx, m, E⟩ nil0 (by simp [Act.eval, Act.put]) (by simp [Act.eval, Act.put]) fy ?_; intro w8 fy g8 t8; have r8 := r7.gb g8 (Nat.ne_of_lt n6); have b8 := below_gb b7 g8 (Nat.le_of_lt n6); have l3 := fb_n fy; have l4 := fb_e fy) | (with_reducible show wpList Tryz.prog _ _ (Oper.mk _ (Op.store 43 _ _) _ _ _ none :: _) _ _; refine wpList_stF rfl (.tmp 2) (.tmp 27) rfl w.heap.size (er 191) nil0 (by simp [Act.eval, Act.put]) (by simp [Act.eval, Act.put, fdC, er, ba]) r8 ?_; intro wy ry gy sy) | (with_reducible show wpList Tryz.prog _ _ (Oper.mk _ (Op.load 43 _) _ _ _ none :: _) _ _; refine wpList_ldF rfl (.tmp 4) rfl _ ⟨k, tx, m, E⟩ (by simp [Act.eval, Act.put]) fy ?_) | (with_reducible show wpList Tryz.prog _ _ (Oper.mk _ (Op.store 43 _ _) _ _ _ none :: _) _ _; refine wpList_stF rfl (.tmp 2) (.tmp 28) rfl w.heap.size ⟨k, tx, m, E⟩ nil0 (by simp [Act.eval, Act.put]) (by simp [Act.eval, Act.put]) r8 ?_; intro wy ry gy sy))
          exact fd_end rfl w.heap.size _ _ rfl rfl ry rfl (below_gb b8 gy (Nat.le_refl _))
      · have hm : ((m : Int) == 0) = false := by rw [beq_eq_false_iff_ne]; omega
        rw [if_neg (fun h => hM h.1)]
        clear hM
        go_enter Tryz.func11, Tryz.ntmps11
        go_wp2_with (first | (with_reducible show wpList Tryz.prog _ _ (Oper.mk _ (Op.alloc 43) _ _ _ none :: _) _ _; refine wpList_alF rfl rfl ?_; intro w7 fy q7 t7; have r7 := r6.later q7; have b7 := bt b6 q7; have n6 := r6.lt) | (with_reducible show wpList Tryz.prog _ _ (Oper.mk _ (Op.alloc 43) _ _ _ none :: _) _ _; refine wpList_alF rfl rfl ?_; intro w3 fz q3 t3; have r3 := r2.later q3; have b3 := bt b2 q3; have n2 := r2.lt) | (with_reducible show wpList Tryz.prog _ _ (Oper.mk _ (Op.alloc 43) _ _ _ none :: _) _ _; refine wpList_alF rfl rfl ?_; intro w1 r1 b1 t1) | (go_at_call 20; (with_reducible refine (unhide HC0 w1 ((unhide HV).later b1)).mono ?_); rintro e w2 ⟨rfl, q2⟩; have r2 := r1.later q2; have b2 := bt b1 q2) | (with_reducible show wpList Tryz.prog _ _ (Oper.mk _ (Op.store 43 _ _) _ _ _ none :: _) _ _; refine wpList_stF rfl (.tmp 3) (.tmp 6) rfl _ ⟨gk, gt, gn, ge⟩ nil0 (by simp [Act.eval, Act.put]) (by simp [Act.eval, Act.put]) fz ?_; intro w4 fz g4 t4; have r4 := r3.gb g4 (Nat.ne_of_lt n2); have b4 := below_gb b3 g4 (Nat.le_of_lt n2); have k3 := fb_n fz; have k4 := fb_e fz) | (with_reducible show wpList Tryz.prog _ _ (Oper.mk _ (Op.load 43 _) _ _ _ none :: _) _ _; refine wpList_ldF rfl (.tmp 3) rfl _ ⟨gk, gt, gn, ge⟩ (by simp [Act.eval, Act.put]) fz ?_) | (with_reducible show wpList Tryz.prog _ _ (Oper.mk _ (Op.store 43 _ _) _ _ _ none :: _) _ _; refine wpList_stF rfl (.tmp 2) (.tmp 15) rfl w.heap.size ⟨gk, gt, gn, ge⟩ nil0 (by simp [Act.eval, Act.put]) (by simp [Act.eval, Act.put]) r4 ?_; intro wy ry gy sy) | (go_at_call 21; (with_reducible refine (unhide HC1 w4 _ ((unhide HV).later b4) (by first | rfl | (rw [t4, t3]) | omega)).mono ?_); rintro e w6 ⟨rfl, q6⟩; have r6 := r4.later q6; have b6 := bt b4 q6) | (with_reducible show wpList Tryz.prog _ _ (Oper.mk _ (Op.store 43 _ _) _ _ _ none :: _) _ _; refine wpList_stF rfl (.tmp 4) (.tmp 18) rfl _ ⟨k, tx, m, E⟩ nil0 (by simp [Act.eval, Act.put]) (by simp [Act.eval, Act.put]) fy ?_; intro w8 fy g8 t8; have r8 := r7.gb g8 (Nat.ne_of_lt n6); have b8 := below_gb b7 g8 (Nat.le_of_lt n6); have l3 := fb_n fy; have l4 := fb_e fy) | (with_reducible show wpList Tryz.prog _ _ (Oper.mk _ (Op.store 43 _ _) _ _ _ none :: _) _ _; refine wpList_stF rfl (.tmp 2) (.tmp 27) rfl w.heap.size (er 191) nil0 (by simp [Act.eval, Act.put]) (by simp [Act.eval, Act.put, fdC, er, ba]) r8 ?_; intro wy ry gy sy) | (with_reducible show wpList Tryz.prog _ _ (Oper.mk _ (Op.load 43 _) _ _ _ none :: _) _ _; refine wpList_ldF rfl (.tmp 4) rfl _ ⟨k, tx, m, E⟩ (by simp [Act.eval, Act.put]) fy ?_) | (with_reducible show wpList Tryz.prog _ _ (Oper.mk _ (Op.store 43 _ _) _ _ _ none :: _) _ _; refine wpList_stF rfl (.tmp 2) (.tmp 28) rfl w.heap.size ⟨k, tx, m, E⟩ nil0 (by simp [Act.eval, Act.put]) (by simp [Act.eval, Act.put]) r8 ?_; intro wy ry gy sy))
        exact fd_end rfl w.heap.size _ _ rfl rfl ry rfl (below_gb b8 gy (Nat.le_refl _))
    · have hb : (ge != 0) = true := by simpa using hB
      rw [if_pos (.inr hB)]
      clear hB
      go_enter Tryz.func11, Tryz.ntmps11
      go_wp2_with (first | (with_reducible show wpList Tryz.prog _ _ (Oper.mk _ (Op.alloc 43) _ _ _ none :: _) _ _; refine wpList_alF rfl rfl ?_; intro w7 fy q7 t7; have r7 := r6.later q7; have b7 := bt b6 q7; have n6 := r6.lt) | (with_reducible show wpList Tryz.prog _ _ (Oper.mk _ (Op.alloc 43) _ _ _ none :: _) _ _; refine wpList_alF rfl rfl ?_; intro w3 fz q3 t3; have r3 := r2.later q3; have b3 := bt b2 q3; have n2 := r2.lt) | (with_reducible show wpList Tryz.prog _ _ (Oper.mk _ (Op.alloc 43) _ _ _ none :: _) _ _; refine wpList_alF rfl rfl ?_; intro w1 r1 b1 t1) | (go_at_call 20; (with_reducible refine (unhide HC0 w1 ((unhide HV).later b1)).mono ?_); rintro e w2 ⟨rfl, q2⟩; have r2 := r1.later q2; have b2 := bt b1 q2) | (with_reducible show wpList Tryz.prog _ _ (Oper.mk _ (Op.store 43 _ _) _ _ _ none :: _) _ _; refine wpList_stF rfl (.tmp 3) (.tmp 6) rfl _ ⟨gk, gt, gn, ge⟩ nil0 (by simp [Act.eval, Act.put]) (by simp [Act.eval, Act.put]) fz ?_; intro w4 fz g4 t4; have r4 := r3.gb g4 (Nat.ne_of_lt n2); have b4 := below_gb b3 g4 (Nat.le_of_lt n2); have k3 := fb_n fz; have k4 := fb_e fz) | (with_reducible show wpList Tryz.prog _ _ (Oper.mk _ (Op.load 43 _) _ _ _ none :: _) _ _; refine wpList_ldF rfl (.tmp 3) rfl _ ⟨gk, gt, gn, ge⟩ (by simp [Act.eval, Act.put]) fz ?_) | (with_reducible show wpList Tryz.prog _ _ (Oper.mk _ (Op.store 43 _ _) _ _ _ none :: _) _ _; refine wpList_stF rfl (.tmp 2) (.tmp 15) rfl w.heap.size ⟨gk, gt, gn, ge⟩ nil0 (by simp [Act.eval, Act.put]) (by simp [Act.eval, Act.put]) r4 ?_; intro wy ry gy sy) | (go_at_call 21; (with_reducible refine (unhide HC1 w4 _ ((unhide HV).later b4) (by first | rfl | (rw [t4, t3]) | omega)).mono ?_); rintro e w6 ⟨rfl, q6⟩; have r6 := r4.later q6; have b6 := bt b4 q6) | (with_reducible show wpList Tryz.prog _ _ (Oper.mk _ (Op.store 43 _ _) _ _ _ none :: _) _ _; refine wpList_stF rfl (.tmp 4) (.tmp 18) rfl _ ⟨k, tx, m, E⟩ nil0 (by simp [Act.eval, Act.put]) (by simp [Act.eval, Act.put]) fy ?_; intro w8 fy g8 t8; have r8 := r7.gb g8 (Nat.ne_of_lt n6); have b8 := below_gb b7 g8 (Nat.le_of_lt n6); have l3 := fb_n fy; have l4 := fb_e fy) | (with_reducible show wpList Tryz.prog _ _ (Oper.mk _ (Op.store 43 _ _) _ _ _ none :: _) _ _; refine wpList_stF rfl (.tmp 2) (.tmp 27) rfl w.heap.size (er 191) nil0 (by simp [Act.eval, Act.put]) (by simp [Act.eval, Act.put, fdC, er, ba]) r8 ?_; intro wy ry gy sy) | (with_reducible show wpList Tryz.prog _ _ (Oper.mk _ (Op.load 43 _) _ _ _ none :: _) _ _; refine wpList_ldF rfl (.tmp 4) rfl _ ⟨k, tx, m, E⟩ (by simp [Act.eval, Act.put]) fy ?_) | (with_reducible show wpList Tryz.prog _ _ (Oper.mk _ (Op.store 43 _ _) _ _ _ none :: _) _ _; refine wpList_stF rfl (.tmp 2) (.tmp 28) rfl w.heap.size ⟨k, tx, m, E⟩ nil0 (by simp [Act.eval, Act.put]) (by simp [Act.eval, Act.put]) r8 ?_; intro wy ry gy sy))
      exact fd_end rfl w.heap.size _ _ rfl rfl ry rfl (below_gb b4 gy (Nat.le_refl _))

end Go.Proofs.YtddfbaaghjcbnaaGreatDoor

namespace Go.Proofs.YtddfbaaghjcbnaaGreatDoor
open Go.RowKit
set_option linter.unusedVariables false
set_option linter.unusedSimpArgs false

theorem results_tmp_cell {P : Program} {fn : Func} {p u : Tmp} {ty : TypeId} (h : fn.results = #[.tmp u, .cell p ty]) (tmps : Array Value) (w : World) (g : Nat) (cs : Array Value) (hp : tmps.getD p undef = .pointer (some ⟨g, 0, none⟩)) (hl : (loadVar ty ⟨g, 0, none⟩).run P w = .ok (.agg cs) w) :
    (results fn tmps).run P w = .ok (.tuple #[tmps.getD u undef, .agg cs]) w := by
  have hp' : tmps[p]?.getD undef = .pointer (some ⟨g, 0, none⟩) := by simpa using hp
  simp [results, h, Sem.run_bind, Result.andThen, hp', asAddr, hl]
def ftC (f : Ft) : Array Value := #[.int .i64 f.e, .int .i64 f.at']
def ft0 : Array Value := #[.int .i64 0, .int .i64 0]
theorem ftc_info (f : Ft) : (Tryz.prog.info? 26).map (·.size) = some (ftC f).size := by
  rw [show (ftC f).size = 2 from rfl]
  kernel_rfl
theorem ftc_one (f : Ft) : (ftC f).all (·.oneCell') = true := by simp [ftC, Value.oneCell']
/-- A block that holds a fault. -/
def Tb (g : Nat) (f : Ft) (w : World) : Prop := w.heap[g]? = some (.cells (ftC f) 26 (0, 0))
theorem Tb.lt {g : Nat} {f : Ft} {w : World} (h : Tb g f w) : g < w.heap.size := (Array.getElem?_eq_some_iff.1 h).1
theorem Tb.later {g : Nat} {f : Ft} {w w' : World} (h : Tb g f w) (hb : Below w.heap.size w w') : Tb g f w' := by
  unfold Tb
  rw [hb.block g h.lt]
  exact h
theorem Tb.up {g B : Nat} {f : Ft} {w w' : World} (h : Tb g f w) (hb : Below B w w') (hg : g < B) : Tb g f w' := by
  unfold Tb
  rw [hb.block g hg]
  exact h
theorem Tb.gb {g k : Nat} {f : Ft} {w w' : World} (h : Tb g f w) (hb : Gb k w w') (hk : g ≠ k) : Tb g f w' := by
  unfold Tb
  rw [hb.block g h.lt hk]
  exact h
theorem tb_e {g : Nat} {e a : Int} {w : World} (h : Tb g ⟨e, a⟩ w) : w.cell? ⟨g, 0, none⟩ = some (.int .i64 e) := cell_of_row w g 0 _ _ _ h
theorem tb_a {g : Nat} {e a : Int} {w : World} (h : Tb g ⟨e, a⟩ w) : w.cell? ⟨g, 1, none⟩ = some (.int .i64 a) := cell_of_row w g 1 _ _ _ h
theorem Tb.run {g : Nat} {f : Ft} {w : World} (h : Tb g f w) : (loadVar 26 ⟨g, 0, none⟩).run Tryz.prog w = .ok (.agg (ftC f)) w := run_loadVar_row w g _ _ _ _ _ h Tryz.underlying26 rfl (ftc_info f)
theorem wpList_alT {ops : Array Oper} {rest : List Oper} {o : Oper} {a : Act} {w : World} {Q : Exit → Act → World → Prop} (hgd : o.guard = none) (ho : o.op = .alloc 26)
    (h : ∀ w1, Tb w.heap.size ⟨0, 0⟩ w1 → Below w.heap.size w w1 → w1.heap.size = w.heap.size + 1 → wpList Tryz.prog ops Q rest (a.put o.dst (.pointer (some ⟨w.heap.size, 0, none⟩))) w1) : wpList Tryz.prog ops Q (o :: rest) a w :=
  wpList_alN hgd _ ho ft0 Tryz.zeroValue26 h
theorem wpList_stT {ops : Array Oper} {rest : List Oper} {o : Oper} {a : Act} {w : World} {Q : Exit → Act → World → Prop} (hgd : o.guard = none) (x y : Operand) (ho : o.op = .store 26 x y)
    (g : Nat) (f f0 : Ft) (hx : a.eval x = .pointer (some ⟨g, 0, none⟩)) (hy : a.eval y = .agg (ftC f)) (hg : Tb g f0 w)
    (h : ∀ w1, Tb g f w1 → Gb g w w1 → w1.heap.size = w.heap.size → wpList Tryz.prog ops Q rest (a.put o.dst undef) w1) : wpList Tryz.prog ops Q (o :: rest) a w :=
  wpList_stG hgd _ x y ho g (ftC f) (ftC f0) hx hy hg (ftc_info f) rfl (ftc_one f) h

theorem alF_nil (m i : Nat) (ws : List Wd) : alF m [] i ws = (ws, ⟨0, 0⟩) := by
  cases m with
  | zero => rfl
  | succ m => simp [alF]
theorem alF_err (m : Nat) (l : Bl) (i : Nat) (ws : List Wd) (hl : l ≠ []) (h : (nxF l).e ≠ 0) : alF (m + 1) l i ws = ([], ⟨(nxF l).e, i⟩) := by
  simp only [alF, if_neg hl, if_pos h]
theorem alF_step (m : Nat) (l : Bl) (i : Nat) (ws : List Wd) (hl : l ≠ []) (h : (nxF l).e = 0) : alF (m + 1) l i ws = alF m (l.drop (nxF l).n) (i + (nxF l).n) (if (nxF l).k = 0 then ws else ws ++ [⟨(nxF l).k, (nxF l).tx, i⟩]) := by
  simp only [alF, if_neg hl, h]
  simp
theorem wd_new {B g : Nat} {w1 w2 w3 : World} {ao : Option Addr} {n c : Nat} {l : List Wd} (h : WdMine B w1 ao n c l) (b : Below w1.heap.size w1 w2) (k : Gb g w2 w3) (hg : w1.heap.size ≤ g) : WdMine B w3 ao n c l :=
  h.keep fun q hq => by
    have := (h.ob hq).2
    rw [k.block q (Nat.lt_of_lt_of_le this b.size) (by omega), b.block q this]
theorem gb_set (w : World) (g j : Nat) (v : Value) : Gb g w (w.setCell ⟨g, j, none⟩ v) := ⟨rfl, rfl, rfl, by simp, fun k _ hk => heap_setCell_other _ _ _ _ hk⟩
theorem atW_set {w : World} {g : Nat} {k i : Int} {tx : ByteArray} {n : Nat} {e : Int} (h : Fb g ⟨k, tx, n, e⟩ w) : AtW (w.setCell ⟨g, 2, none⟩ (.int .i64 i)) g 0 ⟨k, tx, i⟩ ∧ (w.setCell ⟨g, 2, none⟩ (.int .i64 i)).cell? ⟨g, 3, none⟩ = some (.int .i64 (n : Int)) := by
  have hs := heap_setCell_same w g 2 _ _ (.int .i64 i) h
  refine ⟨fun j hj => ?_, ?_⟩
  · rw [Nat.zero_add, cell_of_row _ g j _ _ _ hs]
    match j, hj with
    | 0, _ | 1, _ | 2, _ => rfl
  · rw [cell_of_row _ g 3 _ _ _ hs]
    rfl
theorem fb_z {g : Nat} {f : Fd} {w : World} (h : Fb g f w) : w.cell? ⟨g, 2, none⟩ = some (.int .i64 0) := h.cell 2
theorem fb_fz {g : Nat} {f : Fd} {w : World} (h : Fb g f w) : w.frozen? ⟨g, 2, none⟩ = false := frozen_of_row w g 2 _ _ h
theorem bl_ne (s : ByteArray) (j : Nat) (h : j < s.size) : (bl s).drop j ≠ [] := by
  intro q
  have := congrArg List.length q
  rw [List.length_drop, bl_len] at this
  simp at this
  omega

theorem wpList_appW2 {ops : Array Oper} {rest : List Oper} {o : Oper} {a : Act} {w : World} {Q : Exit → Act → World → Prop} (hgd : o.guard = none) (s x : Operand)
    (ho : o.op = .call { callee := .builtin .append, args := #[s, x], argTypes := #[23, 23] })
    (B : Nat) (ao : Option Addr) (n c : Nat) (l : List Wd) (hs : a.eval s = .slice ao n c) (hm : WdMine B w ao n c l)
    (q : Nat) (y : Wd) (hx : a.eval x = .slice (some ⟨q, 0, none⟩) 1 1) (hb : AtW w q 0 y) (hbound : n ≤ 100000000) (hB : B ≤ w.heap.size)
    (h : ∀ ao1 c1 w1, WdMine B w1 ao1 (n + 1) c1 (l ++ [y]) → Below B w w1 → (∀ k, k < w.heap.size → ¬ ob ao k → w1.heap[k]? = w.heap[k]?) → wpList Tryz.prog ops Q rest (a.put o.dst (.slice ao1 (n + 1) c1)) w1) :
    wpList Tryz.prog ops Q (o :: rest) a w := by
  obtain ⟨i0, hi, hz0, hz1, hz2⟩ := info_parts infoW
  have hlen := hm.len
  have hnews : ∀ j u, (wdC y).toList[j]? = some u → w.cell? ((⟨q, 0, none⟩ : Addr).add j) = some u := by
    intro j u hu
    have hj : j < 3 := (List.getElem?_eq_some_iff.1 hu).1
    have := hb j hj
    rw [Addr.add_lit, this]
    simpa using hu
  have hone : ∀ u ∈ (wdC y).toList, u.oneCell' = true := fun u hu => (Array.all_eq_true_iff_forall_mem.1 (wdc_one y)) u (by simpa using hu)
  refine wpList_append_own_at w hgd s x 23 ho B 35 i0 (.agg (wdC wd0)) 3 32 Tryz.underlying23 hi hz0 hz1 hz2 rfl (by decide) _ _ _ hs hm.own ⟨q, 0, none⟩ 1 1 (wdC y).toList hx rfl hnews hone (by unfold maxLen; omega) (by omega) hB ?_
  intro v' w' hown hgrow _ hsrc
  rw [← flatW_app] at hown
  have hex : ∃ ao1 c1, v' = .slice ao1 (n + 1) c1 := by
    rcases hown.2 with ⟨hv, h0⟩ | ⟨g, cap, cur, hv, _⟩
    · omega
    · exact ⟨_, _, hv⟩
  obtain ⟨ao1, c1, hv⟩ := hex
  subst hv
  refine h ao1 c1 w' ⟨by simp [hlen], hown⟩ ((Below.refl B w).grown hgrow hB (fun k hk => (hm.own.lt k hk).1)) (fun k hk hno => hgrow.block k hk (fun e => hno ?_))
  cases ao with
  | none => simp [Value.ownBlock] at e
  | some ad =>
    simp [Value.ownBlock] at e
    exact ⟨ad, rfl, e.symm⟩

theorem tb_two {g : Nat} {f : Ft} {w : World} {e a : Int} (h : Tb g f w) : Tb g ⟨e, a⟩ ((w.setCell ⟨g, 0, none⟩ (.int .i64 e)).setCell ⟨g, 1, none⟩ (.int .i64 a)).drew := by
  have h0 := heap_setCell_same w g 0 _ _ (.int .i64 e) h
  exact heap_setCell_same _ g 1 _ _ (.int .i64 a) h0
theorem cell_kk {w5 w9 : World} {o : Obj} {g j : Nat} {v : Value} (hc : w5.cell? ⟨g, j, none⟩ = some v) (hg : g < w5.heap.size) (hk : w9.heap[g]? = (w5.alloc o).heap[g]?) : w9.cell? ⟨g, j, none⟩ = some v := by
  rw [World.cell?_of_block (w := w5) (a := ⟨g, j, none⟩) (hk.trans ((below_alloc w5 o).block g hg))]
  exact hc
def OutL (w : World) (R : List Wd × Ft) (e : Ending) (w' : World) : Prop := ∃ ao n c, e = .returned (.tuple #[.slice ao n c, .agg (ftC R.2)]) ∧ WdMine w.heap.size w' ao n c R.1 ∧ Below w.heap.size w w'
theorem all_end {w0 w : World} {a : Act} (R : List Wd × Ft) (ao : Option Addr) (n c : Nat) (hp : a.tmps.getD 3 undef = .pointer (some ⟨w0.heap.size, 0, none⟩)) (h2 : a.tmps.getD 2 undef = .slice ao n c) (hd : a.defers = []) (hT : Tb w0.heap.size R.2 w) (hM : WdMine w0.heap.size w ao n c R.1) (hb : Below w0.heap.size w0 w) :
    bodyPost Tryz.prog Tryz.f5 (fun e w' => OutL w0 R e w') .ret a w :=
  bodyPost_ret (results_tmp_cell rfl _ _ w0.heap.size _ hp hT.run) hd ⟨ao, n, c, by rw [h2], hM, hb⟩

set_option maxHeartbeats 4000000 in
set_option maxRecDepth 20000 in
theorem all_any (s : ByteArray) (w : World) (hV : Vr w) : Calls Tryz.prog 5 #[.string s] w fun e w' => OutL w (alW (bl s)) e w' := by
  have HV := hide hV
  obtain ⟨R, hR⟩ : ∃ R, R = alW (bl s) := ⟨_, rfl⟩
  rw [← hR]
  unfold alW at hR
  rw [bl_len] at hR
  by_cases hbig : 1048576 < s.size
  · have hb : (1048576 : Int) < (s.size : Int) := by omega
    rw [if_pos hbig] at hR
    subst hR
    clear hbig
    go_enter Tryz.func5, Tryz.ntmps5
    go_wp2_with (first | (with_reducible show wpList Tryz.prog _ _ (Oper.mk _ (Op.alloc 26) _ _ _ none :: _) _ _; refine wpList_alT rfl rfl ?_; intro w1 r1 b1 t1) | (with_reducible show wpList Tryz.prog _ _ (Oper.mk _ (Op.store 26 _ _) _ _ _ none :: _) _ _; refine wpList_stT rfl (.tmp 3) (.tmp 10) rfl w.heap.size ⟨3, -1⟩ ⟨0, 0⟩ (by simp [Act.eval, Act.put]) (by simp [Act.eval, Act.put, ftC]) r1 ?_; intro wy ty gy sy))
    exact all_end ([], ⟨3, -1⟩) .none 0 0 rfl rfl rfl ty (WdMine.nought _ _) (below_gb b1 gy (Nat.le_refl _))
  · have hb : ¬ (1048576 : Int) < (s.size : Int) := by omega
    rw [if_neg hbig] at hR
    have HR := hide hR
    have hs : s.size ≤ 2000000 := by omega
    clear hbig hR
    go_enter Tryz.func5, Tryz.ntmps5
    go_wp2_with (with_reducible show wpList Tryz.prog _ _ (Oper.mk _ (Op.alloc 26) _ _ _ none :: _) _ _; refine wpList_alT rfl rfl ?_; intro w1 r1 b1 t1)
    go_loopw [5, 4] (fun iv lv wr => ∃ (j m : Nat) (ao : Option Addr) (n c : Nat) (ws : List Wd), j ≤ s.size ∧ s.size - j ≤ m ∧ iv = .int .i64 (j : Int) ∧ lv = .slice ao n c ∧ n ≤ j ∧ WdMine (w.heap.size + 1) wr ao n c ws ∧ Tb w.heap.size ⟨0, 0⟩ wr ∧ Below w.heap.size w wr ∧ alF m ((bl s).drop j) j ws = R) (fun iv _ _ => s.size - (intOf iv).toNat)
    case atStart => exact ⟨0, s.size, .none, 0, 0, [], by omega, by omega, rfl, rfl, by omega, WdMine.nought _ _, r1, b1, by rw [List.drop_zero]; exact (unhide HR).symm⟩
    case round =>
      clear HR
      obtain ⟨j, m, ao, n, c, ws, hj, hm, rfl, rfl, hnj, hM, r1, b1, hq⟩ := hrel
      have HQ := hide hq
      have HM := hide hM
      have hle := hM.ss.le
      have hmx := hM.ss.max
      clear hq hM
      by_cases hlt : j < s.size
      · obtain ⟨m, rfl⟩ : ∃ m', m = m' + 1 := ⟨m - 1, by omega⟩
        have hne := bl_ne s j hlt
        have c0 := fun wx (h : Vr wx) => next_any (s.extract j s.size) wx h (by rw [sz_cut]; omega) (by rw [sz_cut]; omega)
        rw [bl_cut] at c0
        have hf := (nxF_fits ((bl s).drop j) (by rw [List.length_drop, bl_len]; omega)).1
        rw [List.length_drop, bl_len] at hf
        have hp := nxF_pos ((bl s).drop j)
        have h1 := alF_err m ((bl s).drop j) j ws hne
        have h2 := alF_step m ((bl s).drop j) j ws hne
        rw [unhide HQ] at h1 h2
        rw [List.drop_drop] at h2
        have H1 := hide h1
        have H2 := hide h2
        clear h1 h2 hne HQ
        generalize nxF ((bl s).drop j) = F at *
        obtain ⟨k, tx, z, E⟩ := F
        simp only at hf hp H1 H2
        have HC0 := hide c0
        clear c0
        by_cases hE : E = 0
        · have hE2 : (E != 0) = false := by simpa using hE
          have hz := hp hE
          by_cases hK : k = 0
          · have hK2 : (k != 0) = false := by simpa using hK
            have H3 := hide (show alF m ((bl s).drop (j + z)) (j + z) ws = R by have := unhide H2 hE; rw [if_pos hK] at this; exact this.symm)
            clear H1 H2 hE hK hp
            go_wp2_with (first | (go_at_call 11; (with_reducible refine (unhide HC0 wr ((unhide HV).later b1)).mono ?_); rintro e w2 ⟨rfl, q2⟩; have r2 := r1.later q2; have b2 := bt b1 q2) | (with_reducible show wpList Tryz.prog _ _ (Oper.mk _ (Op.alloc 43) _ _ _ none :: _) _ _; refine wpList_alF rfl rfl ?_; intro w3 fz q3 t3; have n3 := r2.lt; have r3 := r2.later q3; have b3 := bt b2 q3) | (with_reducible show wpList Tryz.prog _ _ (Oper.mk _ (Op.store 43 _ _) _ _ _ none :: _) _ _; refine wpList_stF rfl (.tmp 6) (.tmp 18) rfl _ ⟨k, tx, z, E⟩ nil0 (by simp [Act.eval, Act.put]) (by simp [Act.eval, Act.put]) fz ?_; intro w4 fz g4 t4; have r4 := r3.gb g4 (Nat.ne_of_lt n3); have b4 := below_gb b3 g4 (Nat.le_of_lt n3); have k0 := fb_k fz; have k2 := fb_z fz; have z2 := fb_fz fz; have k3 := fb_n fz; have k4 := fb_e fz))
            go_roundw
            case rel => exact ⟨j + z, m, ao, n, c, ws, by omega, by omega, by go_num, rfl, by omega, wd_new (unhide HM) (bt q2 q3) g4 (q2.size), r4, b4, unhide H3⟩
            case measure => simp [intOf]; omega
          · have hK2 : (k != 0) = true := by simpa using hK
            have H3 := hide (show alF m ((bl s).drop (j + z)) (j + z) (ws ++ [⟨k, tx, j⟩]) = R by have := unhide H2 hE; rw [if_neg hK] at this; exact this.symm)
            clear H1 H2 hE hK hp
            go_wp2_with (first | (go_at_call 11; (with_reducible refine (unhide HC0 wr ((unhide HV).later b1)).mono ?_); rintro e w2 ⟨rfl, q2⟩; have r2 := r1.later q2; have b2 := bt b1 q2) | (with_reducible show wpList Tryz.prog _ _ (Oper.mk _ (Op.alloc 43) _ _ _ none :: _) _ _; refine wpList_alF rfl rfl ?_; intro w3 fz q3 t3; have n3 := r2.lt; have r3 := r2.later q3; have b3 := bt b2 q3) | (with_reducible show wpList Tryz.prog _ _ (Oper.mk _ (Op.store 43 _ _) _ _ _ none :: _) _ _; refine wpList_stF rfl (.tmp 6) (.tmp 18) rfl _ ⟨k, tx, z, E⟩ nil0 (by simp [Act.eval, Act.put]) (by simp [Act.eval, Act.put]) fz ?_; intro w4 fz g4 t4; have r4 := r3.gb g4 (Nat.ne_of_lt n3); have b4 := below_gb b3 g4 (Nat.le_of_lt n3); have k0 := fb_k fz; have k2 := fb_z fz; have z2 := fb_fz fz; have k3 := fb_n fz; have k4 := fb_e fz) | (with_reducible show wpList Tryz.prog _ _ (Oper.mk _ (Op.load 35 _) _ _ _ none :: _) _ _; have aw := atW_set (i := (j : Int)) fz; have g5 := gb_set w4 w2.heap.size 2 (.int .i64 (j : Int)); have s5 : (w4.setCell ⟨w2.heap.size, 2, none⟩ (.int .i64 (j : Int))).heap.size = w4.heap.size := (by simp); generalize w4.setCell ⟨w2.heap.size, 2, none⟩ (.int .i64 (j : Int)) = w5 at *; refine wpList_ldW rfl (.tmp 34) rfl w2.heap.size 0 (by simp [Act.eval, Act.put]) ⟨k, tx, j⟩ aw.1 ?_; simp only [wdC]) | (at_builtin; have M5 := wd_new (unhide HM) (bt q2 q3) (gb_gb g4 g5) q2.size; have oo := fun kk (hk : ob ao kk) => ((unhide HM).ob hk).2; refine wpList_appW2 rfl (.tmp 33) (.tmp 36) rfl (w.heap.size + 1) ao n c ws (by simp [Act.eval, Act.put]) (M5.later (below_alloc w5 _)) (w2.heap.size + 1) ⟨k, tx, j⟩ (by simp [Act.eval, Act.put]) (AtW.of_row (by rw [show w2.heap.size + 1 = w5.heap.size by omega]; exact heap_alloc_new w5 _)) (by omega) (by simp; omega) ?_; intro a9 c9 w9 m9 q9 kk9; have sz2 := q2.size; have hg5 : w2.heap.size < w5.heap.size := (by omega); have hno : ¬ ob ao w2.heap.size := (fun h => absurd (oo _ h) (by omega)); have x3 := cell_kk aw.2 hg5 (kk9 w2.heap.size (Nat.lt_of_lt_of_le hg5 (below_alloc w5 _).size) hno); have b5 := below_gb b4 g5 (Nat.le_of_lt n3); have b6 := bt b5 (below_alloc w5 (.cells #[.int .i64 k, .string tx, .int .i64 (j : Int)] 35)); have b9 := b6.trans (q9.mono (by omega)); have r9 := ((r4.gb g5 (Nat.ne_of_lt n3)).later (below_alloc w5 (.cells #[.int .i64 k, .string tx, .int .i64 (j : Int)] 35))).up q9 (by omega)))
            go_roundw
            case rel => exact ⟨j + z, m, a9, n + 1, c9, ws ++ [⟨k, tx, j⟩], by omega, by omega, by go_num, rfl, by omega, m9, r9, b9, unhide H3⟩
            case measure => simp [intOf]; omega
        · have hE2 : (E != 0) = true := by simpa using hE
          have h3 := unhide H1 hE
          subst h3
          clear H1 H2 hE hp
          go_wp2_with (first | (go_at_call 11; (with_reducible refine (unhide HC0 wr ((unhide HV).later b1)).mono ?_); rintro e w2 ⟨rfl, q2⟩; have r2 := r1.later q2; have b2 := bt b1 q2) | (with_reducible show wpList Tryz.prog _ _ (Oper.mk _ (Op.alloc 43) _ _ _ none :: _) _ _; refine wpList_alF rfl rfl ?_; intro w3 fz q3 t3; have n3 := r2.lt; have r3 := r2.later q3; have b3 := bt b2 q3) | (with_reducible show wpList Tryz.prog _ _ (Oper.mk _ (Op.store 43 _ _) _ _ _ none :: _) _ _; refine wpList_stF rfl (.tmp 6) (.tmp 18) rfl _ ⟨k, tx, z, E⟩ nil0 (by simp [Act.eval, Act.put]) (by simp [Act.eval, Act.put]) fz ?_; intro w4 fz g4 t4; have r4 := r3.gb g4 (Nat.ne_of_lt n3); have b4 := below_gb b3 g4 (Nat.le_of_lt n3); have k0 := fb_k fz; have k2 := fb_z fz; have z2 := fb_fz fz; have k3 := fb_n fz; have k4 := fb_e fz))
          have u0 := tb_e r4
          have u1 := tb_a r4
          have f0 := frozen_of_row w4 w.heap.size 0 _ _ r4
          have f1 := frozen_of_row w4 w.heap.size 1 _ _ r4
          go_region
          go_wp2_with fail
          exact all_end ([], ⟨E, (j : Int)⟩) .none 0 0 rfl rfl rfl (tb_two r4) (WdMine.nought _ _) (((b4.setCell (Nat.le_refl _) _).setCell (Nat.le_refl _) _).drew)
      · have hjs : j = s.size := by omega
        have h3 := unhide HQ
        rw [drop_no s j (by omega), alF_nil] at h3
        subst h3
        go_wp2_with (with_reducible show wpList Tryz.prog _ _ (Oper.mk _ (Op.store 26 _ _) _ _ _ none :: _) _ _; refine wpList_stT rfl (.tmp 3) (.tmp 43) rfl w.heap.size ⟨0, 0⟩ ⟨0, 0⟩ (by simp [Act.eval, Act.put]) (by simp [Act.eval, Act.put, ftC]) r1 ?_; intro wy ty gy sy)
        exact all_end (ws, ⟨0, 0⟩) ao n c rfl rfl rfl ty (((unhide HM).gb (by omega) gy).mono (by omega)) (below_gb b1 gy (Nat.le_refl _))

end Go.Proofs.YtddfbaaghjcbnaaGreatDoor
