/-
  What next of package scan returns for any text that is not empty. Conditions: at most 2,000,000 bytes; the library's variables read as they were laid.
-/
import Derived.Test.YtjbgkgkgpigikaaDoorScUs
import Derived.Test.YtjbgkgkgpigikaaDoorScPl2
namespace Go.Proofs.YtjbgkgkgpigikaaDoor
open Go.RowKit
set_option linter.unusedVariables false
set_option linter.unusedSimpArgs false
theorem en_oddRemark : ∀ args w, (callFunc 13 args).run Tryd.prog w = .ok (.enter 13 args) w := enters_of Tryd.func13 (by kernel_rfl) rfl
theorem en_number : ∀ args w, (callFunc 14 args).run Tryd.prog w = .ok (.enter 14 args) w := enters_of Tryd.func14 (by kernel_rfl) rfl
theorem en_userVar : ∀ args w, (callFunc 18 args).run Tryd.prog w = .ok (.enter 18 args) w := enters_of Tryd.func18 (by kernel_rfl) rfl
theorem en_systemVar : ∀ args w, (callFunc 19 args).run Tryd.prog w = .ok (.enter 19 args) w := enters_of Tryd.func19 (by kernel_rfl) rfl
theorem en_param : ∀ args w, (callFunc 20 args).run Tryd.prog w = .ok (.enter 20 args) w := enters_of Tryd.func20 (by kernel_rfl) rfl
theorem en_sign : ∀ args w, (callFunc 21 args).run Tryd.prog w = .ok (.enter 21 args) w := enters_of Tryd.func21 (by kernel_rfl) rfl
def fns9 : Array Value := #[.func (.func 13) #[] #[], .func (.func 14) #[] #[], .func (.func 15) #[] #[], .func (.func 16) #[] #[], .func (.func 17) #[] #[], .func (.func 18) #[] #[], .func (.func 19) #[] #[], .func (.func 20) #[] #[], .func (.func 21) #[] #[]]
theorem userVar_ok (s : ByteArray) (w : World) (hV : Vr w) (hs : s.size ≤ 2000000) : Calls Tryd.prog 18 #[.string s] w fun e w' => e = .returned (.agg (fdC (usF (bl s)))) ∧ Below w.heap.size w w' := by
  have h := usB_fits ((bl s).drop 1)
  have hl : ((bl s).drop 1).length ≤ s.size := by rw [List.length_drop, bl_len]; omega
  exact userVar_any s w hV hs (Nat.le_trans h.2 (by omega)) (Nat.le_trans h.1 (by omega))
theorem chain9 (s : ByteArray) (w w' : World) (g : Nat) (T : TypeId) (h : w'.heap[g]? = some (.cells fns9 T (0, 0))) (hs : s.size ≤ 2000000) :
    Chain s w' g 0 9 [(13, odF (bl s)), (14, numF (bl s)), (15, naF (bl s)), (16, qnF (bl s)), (17, qtF (bl s)), (18, usF (bl s)), (19, syF (bl s)), (20, paF (bl s)), (21, sgF (bl s))] := by
  have hc := fun j => cell_of_row w' g j _ _ _ h
  refine ⟨rfl, fun i p hp => ?_, fun i p hp => ?_, fun i p hp => ?_⟩
  · rw [Nat.zero_add, hc]
    match i, hp with
    | 0, hp | 1, hp | 2, hp | 3, hp | 4, hp | 5, hp | 6, hp | 7, hp | 8, hp => simp at hp; subst hp; rfl
    | i + 9, hp => simp at hp
  · match i, hp with
    | 0, hp => simp at hp; subst hp; exact en_oddRemark
    | 1, hp => simp at hp; subst hp; exact en_number
    | 2, hp => simp at hp; subst hp; exact en_name
    | 3, hp => simp at hp; subst hp; exact en_quotedName
    | 4, hp => simp at hp; subst hp; exact en_quotedText
    | 5, hp => simp at hp; subst hp; exact en_userVar
    | 6, hp => simp at hp; subst hp; exact en_systemVar
    | 7, hp => simp at hp; subst hp; exact en_param
    | 8, hp => simp at hp; subst hp; exact en_sign
    | i + 9, hp => simp at hp
  · match i, hp with
    | 0, hp => simp at hp; subst hp; exact fun wx hx => oddRemark_any s wx hx hs
    | 1, hp => simp at hp; subst hp; exact fun wx hx => number_any s wx hx hs
    | 2, hp => simp at hp; subst hp; exact fun wx hx => name_any s wx hx hs
    | 3, hp => simp at hp; subst hp; exact fun wx _ => quotedName_any s wx hs
    | 4, hp => simp at hp; subst hp; exact fun wx _ => quotedText_any s wx hs
    | 5, hp => simp at hp; subst hp; exact fun wx hx => userVar_ok s wx hx hs
    | 6, hp => simp at hp; subst hp; exact fun wx hx => systemVar_any s wx hx hs
    | 7, hp => simp at hp; subst hp; exact fun wx _ => param_any s wx
    | 8, hp => simp at hp; subst hp; exact fun wx _ => sign_any s wx hs
    | i + 9, hp => simp at hp
theorem longest9 (s : ByteArray) (w : World) (g : Nat) (hV : Vr w) (hs : s.size ≤ 2000000) (hg : g = w.heap.size) :
    Calls Tryd.prog 12 #[.string s, .slice (some ⟨g, 0, none⟩) 9 9] (w.alloc (.cells fns9 38)) fun e w' => e = .returned (.agg (fdC (chF (bl s)))) ∧ Below w.heap.size w w' :=
  (longest_any s _ g 0 9 9 _ (chain9 s w _ g _ (by rw [hg]; exact heap_alloc_new w _) hs) (hV.later (below_alloc w _)) (by omega) (by omega) (by omega)).mono fun e w' h => ⟨h.1, bt (below_alloc w _) h.2⟩

set_option maxHeartbeats 4000000 in
set_option maxRecDepth 20000 in
theorem next_any (s : ByteArray) (w : World) (hV : Vr w) (hs : s.size ≤ 2000000) (h1 : 1 ≤ s.size) : Calls Tryd.prog 8 #[.string s] w fun e w' => e = .returned (.agg (fdC (nxF (bl s)))) ∧ Below w.heap.size w w' := by
  have HV := hide hV
  have c0 := fun wx (h : Vr wx) => blankOrRemark_any s wx h hs h1
  have c1 := fun wx g (h : Vr wx) (hg : g = wx.heap.size) => longest9 s wx g h hs hg
  unfold nxF
  unfold fns9 at c1
  generalize gaF (bl s) = G at *
  generalize chF (bl s) = H at *
  obtain ⟨gk, gt, gn, ge⟩ := G
  obtain ⟨k, tx, m, E⟩ := H
  have HC0 := hide c0
  have HC1 := hide c1
  clear c0 c1
  simp only
  by_cases hA : 0 < gn
  · have ha : decide ((0 : Int) < (gn : Int)) = true := by simp; omega
    rw [if_pos (.inl hA)]
    go_enter Tryd.func8, Tryd.ntmps8
    go_wp2_with (first | (with_reducible show wpList Tryd.prog _ _ (Oper.mk _ (Op.alloc 37) _ _ _ none :: _) _ _; refine wpList_alF rfl rfl ?_; intro w7 fy q7 t7; have r7 := r6.later q7; have b7 := bt b6 q7; have n6 := r6.lt) | (with_reducible show wpList Tryd.prog _ _ (Oper.mk _ (Op.alloc 37) _ _ _ none :: _) _ _; refine wpList_alF rfl rfl ?_; intro w3 fz q3 t3; have r3 := r2.later q3; have b3 := bt b2 q3; have n2 := r2.lt) | (with_reducible show wpList Tryd.prog _ _ (Oper.mk _ (Op.alloc 37) _ _ _ none :: _) _ _; refine wpList_alF rfl rfl ?_; intro w1 r1 b1 t1) | (go_at_call 11; (with_reducible refine (unhide HC0 w1 ((unhide HV).later b1)).mono ?_); rintro e w2 ⟨rfl, q2⟩; have r2 := r1.later q2; have b2 := bt b1 q2) | (with_reducible show wpList Tryd.prog _ _ (Oper.mk _ (Op.store 37 _ _) _ _ _ none :: _) _ _; refine wpList_stF rfl (.tmp 3) (.tmp 6) rfl _ ⟨gk, gt, gn, ge⟩ nil0 (by simp [Act.eval, Act.put]) (by simp [Act.eval, Act.put]) fz ?_; intro w4 fz g4 t4; have r4 := r3.gb g4 (Nat.ne_of_lt n2); have b4 := below_gb b3 g4 (Nat.le_of_lt n2); have k3 := fb_n fz; have k4 := fb_e fz) | (with_reducible show wpList Tryd.prog _ _ (Oper.mk _ (Op.load 37 _) _ _ _ none :: _) _ _; refine wpList_ldF rfl (.tmp 3) rfl _ ⟨gk, gt, gn, ge⟩ (by simp [Act.eval, Act.put]) fz ?_) | (with_reducible show wpList Tryd.prog _ _ (Oper.mk _ (Op.store 37 _ _) _ _ _ none :: _) _ _; refine wpList_stF rfl (.tmp 2) (.tmp 15) rfl w.heap.size ⟨gk, gt, gn, ge⟩ nil0 (by simp [Act.eval, Act.put]) (by simp [Act.eval, Act.put]) r4 ?_; intro wy ry gy sy) | (go_at_call 12; (with_reducible refine (unhide HC1 w4 _ ((unhide HV).later b4) (by first | rfl | (rw [t4, t3]) | omega)).mono ?_); rintro e w6 ⟨rfl, q6⟩; have r6 := r4.later q6; have b6 := bt b4 q6) | (with_reducible show wpList Tryd.prog _ _ (Oper.mk _ (Op.store 37 _ _) _ _ _ none :: _) _ _; refine wpList_stF rfl (.tmp 4) (.tmp 18) rfl _ ⟨k, tx, m, E⟩ nil0 (by simp [Act.eval, Act.put]) (by simp [Act.eval, Act.put]) fy ?_; intro w8 fy g8 t8; have r8 := r7.gb g8 (Nat.ne_of_lt n6); have b8 := below_gb b7 g8 (Nat.le_of_lt n6); have l3 := fb_n fy; have l4 := fb_e fy) | (with_reducible show wpList Tryd.prog _ _ (Oper.mk _ (Op.store 37 _ _) _ _ _ none :: _) _ _; refine wpList_stF rfl (.tmp 2) (.tmp 27) rfl w.heap.size (er 191) nil0 (by simp [Act.eval, Act.put]) (by simp [Act.eval, Act.put, fdC, er, ba]) r8 ?_; intro wy ry gy sy) | (with_reducible show wpList Tryd.prog _ _ (Oper.mk _ (Op.load 37 _) _ _ _ none :: _) _ _; refine wpList_ldF rfl (.tmp 4) rfl _ ⟨k, tx, m, E⟩ (by simp [Act.eval, Act.put]) fy ?_) | (with_reducible show wpList Tryd.prog _ _ (Oper.mk _ (Op.store 37 _ _) _ _ _ none :: _) _ _; refine wpList_stF rfl (.tmp 2) (.tmp 28) rfl w.heap.size ⟨k, tx, m, E⟩ nil0 (by simp [Act.eval, Act.put]) (by simp [Act.eval, Act.put]) r8 ?_; intro wy ry gy sy))
    exact fd_end rfl w.heap.size _ _ rfl rfl ry rfl (below_gb b4 gy (Nat.le_refl _))
  · have ha : decide ((0 : Int) < (gn : Int)) = false := by simp; omega
    by_cases hB : ge = 0
    · have hb : (ge != 0) = false := by simpa using hB
      rw [if_neg (fun h => by rcases h with h | h; exact hA h; exact h hB)]
      clear hB
      by_cases hM : m = 0
      · have hm : ((m : Int) == 0) = true := by simp [hM]
        by_cases hE : E = 0
        · have he : (E == 0) = true := by simpa using hE
          rw [if_pos ⟨hM, hE⟩]
          clear hE hM
          go_enter Tryd.func8, Tryd.ntmps8
          go_wp2_with (first | (with_reducible show wpList Tryd.prog _ _ (Oper.mk _ (Op.alloc 37) _ _ _ none :: _) _ _; refine wpList_alF rfl rfl ?_; intro w7 fy q7 t7; have r7 := r6.later q7; have b7 := bt b6 q7; have n6 := r6.lt) | (with_reducible show wpList Tryd.prog _ _ (Oper.mk _ (Op.alloc 37) _ _ _ none :: _) _ _; refine wpList_alF rfl rfl ?_; intro w3 fz q3 t3; have r3 := r2.later q3; have b3 := bt b2 q3; have n2 := r2.lt) | (with_reducible show wpList Tryd.prog _ _ (Oper.mk _ (Op.alloc 37) _ _ _ none :: _) _ _; refine wpList_alF rfl rfl ?_; intro w1 r1 b1 t1) | (go_at_call 11; (with_reducible refine (unhide HC0 w1 ((unhide HV).later b1)).mono ?_); rintro e w2 ⟨rfl, q2⟩; have r2 := r1.later q2; have b2 := bt b1 q2) | (with_reducible show wpList Tryd.prog _ _ (Oper.mk _ (Op.store 37 _ _) _ _ _ none :: _) _ _; refine wpList_stF rfl (.tmp 3) (.tmp 6) rfl _ ⟨gk, gt, gn, ge⟩ nil0 (by simp [Act.eval, Act.put]) (by simp [Act.eval, Act.put]) fz ?_; intro w4 fz g4 t4; have r4 := r3.gb g4 (Nat.ne_of_lt n2); have b4 := below_gb b3 g4 (Nat.le_of_lt n2); have k3 := fb_n fz; have k4 := fb_e fz) | (with_reducible show wpList Tryd.prog _ _ (Oper.mk _ (Op.load 37 _) _ _ _ none :: _) _ _; refine wpList_ldF rfl (.tmp 3) rfl _ ⟨gk, gt, gn, ge⟩ (by simp [Act.eval, Act.put]) fz ?_) | (with_reducible show wpList Tryd.prog _ _ (Oper.mk _ (Op.store 37 _ _) _ _ _ none :: _) _ _; refine wpList_stF rfl (.tmp 2) (.tmp 15) rfl w.heap.size ⟨gk, gt, gn, ge⟩ nil0 (by simp [Act.eval, Act.put]) (by simp [Act.eval, Act.put]) r4 ?_; intro wy ry gy sy) | (go_at_call 12; (with_reducible refine (unhide HC1 w4 _ ((unhide HV).later b4) (by first | rfl | (rw [t4, t3]) | omega)).mono ?_); rintro e w6 ⟨rfl, q6⟩; have r6 := r4.later q6; have b6 := bt b4 q6) | (with_reducible show wpList Tryd.prog _ _ (Oper.mk _ (Op.store 37 _ _) _ _ _ none :: _) _ _; refine wpList_stF rfl (.tmp 4) (.tmp 18) rfl _ ⟨k, tx, m, E⟩ nil0 (by simp [Act.eval, Act.put]) (by simp [Act.eval, Act.put]) fy ?_; intro w8 fy g8 t8; have r8 := r7.gb g8 (Nat.ne_of_lt n6); have b8 := below_gb b7 g8 (Nat.le_of_lt n6); have l3 := fb_n fy; have l4 := fb_e fy) | (with_reducible show wpList Tryd.prog _ _ (Oper.mk _ (Op.store 37 _ _) _ _ _ none :: _) _ _; refine wpList_stF rfl (.tmp 2) (.tmp 27) rfl w.heap.size (er 191) nil0 (by simp [Act.eval, Act.put]) (by simp [Act.eval, Act.put, fdC, er, ba]) r8 ?_; intro wy ry gy sy) | (with_reducible show wpList Tryd.prog _ _ (Oper.mk _ (Op.load 37 _) _ _ _ none :: _) _ _; refine wpList_ldF rfl (.tmp 4) rfl _ ⟨k, tx, m, E⟩ (by simp [Act.eval, Act.put]) fy ?_) | (with_reducible show wpList Tryd.prog _ _ (Oper.mk _ (Op.store 37 _ _) _ _ _ none :: _) _ _; refine wpList_stF rfl (.tmp 2) (.tmp 28) rfl w.heap.size ⟨k, tx, m, E⟩ nil0 (by simp [Act.eval, Act.put]) (by simp [Act.eval, Act.put]) r8 ?_; intro wy ry gy sy))
          exact fd_end rfl w.heap.size _ _ rfl rfl ry rfl (below_gb b8 gy (Nat.le_refl _))
        · have he : (E == 0) = false := by simpa using hE
          rw [if_neg (fun h => hE h.2)]
          clear hE hM
          go_enter Tryd.func8, Tryd.ntmps8
          go_wp2_with (first | (with_reducible show wpList Tryd.prog _ _ (Oper.mk _ (Op.alloc 37) _ _ _ none :: _) _ _; refine wpList_alF rfl rfl ?_; intro w7 fy q7 t7; have r7 := r6.later q7; have b7 := bt b6 q7; have n6 := r6.lt) | (with_reducible show wpList Tryd.prog _ _ (Oper.mk _ (Op.alloc 37) _ _ _ none :: _) _ _; refine wpList_alF rfl rfl ?_; intro w3 fz q3 t3; have r3 := r2.later q3; have b3 := bt b2 q3; have n2 := r2.lt) | (with_reducible show wpList Tryd.prog _ _ (Oper.mk _ (Op.alloc 37) _ _ _ none :: _) _ _; refine wpList_alF rfl rfl ?_; intro w1 r1 b1 t1) | (go_at_call 11; (with_reducible refine (unhide HC0 w1 ((unhide HV).later b1)).mono ?_); rintro e w2 ⟨rfl, q2⟩; have r2 := r1.later q2; have b2 := bt b1 q2) | (with_reducible show wpList Tryd.prog _ _ (Oper.mk _ (Op.store 37 _ _) _ _ _ none :: _) _ _; refine wpList_stF rfl (.tmp 3) (.tmp 6) rfl _ ⟨gk, gt, gn, ge⟩ nil0 (by simp [Act.eval, Act.put]) (by simp [Act.eval, Act.put]) fz ?_; intro w4 fz g4 t4; have r4 := r3.gb g4 (Nat.ne_of_lt n2); have b4 := below_gb b3 g4 (Nat.le_of_lt n2); have k3 := fb_n fz; have k4 := fb_e fz) | (with_reducible show wpList Tryd.prog _ _ (Oper.mk _ (Op.load 37 _) _ _ _ none :: _) _ _; refine wpList_ldF rfl (.tmp 3) rfl _ ⟨gk, gt, gn, ge⟩ (by simp [Act.eval, Act.put]) fz ?_) | (with_reducible show wpList Tryd.prog _ _ (Oper.mk _ (Op.store 37 _ _) _ _ _ none :: _) _ _; refine wpList_stF rfl (.tmp 2) (.tmp 15) rfl w.heap.size ⟨gk, gt, gn, ge⟩ nil0 (by simp [Act.eval, Act.put]) (by simp [Act.eval, Act.put]) r4 ?_; intro wy ry gy sy) | (go_at_call 12; (with_reducible refine (unhide HC1 w4 _ ((unhide HV).later b4) (by first | rfl | (rw [t4, t3]) | omega)).mono ?_); rintro e w6 ⟨rfl, q6⟩; have r6 := r4.later q6; have b6 := bt b4 q6) | (with_reducible show wpList Tryd.prog _ _ (Oper.mk _ (Op.store 37 _ _) _ _ _ none :: _) _ _; refine wpList_stF rfl (.tmp 4) (.tmp 18) rfl _ ⟨k, tx, m, E⟩ nil0 (by simp [Act.eval, Act.put]) (by simp [Act.eval, Act.put]) fy ?_; intro w8 fy g8 t8; have r8 := r7.gb g8 (Nat.ne_of_lt n6); have b8 := below_gb b7 g8 (Nat.le_of_lt n6); have l3 := fb_n fy; have l4 := fb_e fy) | (with_reducible show wpList Tryd.prog _ _ (Oper.mk _ (Op.store 37 _ _) _ _ _ none :: _) _ _; refine wpList_stF rfl (.tmp 2) (.tmp 27) rfl w.heap.size (er 191) nil0 (by simp [Act.eval, Act.put]) (by simp [Act.eval, Act.put, fdC, er, ba]) r8 ?_; intro wy ry gy sy) | (with_reducible show wpList Tryd.prog _ _ (Oper.mk _ (Op.load 37 _) _ _ _ none :: _) _ _; refine wpList_ldF rfl (.tmp 4) rfl _ ⟨k, tx, m, E⟩ (by simp [Act.eval, Act.put]) fy ?_) | (with_reducible show wpList Tryd.prog _ _ (Oper.mk _ (Op.store 37 _ _) _ _ _ none :: _) _ _; refine wpList_stF rfl (.tmp 2) (.tmp 28) rfl w.heap.size ⟨k, tx, m, E⟩ nil0 (by simp [Act.eval, Act.put]) (by simp [Act.eval, Act.put]) r8 ?_; intro wy ry gy sy))
          exact fd_end rfl w.heap.size _ _ rfl rfl ry rfl (below_gb b8 gy (Nat.le_refl _))
      · have hm : ((m : Int) == 0) = false := by rw [beq_eq_false_iff_ne]; omega
        rw [if_neg (fun h => hM h.1)]
        clear hM
        go_enter Tryd.func8, Tryd.ntmps8
        go_wp2_with (first | (with_reducible show wpList Tryd.prog _ _ (Oper.mk _ (Op.alloc 37) _ _ _ none :: _) _ _; refine wpList_alF rfl rfl ?_; intro w7 fy q7 t7; have r7 := r6.later q7; have b7 := bt b6 q7; have n6 := r6.lt) | (with_reducible show wpList Tryd.prog _ _ (Oper.mk _ (Op.alloc 37) _ _ _ none :: _) _ _; refine wpList_alF rfl rfl ?_; intro w3 fz q3 t3; have r3 := r2.later q3; have b3 := bt b2 q3; have n2 := r2.lt) | (with_reducible show wpList Tryd.prog _ _ (Oper.mk _ (Op.alloc 37) _ _ _ none :: _) _ _; refine wpList_alF rfl rfl ?_; intro w1 r1 b1 t1) | (go_at_call 11; (with_reducible refine (unhide HC0 w1 ((unhide HV).later b1)).mono ?_); rintro e w2 ⟨rfl, q2⟩; have r2 := r1.later q2; have b2 := bt b1 q2) | (with_reducible show wpList Tryd.prog _ _ (Oper.mk _ (Op.store 37 _ _) _ _ _ none :: _) _ _; refine wpList_stF rfl (.tmp 3) (.tmp 6) rfl _ ⟨gk, gt, gn, ge⟩ nil0 (by simp [Act.eval, Act.put]) (by simp [Act.eval, Act.put]) fz ?_; intro w4 fz g4 t4; have r4 := r3.gb g4 (Nat.ne_of_lt n2); have b4 := below_gb b3 g4 (Nat.le_of_lt n2); have k3 := fb_n fz; have k4 := fb_e fz) | (with_reducible show wpList Tryd.prog _ _ (Oper.mk _ (Op.load 37 _) _ _ _ none :: _) _ _; refine wpList_ldF rfl (.tmp 3) rfl _ ⟨gk, gt, gn, ge⟩ (by simp [Act.eval, Act.put]) fz ?_) | (with_reducible show wpList Tryd.prog _ _ (Oper.mk _ (Op.store 37 _ _) _ _ _ none :: _) _ _; refine wpList_stF rfl (.tmp 2) (.tmp 15) rfl w.heap.size ⟨gk, gt, gn, ge⟩ nil0 (by simp [Act.eval, Act.put]) (by simp [Act.eval, Act.put]) r4 ?_; intro wy ry gy sy) | (go_at_call 12; (with_reducible refine (unhide HC1 w4 _ ((unhide HV).later b4) (by first | rfl | (rw [t4, t3]) | omega)).mono ?_); rintro e w6 ⟨rfl, q6⟩; have r6 := r4.later q6; have b6 := bt b4 q6) | (with_reducible show wpList Tryd.prog _ _ (Oper.mk _ (Op.store 37 _ _) _ _ _ none :: _) _ _; refine wpList_stF rfl (.tmp 4) (.tmp 18) rfl _ ⟨k, tx, m, E⟩ nil0 (by simp [Act.eval, Act.put]) (by simp [Act.eval, Act.put]) fy ?_; intro w8 fy g8 t8; have r8 := r7.gb g8 (Nat.ne_of_lt n6); have b8 := below_gb b7 g8 (Nat.le_of_lt n6); have l3 := fb_n fy; have l4 := fb_e fy) | (with_reducible show wpList Tryd.prog _ _ (Oper.mk _ (Op.store 37 _ _) _ _ _ none :: _) _ _; refine wpList_stF rfl (.tmp 2) (.tmp 27) rfl w.heap.size (er 191) nil0 (by simp [Act.eval, Act.put]) (by simp [Act.eval, Act.put, fdC, er, ba]) r8 ?_; intro wy ry gy sy) | (with_reducible show wpList Tryd.prog _ _ (Oper.mk _ (Op.load 37 _) _ _ _ none :: _) _ _; refine wpList_ldF rfl (.tmp 4) rfl _ ⟨k, tx, m, E⟩ (by simp [Act.eval, Act.put]) fy ?_) | (with_reducible show wpList Tryd.prog _ _ (Oper.mk _ (Op.store 37 _ _) _ _ _ none :: _) _ _; refine wpList_stF rfl (.tmp 2) (.tmp 28) rfl w.heap.size ⟨k, tx, m, E⟩ nil0 (by simp [Act.eval, Act.put]) (by simp [Act.eval, Act.put]) r8 ?_; intro wy ry gy sy))
        exact fd_end rfl w.heap.size _ _ rfl rfl ry rfl (below_gb b8 gy (Nat.le_refl _))
    · have hb : (ge != 0) = true := by simpa using hB
      rw [if_pos (.inr hB)]
      clear hB
      go_enter Tryd.func8, Tryd.ntmps8
      go_wp2_with (first | (with_reducible show wpList Tryd.prog _ _ (Oper.mk _ (Op.alloc 37) _ _ _ none :: _) _ _; refine wpList_alF rfl rfl ?_; intro w7 fy q7 t7; have r7 := r6.later q7; have b7 := bt b6 q7; have n6 := r6.lt) | (with_reducible show wpList Tryd.prog _ _ (Oper.mk _ (Op.alloc 37) _ _ _ none :: _) _ _; refine wpList_alF rfl rfl ?_; intro w3 fz q3 t3; have r3 := r2.later q3; have b3 := bt b2 q3; have n2 := r2.lt) | (with_reducible show wpList Tryd.prog _ _ (Oper.mk _ (Op.alloc 37) _ _ _ none :: _) _ _; refine wpList_alF rfl rfl ?_; intro w1 r1 b1 t1) | (go_at_call 11; (with_reducible refine (unhide HC0 w1 ((unhide HV).later b1)).mono ?_); rintro e w2 ⟨rfl, q2⟩; have r2 := r1.later q2; have b2 := bt b1 q2) | (with_reducible show wpList Tryd.prog _ _ (Oper.mk _ (Op.store 37 _ _) _ _ _ none :: _) _ _; refine wpList_stF rfl (.tmp 3) (.tmp 6) rfl _ ⟨gk, gt, gn, ge⟩ nil0 (by simp [Act.eval, Act.put]) (by simp [Act.eval, Act.put]) fz ?_; intro w4 fz g4 t4; have r4 := r3.gb g4 (Nat.ne_of_lt n2); have b4 := below_gb b3 g4 (Nat.le_of_lt n2); have k3 := fb_n fz; have k4 := fb_e fz) | (with_reducible show wpList Tryd.prog _ _ (Oper.mk _ (Op.load 37 _) _ _ _ none :: _) _ _; refine wpList_ldF rfl (.tmp 3) rfl _ ⟨gk, gt, gn, ge⟩ (by simp [Act.eval, Act.put]) fz ?_) | (with_reducible show wpList Tryd.prog _ _ (Oper.mk _ (Op.store 37 _ _) _ _ _ none :: _) _ _; refine wpList_stF rfl (.tmp 2) (.tmp 15) rfl w.heap.size ⟨gk, gt, gn, ge⟩ nil0 (by simp [Act.eval, Act.put]) (by simp [Act.eval, Act.put]) r4 ?_; intro wy ry gy sy) | (go_at_call 12; (with_reducible refine (unhide HC1 w4 _ ((unhide HV).later b4) (by first | rfl | (rw [t4, t3]) | omega)).mono ?_); rintro e w6 ⟨rfl, q6⟩; have r6 := r4.later q6; have b6 := bt b4 q6) | (with_reducible show wpList Tryd.prog _ _ (Oper.mk _ (Op.store 37 _ _) _ _ _ none :: _) _ _; refine wpList_stF rfl (.tmp 4) (.tmp 18) rfl _ ⟨k, tx, m, E⟩ nil0 (by simp [Act.eval, Act.put]) (by simp [Act.eval, Act.put]) fy ?_; intro w8 fy g8 t8; have r8 := r7.gb g8 (Nat.ne_of_lt n6); have b8 := below_gb b7 g8 (Nat.le_of_lt n6); have l3 := fb_n fy; have l4 := fb_e fy) | (with_reducible show wpList Tryd.prog _ _ (Oper.mk _ (Op.store 37 _ _) _ _ _ none :: _) _ _; refine wpList_stF rfl (.tmp 2) (.tmp 27) rfl w.heap.size (er 191) nil0 (by simp [Act.eval, Act.put]) (by simp [Act.eval, Act.put, fdC, er, ba]) r8 ?_; intro wy ry gy sy) | (with_reducible show wpList Tryd.prog _ _ (Oper.mk _ (Op.load 37 _) _ _ _ none :: _) _ _; refine wpList_ldF rfl (.tmp 4) rfl _ ⟨k, tx, m, E⟩ (by simp [Act.eval, Act.put]) fy ?_) | (with_reducible show wpList Tryd.prog _ _ (Oper.mk _ (Op.store 37 _ _) _ _ _ none :: _) _ _; refine wpList_stF rfl (.tmp 2) (.tmp 28) rfl w.heap.size ⟨k, tx, m, E⟩ nil0 (by simp [Act.eval, Act.put]) (by simp [Act.eval, Act.put]) r8 ?_; intro wy ry gy sy))
      exact fd_end rfl w.heap.size _ _ rfl rfl ry rfl (below_gb b4 gy (Nat.le_refl _))

end Go.Proofs.YtjbgkgkgpigikaaDoor
