/-
  ClassifyEach of layer 20, for the walk: it returns true for any two texts. Conditions: both texts fit in memory; the library's variables read as they were laid.
-/
import Derived.Test.YtcfofifdnbmlbaaGreatDoorMTop
import Derived.Test.YtcfofifdnbmlbaaGreatDoorMLoc
namespace Go.Proofs.YtcfofifdnbmlbaaGreatDoor
open Go.RowKit
set_option linter.unusedVariables false
set_option linter.unusedSimpArgs false

theorem eb_app (a b : ByteArray) : bl (a ++ b) = bl a ++ bl b := by
  unfold bl
  rw [ByteArray.data_append, Array.toList_append]
theorem ewsF_few : ∀ (m : Nat) (l : Bl) (i : Nat), (wsF m l i).1.length ≤ m
  | 0, l, i => by simp [wsF]
  | m + 1, l, i => by
    have ih := ewsF_few m (l.drop (nxF l).n) (i + (nxF l).n)
    simp only [wsF]
    split
    · simp
    · split
      · simp
      · split
        · split
          · simp only [List.nil_append]; omega
          · simp only [List.cons_append, List.nil_append, List.length_cons]; omega
        · simp
theorem ealW_cnt (l : Bl) (h : l.length ≤ 1048576) : (alW l).1.length ≤ l.length := by
  have := ewsF_few l.length l 0
  rw [alW_ws l h]
  split
  · exact this
  · simp
theorem stmF_len : ∀ (l acc : List Wd), (stmF l acc).length ≤ l.length + 1
  | [], acc => by
    unfold stmF
    split <;> simp
  | w :: r, acc => by
    have h1 := stmF_len r []
    have h2 := stmF_len r (acc ++ [w])
    unfold stmF
    split
    · split <;> simp <;> omega
    · simp; omega
theorem ofF_cnt (s : Bl) (h : s.length ≤ 1048576) : (ofF s).1.length ≤ s.length + 1 := by
  have h1 := ealW_cnt s h
  unfold ofF
  split
  · have h2 := stmF_len (alW s).1 []
    simp only [ofW, List.length_map]
    omega
  · simp
theorem tb_0 {g : Nat} {e p : Int} {w : World} (h : Tb g ⟨e, p⟩ w) : w.cell? ⟨g, 0, none⟩ = some (.int .i64 e) := cell_of_row _ _ 0 _ _ _ h
theorem tb_1 {g : Nat} {e p : Int} {w : World} (h : Tb g ⟨e, p⟩ w) : w.cell? ⟨g, 1, none⟩ = some (.int .i64 p) := cell_of_row _ _ 1 _ _ _ h
/-- Does a text end with two signs -? -/
theorem dash_suf {s : ByteArray} (h2 : 2 ≤ s.size) (h : ((s.extract (s.size - 2) s.size).toList == [45, 45]) = false) : ¬ ([45, 45] : Bl) <:+ bl s := by
  rintro ⟨t, ht⟩
  have e : bl (s.extract (s.size - 2) s.size) = (bl s).drop (s.size - 2) := Lib.extract_to_end s (s.size - 2)
  have hl : t.length = s.size - 2 := by
    have := congrArg List.length ht
    rw [bl_len] at this
    simp at this
    omega
  have e2 : bl (s.extract (s.size - 2) s.size) = [45, 45] := by
    rw [e, ← ht, ← hl, List.drop_left]
  have e3 : s.extract (s.size - 2) s.size = (⟨#[45, 45]⟩ : ByteArray) := by
    have : ba (bl (s.extract (s.size - 2) s.size)) = ba [45, 45] := by rw [e2]
    rwa [ba_bl] at this
  rw [e3, show (⟨#[45, 45]⟩ : ByteArray).toList = [45, 45] by decide +kernel] at h
  cases h
theorem dash_few {s : ByteArray} (h2 : ¬ 2 ≤ s.size) : ¬ ([45, 45] : Bl) <:+ bl s := by
  rintro ⟨t, ht⟩
  have := congrArg List.length ht
  rw [bl_len] at this
  simp at this
  omega

set_option maxHeartbeats 8000000 in
set_option maxRecDepth 20000 in
theorem lawKlEach (a b : ByteArray) (w : World) (hV : Vr w) (hsa : a.size ≤ 9223372036854775807) (hsb : b.size ≤ 9223372036854775807) :
    Calls Tryz.prog 3 #[.string a, .string b] w (OutB w true) := by
  have HV := hide hV
  have L7 := hide (lives_any w hV)
  clear hV
  by_cases hbig : 2000 < a.size
  · have hb : (2000 : Int) < (a.size : Int) := by omega
    clear hbig
    go_enter Tryz.func3, Tryz.ntmps3
    go_wp2_with (go_at_call 4; refine (unhide L7).mono ?_; rintro e w1 ⟨rfl, b1⟩)
    go_ret
    exact ⟨rfl, b1⟩
  by_cases hbig2 : 2000 < b.size
  · have hb : (2000 : Int) < (b.size : Int) := by omega
    have ha : ¬ (2000 : Int) < (a.size : Int) := by omega
    clear hbig hbig2
    go_enter Tryz.func3, Tryz.ntmps3
    go_wp2_with (go_at_call 4; refine (unhide L7).mono ?_; rintro e w1 ⟨rfl, b1⟩)
    go_ret
    exact ⟨rfl, b1⟩
  have ha : ¬ (2000 : Int) < (a.size : Int) := by omega
  have hb : ¬ (2000 : Int) < (b.size : Int) := by omega
  have HA := hide (fun wx (h : Vr wx) => of_any a wx h)
  have HB := hide (fun wx (h : Vr wx) => of_any b wx h)
  have NA := ofF_cnt (bl a) (by rw [bl_len]; omega)
  have NB := ofF_cnt (bl b) (by rw [bl_len]; omega)
  have TW := @ofF_two (bl a) (bl b)
  have EB := hide (show bl (a ++ ⟨#[10, 59]⟩ ++ b) = bl a ++ 10 :: 59 :: bl b by
    rw [eb_app, eb_app, List.append_assoc]
    rfl)
  have IS := hide (fun bo m d ys wx (h : Vr wx) (hy : Kcs wx bo m d ys) => is_any (a ++ ⟨#[10, 59]⟩ ++ b) bo m d ys wx h hy)
  rw [unhide EB] at IS
  rw [bl_len] at NA NB TW
  rw [bl_len] at TW
  obtain ⟨⟨La, fa⟩, hFa⟩ : ∃ F, F = ofF (bl a) := ⟨_, rfl⟩
  obtain ⟨⟨Lb, fb⟩, hFb⟩ : ∃ F, F = ofF (bl b) := ⟨_, rfl⟩
  rw [← hFa] at HA NA TW
  rw [← hFb] at HB NB TW
  have nea := ne_ft fa
  obtain ⟨eb, pb⟩ := fb
  have neb := ne_ft ⟨eb, pb⟩
  unfold ftC at neb
  simp only at neb
  simp only at NA NB TW
  have k1 : ¬ 9223372036854775807 < a.size + (⟨#[10, 59]⟩ : ByteArray).size := by have : (⟨#[10, 59]⟩ : ByteArray).size = 2 := rfl; omega
  have k2 : ¬ 9223372036854775807 < a.size + 2 := by omega
  have ks : (a ++ ⟨#[10, 59]⟩).size = a.size + 2 := by rw [ByteArray.size_append]; rfl
  have k3 : ¬ 9223372036854775807 < (a ++ ⟨#[10, 59]⟩).size + b.size := by omega
  have k4 : ¬ 9223372036854775807 < a.size + 2 + b.size := by omega
  have HNA := hide (show La.length ≤ 2001 by omega)
  have HNB := hide (show Lb.length ≤ 2001 by omega)
  clear hFa hFb hbig hbig2 NA NB EB
  by_cases h2 : 2 ≤ a.size
  · have g2 : (2 : Int) ≤ (a.size : Int) := by omega
    have DS := hide (@dash_suf a h2)
    have s2 : (a.size : Int) - 2 = ((a.size - 2 : Nat) : Int) := by omega
    by_cases hfa : fa = ok0
    · by_cases hfb : (⟨eb, pb⟩ : Ft) = ok0
      · rw [decide_eq_true hfa, Bool.not_true] at nea
        rw [decide_eq_true hfb, Bool.not_true] at neb
        by_cases hD : ((a.extract (a.size - 2) a.size).toList == [45, 45]) = true
        · clear hfa hfb TW DS
          go_enter Tryz.func3, Tryz.ntmps3
          go_wp2_with (first | (go_at_call 4; refine (unhide L7).mono ?_; rintro e w1 ⟨rfl, b1⟩) | (go_at_call 5; (with_reducible refine (unhide HA w1 ((unhide HV).later b1)).mono ?_); rintro e w2 ⟨ao, n, c, rfl, m2, q2⟩; have b2 := belT b1 q2) | (with_reducible show wpList Tryz.prog _ _ (Oper.mk _ (Op.alloc 26) _ _ _ none :: _) _ _; refine wpList_alT rfl rfl ?_; intro w3 f3 q3 t3; have m3 := m2.later q3; have b3 := belT b2 q3) | (with_reducible show wpList Tryz.prog _ _ (Oper.mk _ (Op.store 26 _ _) _ _ _ none :: _) _ _; refine wpList_stT rfl (.tmp 6) _ rfl w2.heap.size fa ⟨0, 0⟩ (by simp [Act.eval, Act.put]) (by simp [Act.eval, Act.put]) f3 ?_; intro w4 f4 g4 t4; have m4 := m3.keep (fun k hk => g4.block k (m3.ob hk).2 (Nat.ne_of_lt (m2.ob hk).2)); have b4 := belowG b3 g4 b2.size b3.size) | (go_at_call 5; (with_reducible refine (unhide HB w4 ((unhide HV).later b4)).mono ?_); rintro e w5 ⟨bo, m, d, rfl, m5, q5⟩; have b5 := belT b4 q5; have m5' := m4.later q5; have f5 := f4.later q5) | (with_reducible show wpList Tryz.prog _ _ (Oper.mk _ (Op.alloc 26) _ _ _ none :: _) _ _; refine wpList_alT rfl rfl ?_; intro w6 f6 q6 t6; have m6 := m5.later q6; have m6' := m5'.later q6; have f6' := f5.later q6; have b6 := belT b5 q6) | (with_reducible show wpList Tryz.prog _ _ (Oper.mk _ (Op.store 26 _ _) _ _ _ none :: _) _ _; refine wpList_stT rfl (.tmp 8) _ rfl w5.heap.size ⟨eb, pb⟩ ⟨0, 0⟩ (by simp [Act.eval, Act.put]) (by simp [Act.eval, Act.put]) f6 ?_; intro w7 f7 g7 t7; have m7 := m6.keep (fun k hk => g7.block k (m6.ob hk).2 (Nat.ne_of_lt (m5.ob hk).2)); have m7' := m6'.keep (fun k hk => g7.block k (m6'.ob hk).2 (Nat.ne_of_lt (m5'.ob hk).2)); have f7' := f6'.gb g7 (Nat.ne_of_lt f5.lt); have b7 := belowG b6 g7 b5.size b6.size; have y0 := tb_0 f7; have y1 := tb_1 f7) | (with_reducible show wpList Tryz.prog _ _ (Oper.mk _ (Op.load 26 _) _ _ _ none :: _) _ _; refine wpList_ldT rfl (.tmp 6) rfl w2.heap.size fa (by simp [Act.eval, Act.put]) f7' ?_))
          go_ret
          exact ⟨rfl, b7⟩
        · rw [Bool.not_eq_true] at hD
          have HT := hide (TW hfa hfb (unhide DS hD) (by omega))
          clear TW DS hfa hfb
          go_enter Tryz.func3, Tryz.ntmps3
          go_wp2_with (first | (go_at_call 4; refine (unhide L7).mono ?_; rintro e w1 ⟨rfl, b1⟩) | (go_at_call 5; (with_reducible refine (unhide HA w1 ((unhide HV).later b1)).mono ?_); rintro e w2 ⟨ao, n, c, rfl, m2, q2⟩; have b2 := belT b1 q2) | (with_reducible show wpList Tryz.prog _ _ (Oper.mk _ (Op.alloc 26) _ _ _ none :: _) _ _; refine wpList_alT rfl rfl ?_; intro w3 f3 q3 t3; have m3 := m2.later q3; have b3 := belT b2 q3) | (with_reducible show wpList Tryz.prog _ _ (Oper.mk _ (Op.store 26 _ _) _ _ _ none :: _) _ _; refine wpList_stT rfl (.tmp 6) _ rfl w2.heap.size fa ⟨0, 0⟩ (by simp [Act.eval, Act.put]) (by simp [Act.eval, Act.put]) f3 ?_; intro w4 f4 g4 t4; have m4 := m3.keep (fun k hk => g4.block k (m3.ob hk).2 (Nat.ne_of_lt (m2.ob hk).2)); have b4 := belowG b3 g4 b2.size b3.size) | (go_at_call 5; (with_reducible refine (unhide HB w4 ((unhide HV).later b4)).mono ?_); rintro e w5 ⟨bo, m, d, rfl, m5, q5⟩; have b5 := belT b4 q5; have m5' := m4.later q5; have f5 := f4.later q5) | (with_reducible show wpList Tryz.prog _ _ (Oper.mk _ (Op.alloc 26) _ _ _ none :: _) _ _; refine wpList_alT rfl rfl ?_; intro w6 f6 q6 t6; have m6 := m5.later q6; have m6' := m5'.later q6; have f6' := f5.later q6; have b6 := belT b5 q6) | (with_reducible show wpList Tryz.prog _ _ (Oper.mk _ (Op.store 26 _ _) _ _ _ none :: _) _ _; refine wpList_stT rfl (.tmp 8) _ rfl w5.heap.size ⟨eb, pb⟩ ⟨0, 0⟩ (by simp [Act.eval, Act.put]) (by simp [Act.eval, Act.put]) f6 ?_; intro w7 f7 g7 t7; have m7 := m6.keep (fun k hk => g7.block k (m6.ob hk).2 (Nat.ne_of_lt (m5.ob hk).2)); have m7' := m6'.keep (fun k hk => g7.block k (m6'.ob hk).2 (Nat.ne_of_lt (m5'.ob hk).2)); have f7' := f6'.gb g7 (Nat.ne_of_lt f5.lt); have b7 := belowG b6 g7 b5.size b6.size; have y0 := tb_0 f7; have y1 := tb_1 f7) | (with_reducible show wpList Tryz.prog _ _ (Oper.mk _ (Op.load 26 _) _ _ _ none :: _) _ _; refine wpList_ldT rfl (.tmp 6) rfl w2.heap.size fa (by simp [Act.eval, Act.put]) f7' ?_) | (at_builtin; refine wpList_appCL rfl (.tmp 56) (.tmp 57) rfl w7.heap.size (some ⟨w7.heap.size, 0, none⟩) 0 0 [] (by simp [Act.eval, Act.put]) (KcMine.lit0 w7) ao n c La (by simp [Act.eval, Act.put]) (m7'.ss.later (below_alloc w7 _)) n (Nat.zero_add n) La (List.nil_append La) (by rw [← m2.len]; have := unhide HNA; omega) (by simp) ?_; intro ao8 c8 w8 m8 b8 h8; have b8' := (below_alloc w7 _).trans b8) | (at_builtin; refine wpList_appCL rfl (.tmp 58) (.tmp 59) rfl w7.heap.size ao8 n c8 La (by simp [Act.eval, Act.put]) m8 bo m d Lb (by simp [Act.eval, Act.put]) (m7.ss.later b8') (n + m) rfl (La ++ Lb) rfl (by rw [← m2.len, ← m5.len]; have := unhide HNA; have := unhide HNB; omega) b8'.size ?_; intro ao9 c9 wy m9 b9' h9; have by' := belT b7 (b8'.trans b9')) | (go_at_call 6; (with_reducible refine (unhide IS ao9 (n + m) c9 (La ++ Lb) wy ((unhide HV).later by') m9.ss).mono ?_); rintro e wz ⟨rfl, qz⟩; have b9 := belT by' qz))
          go_ret
          exact ⟨by rw [decide_eq_true (unhide HT)]; rfl, b9⟩
      · rw [decide_eq_true hfa, Bool.not_true] at nea
        rw [decide_eq_false hfb, Bool.not_false] at neb
        clear TW DS hfa hfb
        generalize hDD : ((a.extract (a.size - 2) a.size).toList == [45, 45]) = DD
        go_enter Tryz.func3, Tryz.ntmps3
        go_wp2_with (first | (go_at_call 4; refine (unhide L7).mono ?_; rintro e w1 ⟨rfl, b1⟩) | (go_at_call 5; (with_reducible refine (unhide HA w1 ((unhide HV).later b1)).mono ?_); rintro e w2 ⟨ao, n, c, rfl, m2, q2⟩; have b2 := belT b1 q2) | (with_reducible show wpList Tryz.prog _ _ (Oper.mk _ (Op.alloc 26) _ _ _ none :: _) _ _; refine wpList_alT rfl rfl ?_; intro w3 f3 q3 t3; have m3 := m2.later q3; have b3 := belT b2 q3) | (with_reducible show wpList Tryz.prog _ _ (Oper.mk _ (Op.store 26 _ _) _ _ _ none :: _) _ _; refine wpList_stT rfl (.tmp 6) _ rfl w2.heap.size fa ⟨0, 0⟩ (by simp [Act.eval, Act.put]) (by simp [Act.eval, Act.put]) f3 ?_; intro w4 f4 g4 t4; have m4 := m3.keep (fun k hk => g4.block k (m3.ob hk).2 (Nat.ne_of_lt (m2.ob hk).2)); have b4 := belowG b3 g4 b2.size b3.size) | (go_at_call 5; (with_reducible refine (unhide HB w4 ((unhide HV).later b4)).mono ?_); rintro e w5 ⟨bo, m, d, rfl, m5, q5⟩; have b5 := belT b4 q5; have m5' := m4.later q5; have f5 := f4.later q5) | (with_reducible show wpList Tryz.prog _ _ (Oper.mk _ (Op.alloc 26) _ _ _ none :: _) _ _; refine wpList_alT rfl rfl ?_; intro w6 f6 q6 t6; have m6 := m5.later q6; have m6' := m5'.later q6; have f6' := f5.later q6; have b6 := belT b5 q6) | (with_reducible show wpList Tryz.prog _ _ (Oper.mk _ (Op.store 26 _ _) _ _ _ none :: _) _ _; refine wpList_stT rfl (.tmp 8) _ rfl w5.heap.size ⟨eb, pb⟩ ⟨0, 0⟩ (by simp [Act.eval, Act.put]) (by simp [Act.eval, Act.put]) f6 ?_; intro w7 f7 g7 t7; have m7 := m6.keep (fun k hk => g7.block k (m6.ob hk).2 (Nat.ne_of_lt (m5.ob hk).2)); have m7' := m6'.keep (fun k hk => g7.block k (m6'.ob hk).2 (Nat.ne_of_lt (m5'.ob hk).2)); have f7' := f6'.gb g7 (Nat.ne_of_lt f5.lt); have b7 := belowG b6 g7 b5.size b6.size; have y0 := tb_0 f7; have y1 := tb_1 f7) | (with_reducible show wpList Tryz.prog _ _ (Oper.mk _ (Op.load 26 _) _ _ _ none :: _) _ _; refine wpList_ldT rfl (.tmp 6) rfl w2.heap.size fa (by simp [Act.eval, Act.put]) f7' ?_))
        go_ret
        exact ⟨rfl, b7⟩
    · rw [decide_eq_false hfa, Bool.not_false] at nea
      clear TW DS hfa
      go_enter Tryz.func3, Tryz.ntmps3
      go_wp2_with (first | (go_at_call 4; refine (unhide L7).mono ?_; rintro e w1 ⟨rfl, b1⟩) | (go_at_call 5; (with_reducible refine (unhide HA w1 ((unhide HV).later b1)).mono ?_); rintro e w2 ⟨ao, n, c, rfl, m2, q2⟩; have b2 := belT b1 q2) | (with_reducible show wpList Tryz.prog _ _ (Oper.mk _ (Op.alloc 26) _ _ _ none :: _) _ _; refine wpList_alT rfl rfl ?_; intro w3 f3 q3 t3; have m3 := m2.later q3; have b3 := belT b2 q3) | (with_reducible show wpList Tryz.prog _ _ (Oper.mk _ (Op.store 26 _ _) _ _ _ none :: _) _ _; refine wpList_stT rfl (.tmp 6) _ rfl w2.heap.size fa ⟨0, 0⟩ (by simp [Act.eval, Act.put]) (by simp [Act.eval, Act.put]) f3 ?_; intro w4 f4 g4 t4; have m4 := m3.keep (fun k hk => g4.block k (m3.ob hk).2 (Nat.ne_of_lt (m2.ob hk).2)); have b4 := belowG b3 g4 b2.size b3.size) | (go_at_call 5; (with_reducible refine (unhide HB w4 ((unhide HV).later b4)).mono ?_); rintro e w5 ⟨bo, m, d, rfl, m5, q5⟩; have b5 := belT b4 q5; have m5' := m4.later q5; have f5 := f4.later q5) | (with_reducible show wpList Tryz.prog _ _ (Oper.mk _ (Op.alloc 26) _ _ _ none :: _) _ _; refine wpList_alT rfl rfl ?_; intro w6 f6 q6 t6; have m6 := m5.later q6; have m6' := m5'.later q6; have f6' := f5.later q6; have b6 := belT b5 q6) | (with_reducible show wpList Tryz.prog _ _ (Oper.mk _ (Op.store 26 _ _) _ _ _ none :: _) _ _; refine wpList_stT rfl (.tmp 8) _ rfl w5.heap.size ⟨eb, pb⟩ ⟨0, 0⟩ (by simp [Act.eval, Act.put]) (by simp [Act.eval, Act.put]) f6 ?_; intro w7 f7 g7 t7; have m7 := m6.keep (fun k hk => g7.block k (m6.ob hk).2 (Nat.ne_of_lt (m5.ob hk).2)); have m7' := m6'.keep (fun k hk => g7.block k (m6'.ob hk).2 (Nat.ne_of_lt (m5'.ob hk).2)); have f7' := f6'.gb g7 (Nat.ne_of_lt f5.lt); have b7 := belowG b6 g7 b5.size b6.size; have y0 := tb_0 f7; have y1 := tb_1 f7) | (with_reducible show wpList Tryz.prog _ _ (Oper.mk _ (Op.load 26 _) _ _ _ none :: _) _ _; refine wpList_ldT rfl (.tmp 6) rfl w2.heap.size fa (by simp [Act.eval, Act.put]) f7' ?_))
      go_ret
      exact ⟨rfl, b7⟩
  · have g2 : ¬ (2 : Int) ≤ (a.size : Int) := by omega
    have DS := hide (@dash_few a h2)
    by_cases hfa : fa = ok0
    · by_cases hfb : (⟨eb, pb⟩ : Ft) = ok0
      · rw [decide_eq_true hfa, Bool.not_true] at nea
        rw [decide_eq_true hfb, Bool.not_true] at neb
        have HT := hide (TW hfa hfb (unhide DS) (by omega))
        clear TW DS hfa hfb
        go_enter Tryz.func3, Tryz.ntmps3
        go_wp2_with (first | (go_at_call 4; refine (unhide L7).mono ?_; rintro e w1 ⟨rfl, b1⟩) | (go_at_call 5; (with_reducible refine (unhide HA w1 ((unhide HV).later b1)).mono ?_); rintro e w2 ⟨ao, n, c, rfl, m2, q2⟩; have b2 := belT b1 q2) | (with_reducible show wpList Tryz.prog _ _ (Oper.mk _ (Op.alloc 26) _ _ _ none :: _) _ _; refine wpList_alT rfl rfl ?_; intro w3 f3 q3 t3; have m3 := m2.later q3; have b3 := belT b2 q3) | (with_reducible show wpList Tryz.prog _ _ (Oper.mk _ (Op.store 26 _ _) _ _ _ none :: _) _ _; refine wpList_stT rfl (.tmp 6) _ rfl w2.heap.size fa ⟨0, 0⟩ (by simp [Act.eval, Act.put]) (by simp [Act.eval, Act.put]) f3 ?_; intro w4 f4 g4 t4; have m4 := m3.keep (fun k hk => g4.block k (m3.ob hk).2 (Nat.ne_of_lt (m2.ob hk).2)); have b4 := belowG b3 g4 b2.size b3.size) | (go_at_call 5; (with_reducible refine (unhide HB w4 ((unhide HV).later b4)).mono ?_); rintro e w5 ⟨bo, m, d, rfl, m5, q5⟩; have b5 := belT b4 q5; have m5' := m4.later q5; have f5 := f4.later q5) | (with_reducible show wpList Tryz.prog _ _ (Oper.mk _ (Op.alloc 26) _ _ _ none :: _) _ _; refine wpList_alT rfl rfl ?_; intro w6 f6 q6 t6; have m6 := m5.later q6; have m6' := m5'.later q6; have f6' := f5.later q6; have b6 := belT b5 q6) | (with_reducible show wpList Tryz.prog _ _ (Oper.mk _ (Op.store 26 _ _) _ _ _ none :: _) _ _; refine wpList_stT rfl (.tmp 8) _ rfl w5.heap.size ⟨eb, pb⟩ ⟨0, 0⟩ (by simp [Act.eval, Act.put]) (by simp [Act.eval, Act.put]) f6 ?_; intro w7 f7 g7 t7; have m7 := m6.keep (fun k hk => g7.block k (m6.ob hk).2 (Nat.ne_of_lt (m5.ob hk).2)); have m7' := m6'.keep (fun k hk => g7.block k (m6'.ob hk).2 (Nat.ne_of_lt (m5'.ob hk).2)); have f7' := f6'.gb g7 (Nat.ne_of_lt f5.lt); have b7 := belowG b6 g7 b5.size b6.size; have y0 := tb_0 f7; have y1 := tb_1 f7) | (with_reducible show wpList Tryz.prog _ _ (Oper.mk _ (Op.load 26 _) _ _ _ none :: _) _ _; refine wpList_ldT rfl (.tmp 6) rfl w2.heap.size fa (by simp [Act.eval, Act.put]) f7' ?_) | (at_builtin; refine wpList_appCL rfl (.tmp 56) (.tmp 57) rfl w7.heap.size (some ⟨w7.heap.size, 0, none⟩) 0 0 [] (by simp [Act.eval, Act.put]) (KcMine.lit0 w7) ao n c La (by simp [Act.eval, Act.put]) (m7'.ss.later (below_alloc w7 _)) n (Nat.zero_add n) La (List.nil_append La) (by rw [← m2.len]; have := unhide HNA; omega) (by simp) ?_; intro ao8 c8 w8 m8 b8 h8; have b8' := (below_alloc w7 _).trans b8) | (at_builtin; refine wpList_appCL rfl (.tmp 58) (.tmp 59) rfl w7.heap.size ao8 n c8 La (by simp [Act.eval, Act.put]) m8 bo m d Lb (by simp [Act.eval, Act.put]) (m7.ss.later b8') (n + m) rfl (La ++ Lb) rfl (by rw [← m2.len, ← m5.len]; have := unhide HNA; have := unhide HNB; omega) b8'.size ?_; intro ao9 c9 wy m9 b9' h9; have by' := belT b7 (b8'.trans b9')) | (go_at_call 6; (with_reducible refine (unhide IS ao9 (n + m) c9 (La ++ Lb) wy ((unhide HV).later by') m9.ss).mono ?_); rintro e wz ⟨rfl, qz⟩; have b9 := belT by' qz))
        go_ret
        exact ⟨by rw [decide_eq_true (unhide HT)]; rfl, b9⟩
      · rw [decide_eq_true hfa, Bool.not_true] at nea
        rw [decide_eq_false hfb, Bool.not_false] at neb
        clear TW DS hfa hfb
        go_enter Tryz.func3, Tryz.ntmps3
        go_wp2_with (first | (go_at_call 4; refine (unhide L7).mono ?_; rintro e w1 ⟨rfl, b1⟩) | (go_at_call 5; (with_reducible refine (unhide HA w1 ((unhide HV).later b1)).mono ?_); rintro e w2 ⟨ao, n, c, rfl, m2, q2⟩; have b2 := belT b1 q2) | (with_reducible show wpList Tryz.prog _ _ (Oper.mk _ (Op.alloc 26) _ _ _ none :: _) _ _; refine wpList_alT rfl rfl ?_; intro w3 f3 q3 t3; have m3 := m2.later q3; have b3 := belT b2 q3) | (with_reducible show wpList Tryz.prog _ _ (Oper.mk _ (Op.store 26 _ _) _ _ _ none :: _) _ _; refine wpList_stT rfl (.tmp 6) _ rfl w2.heap.size fa ⟨0, 0⟩ (by simp [Act.eval, Act.put]) (by simp [Act.eval, Act.put]) f3 ?_; intro w4 f4 g4 t4; have m4 := m3.keep (fun k hk => g4.block k (m3.ob hk).2 (Nat.ne_of_lt (m2.ob hk).2)); have b4 := belowG b3 g4 b2.size b3.size) | (go_at_call 5; (with_reducible refine (unhide HB w4 ((unhide HV).later b4)).mono ?_); rintro e w5 ⟨bo, m, d, rfl, m5, q5⟩; have b5 := belT b4 q5; have m5' := m4.later q5; have f5 := f4.later q5) | (with_reducible show wpList Tryz.prog _ _ (Oper.mk _ (Op.alloc 26) _ _ _ none :: _) _ _; refine wpList_alT rfl rfl ?_; intro w6 f6 q6 t6; have m6 := m5.later q6; have m6' := m5'.later q6; have f6' := f5.later q6; have b6 := belT b5 q6) | (with_reducible show wpList Tryz.prog _ _ (Oper.mk _ (Op.store 26 _ _) _ _ _ none :: _) _ _; refine wpList_stT rfl (.tmp 8) _ rfl w5.heap.size ⟨eb, pb⟩ ⟨0, 0⟩ (by simp [Act.eval, Act.put]) (by simp [Act.eval, Act.put]) f6 ?_; intro w7 f7 g7 t7; have m7 := m6.keep (fun k hk => g7.block k (m6.ob hk).2 (Nat.ne_of_lt (m5.ob hk).2)); have m7' := m6'.keep (fun k hk => g7.block k (m6'.ob hk).2 (Nat.ne_of_lt (m5'.ob hk).2)); have f7' := f6'.gb g7 (Nat.ne_of_lt f5.lt); have b7 := belowG b6 g7 b5.size b6.size; have y0 := tb_0 f7; have y1 := tb_1 f7) | (with_reducible show wpList Tryz.prog _ _ (Oper.mk _ (Op.load 26 _) _ _ _ none :: _) _ _; refine wpList_ldT rfl (.tmp 6) rfl w2.heap.size fa (by simp [Act.eval, Act.put]) f7' ?_))
        go_ret
        exact ⟨rfl, b7⟩
    · rw [decide_eq_false hfa, Bool.not_false] at nea
      clear TW DS hfa
      go_enter Tryz.func3, Tryz.ntmps3
      go_wp2_with (first | (go_at_call 4; refine (unhide L7).mono ?_; rintro e w1 ⟨rfl, b1⟩) | (go_at_call 5; (with_reducible refine (unhide HA w1 ((unhide HV).later b1)).mono ?_); rintro e w2 ⟨ao, n, c, rfl, m2, q2⟩; have b2 := belT b1 q2) | (with_reducible show wpList Tryz.prog _ _ (Oper.mk _ (Op.alloc 26) _ _ _ none :: _) _ _; refine wpList_alT rfl rfl ?_; intro w3 f3 q3 t3; have m3 := m2.later q3; have b3 := belT b2 q3) | (with_reducible show wpList Tryz.prog _ _ (Oper.mk _ (Op.store 26 _ _) _ _ _ none :: _) _ _; refine wpList_stT rfl (.tmp 6) _ rfl w2.heap.size fa ⟨0, 0⟩ (by simp [Act.eval, Act.put]) (by simp [Act.eval, Act.put]) f3 ?_; intro w4 f4 g4 t4; have m4 := m3.keep (fun k hk => g4.block k (m3.ob hk).2 (Nat.ne_of_lt (m2.ob hk).2)); have b4 := belowG b3 g4 b2.size b3.size) | (go_at_call 5; (with_reducible refine (unhide HB w4 ((unhide HV).later b4)).mono ?_); rintro e w5 ⟨bo, m, d, rfl, m5, q5⟩; have b5 := belT b4 q5; have m5' := m4.later q5; have f5 := f4.later q5) | (with_reducible show wpList Tryz.prog _ _ (Oper.mk _ (Op.alloc 26) _ _ _ none :: _) _ _; refine wpList_alT rfl rfl ?_; intro w6 f6 q6 t6; have m6 := m5.later q6; have m6' := m5'.later q6; have f6' := f5.later q6; have b6 := belT b5 q6) | (with_reducible show wpList Tryz.prog _ _ (Oper.mk _ (Op.store 26 _ _) _ _ _ none :: _) _ _; refine wpList_stT rfl (.tmp 8) _ rfl w5.heap.size ⟨eb, pb⟩ ⟨0, 0⟩ (by simp [Act.eval, Act.put]) (by simp [Act.eval, Act.put]) f6 ?_; intro w7 f7 g7 t7; have m7 := m6.keep (fun k hk => g7.block k (m6.ob hk).2 (Nat.ne_of_lt (m5.ob hk).2)); have m7' := m6'.keep (fun k hk => g7.block k (m6'.ob hk).2 (Nat.ne_of_lt (m5'.ob hk).2)); have f7' := f6'.gb g7 (Nat.ne_of_lt f5.lt); have b7 := belowG b6 g7 b5.size b6.size; have y0 := tb_0 f7; have y1 := tb_1 f7) | (with_reducible show wpList Tryz.prog _ _ (Oper.mk _ (Op.load 26 _) _ _ _ none :: _) _ _; refine wpList_ldT rfl (.tmp 6) rfl w2.heap.size fa (by simp [Act.eval, Act.put]) f7' ?_))
      go_ret
      exact ⟨rfl, b7⟩

end Go.Proofs.YtcfofifdnbmlbaaGreatDoor
