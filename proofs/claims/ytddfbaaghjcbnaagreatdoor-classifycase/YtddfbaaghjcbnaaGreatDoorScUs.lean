/-
  What userVar of package scan returns for any text. Conditions: at most 2,000,000 bytes; the library's variables read as they were laid.
-/
import Derived.Test.YtddfbaaghjcbnaaGreatDoorScLg
import Derived.Test.YtddfbaaghjcbnaaGreatDoorScSi
import Derived.Deep.RegionHeld3
import Derived.Deep.DeepCutAuto
namespace Go.Proofs.YtddfbaaghjcbnaaGreatDoor
open Go.RowKit
set_option linter.unusedVariables false
set_option linter.unusedSimpArgs false

theorem step_stG {ops : Array Oper} {o : Oper} {a : Act} {w : World} {K : Act → World → Prop} {Q : Exit → Act → World → Prop} {G : Prop} (hgd : o.guard = none) (T : TypeId) (x y : Operand) (ho : o.op = .store T x y)
    (g : Nat) (cs c0 : Array Value) (hx : a.eval x = .pointer (some ⟨g, 0, none⟩)) (hy : a.eval y = .agg cs) (hg : w.heap[g]? = some (.cells c0 T (0, 0))) (hi : (Tryz.prog.info? T).map (·.size) = some cs.size) (h8 : c0.size = cs.size) (h1 : cs.all (·.oneCell') = true)
    (h : ∀ w1, w1.heap[g]? = some (.cells cs T (0, 0)) → Gb g w w1 → K (a.put o.dst undef) w1) : if Region.wanted o (yielded ops a.tmps) = true then Oper.wp Tryz.prog o a w K Q else G := by
  have hw : Region.wanted o (yielded ops a.tmps) = true := by simp [Region.wanted, hgd]
  rw [if_pos hw]
  exact wp_store_row T x y ho g cs hx hy _ c0 hg hi h8 h1 (h _ (setRow_heap w g _ _ _ _ hg) ⟨rfl, rfl, rfl, by simp, fun j _ hj => setRow_other w g j _ hj⟩)
theorem gdr (g : Nat) (w : World) : Gb g w w.drew := ⟨rfl, rfl, rfl, Nat.le_refl _, fun _ _ _ => rfl⟩
theorem gb_below {g : Nat} {a b c : World} (h : Gb g a b) (k : Below b.heap.size b c) : Gb g a c :=
  ⟨k.os.trans h.os, k.tape.trans h.tape, k.output.trans h.output, Nat.le_trans h.size k.size, fun i hi hq => (k.block i (Nat.lt_of_lt_of_le hi h.size)).trans (h.block i hi hq)⟩
theorem gb_gb {g : Nat} {a b c : World} (h : Gb g a b) (k : Gb g b c) : Gb g a c :=
  ⟨k.os.trans h.os, k.tape.trans h.tape, k.output.trans h.output, Nat.le_trans h.size k.size, fun i hi hq => (k.block i (Nat.lt_of_lt_of_le hi h.size) hq).trans (h.block i hi hq)⟩
theorem gb_cell {g b j : Nat} {v : Value} {w w' : World} (h : Gb g w w') (hc : w.cell? ⟨b, j, none⟩ = some v) (hn : b ≠ g) : w'.cell? ⟨b, j, none⟩ = some v := by
  rw [World.cell?_of_block (w := w) (a := ⟨b, j, none⟩) (h.block b (World.block_lt_of_cell? w _ hc) hn)]
  exact hc
theorem w64_1 {m : Nat} (h : m ≤ 2000000) : wrap64 ((m : Int) + 1) = (m : Int) + 1 ∧ IntKind.i64.wrap ((m : Int) + 1) = (m : Int) + 1 := by
  constructor
  · unfold wrap64; omega
  · rw [IntKind.wrap_i64]; omega
theorem bdr (w : World) : Below w.heap.size w w.drew := below_drew w
theorem en_name : ∀ args w, (callFunc 24 args).run Tryz.prog w = .ok (.enter 24 args) w := enters_of Tryz.func24 (by kernel_rfl) rfl
theorem en_quotedName : ∀ args w, (callFunc 25 args).run Tryz.prog w = .ok (.enter 25 args) w := enters_of Tryz.func25 (by kernel_rfl) rfl
theorem en_quotedText : ∀ args w, (callFunc 26 args).run Tryz.prog w = .ok (.enter 26 args) w := enters_of Tryz.func26 (by kernel_rfl) rfl
def fns3 : Array Value := #[.func (.func 24) #[] #[], .func (.func 25) #[] #[], .func (.func 26) #[] #[]]
theorem chain3 (s : ByteArray) (w w' : World) (g : Nat) (T : TypeId) (h : w'.heap[g]? = some (.cells fns3 T (0, 0))) (hs : s.size ≤ 2000000) :
    Chain s w' g 0 3 [(24, naF (bl s)), (25, qnF (bl s)), (26, qtF (bl s))] := by
  have hc := fun j => cell_of_row w' g j _ _ _ h
  refine ⟨rfl, fun i p hp => ?_, fun i p hp => ?_, fun i p hp => ?_⟩
  · rw [Nat.zero_add, hc]
    match i, hp with
    | 0, hp | 1, hp | 2, hp => simp at hp; subst hp; rfl
    | i + 3, hp => simp at hp
  · match i, hp with
    | 0, hp => simp at hp; subst hp; exact en_name
    | 1, hp => simp at hp; subst hp; exact en_quotedName
    | 2, hp => simp at hp; subst hp; exact en_quotedText
    | i + 3, hp => simp at hp
  · match i, hp with
    | 0, hp => simp at hp; subst hp; exact fun wx hx => name_any s wx hx hs
    | 1, hp => simp at hp; subst hp; exact fun wx _ => quotedName_any s wx hs
    | 2, hp => simp at hp; subst hp; exact fun wx _ => quotedText_any s wx hs
    | i + 3, hp => simp at hp
theorem longest3 (s : ByteArray) (w : World) (g : Nat) (hV : Vr w) (hs : s.size ≤ 2000000) (hg : g = w.heap.size) :
    Calls Tryz.prog 21 #[.string s, .slice (some ⟨g, 0, none⟩) 3 3] (w.alloc (.cells fns3 44)) fun e w' => e = .returned (.agg (fdC (usB (bl s)))) ∧ Below w.heap.size w w' :=
  (longest_any s _ g 0 3 3 _ (chain3 s w _ g _ (by rw [hg]; exact heap_alloc_new w _) hs) (hV.later (below_alloc w _)) (by omega) (by omega) (by omega)).mono fun e w' h => ⟨h.1, bt (below_alloc w _) h.2⟩


set_option maxHeartbeats 4000000 in
set_option maxRecDepth 20000 in
theorem userVar_any (s : ByteArray) (w : World) (hV : Vr w) (hs : s.size ≤ 2000000) (hbig : (usB ((bl s).drop 1)).tx.size ≤ 140737488355328) (hbn : (usB ((bl s).drop 1)).n ≤ 2000000) : Calls Tryz.prog 27 #[.string s] w fun e w' => e = .returned (.agg (fdC (usF (bl s)))) ∧ Below w.heap.size w w' := by
  have HV := hide hV
  have c0 := fun wx => cut_any s ⟨#[64]⟩ wx
  rw [show bl ⟨#[64]⟩ = [64] from rfl, show (⟨#[64]⟩ : ByteArray).size = 1 from rfl] at c0
  unfold usF
  cases hp : pre [64] (bl s) with
  | false =>
    rw [hp] at c0
    simp only [Bool.false_eq_true, if_false] at c0
    have HC0 := hide c0
    clear c0 hp hbig hbn
    rw [if_neg (by simp)]
    go_enter Tryz.func27, Tryz.ntmps27
    go_wp2_with (first | (with_reducible show wpList Tryz.prog _ _ (Oper.mk _ (Op.alloc 43) _ _ _ none :: _) _ _; refine wpList_alF rfl rfl ?_; intro wz rz bz sz) | (go_at_call 73; (with_reducible refine same_world (unhide HC0 _) ?_)) | (with_reducible show wpList Tryz.prog _ _ (Oper.mk _ (Op.store 43 _ _) _ _ _ none :: _) _ _; refine wpList_stF rfl (.tmp 2) (.tmp 13) rfl w.heap.size nil0 nil0 (by simp [Act.eval, Act.put]) (by simp [Act.eval, Act.put, fdC, nil0, ba]) rz ?_; intro wy ry gy sy))
    exact fd_end rfl w.heap.size _ _ rfl rfl ry rfl (below_gb bz gy (Nat.le_refl _))
  | true =>
    rw [hp] at c0
    simp only [if_true] at c0
    rw [if_pos rfl]
    obtain ⟨X, hX⟩ : ∃ X, X = ba ((bl s).drop 1) := ⟨_, rfl⟩
    have hXb : bl X = (bl s).drop 1 := by rw [hX, bl_ba]
    have hXs : X.size ≤ s.size := by rw [← bl_len, hXb, List.length_drop, bl_len]; omega
    rw [← hX] at c0
    rw [← hXb]
    rw [← hXb] at hbig hbn
    have c1 := fun wx g (h : Vr wx) (hg : g = wx.heap.size) => longest3 X wx g h (by omega) hg
    generalize usB (bl X) = U at *
    unfold fns3 at c1
    obtain ⟨k, tx, m, E⟩ := U
    simp only at hbig hbn
    have c2 := fun wx => lower_any tx wx hbig
    simp only
    generalize ba (low (bl tx)) = Y at *
    have HC0 := hide c0
    have HC1 := hide c1
    have HC2 := hide c2
    clear c0 c1 c2 hX hXb hp
    by_cases hZ : m = 0
    · subst hZ
      rw [if_pos rfl]
      go_enter Tryz.func27, Tryz.ntmps27
      go_wp2_with (first | (with_reducible show wpList Tryz.prog _ _ (Oper.mk _ (Op.alloc 43) _ _ _ none :: _) _ _; refine wpList_alF rfl rfl ?_; intro w3 fz q3 t3; have r3 := r2.later q3; have b3 := bt b2 q3; have n2 := r2.lt) | (with_reducible show wpList Tryz.prog _ _ (Oper.mk _ (Op.alloc 43) _ _ _ none :: _) _ _; refine wpList_alF rfl rfl ?_; intro w1 r1 b1 t1) | (go_at_call 73; (with_reducible refine same_world (unhide HC0 _) ?_)) | (go_at_call 21; (with_reducible refine (unhide HC1 w1 _ ((unhide HV).later b1) t1.symm).mono ?_); rintro e w2 ⟨rfl, q2⟩; have r2 := r1.later q2; have b2 := bt b1 q2) | (with_reducible show wpList Tryz.prog _ _ (Oper.mk _ (Op.store 43 _ _) _ _ _ none :: _) _ _; refine wpList_stF rfl (.tmp 5) (.tmp 16) rfl _ ⟨k, tx, 0, E⟩ nil0 (by simp [Act.eval, Act.put]) (by simp [Act.eval, Act.put]) fz ?_; intro w4 fz g4 t4; have r4 := r3.gb g4 (Nat.ne_of_lt n2); have b4 := below_gb b3 g4 (Nat.le_of_lt n2); have k1 := fb_t fz; have k3 := fb_n fz) | (with_reducible show wpList Tryz.prog _ _ (Oper.mk _ (Op.load 43 _) _ _ _ none :: _) _ _; refine wpList_ldF rfl (.tmp 5) rfl _ ⟨k, tx, 0, E⟩ (by simp [Act.eval, Act.put]) fz ?_) | (with_reducible show wpList Tryz.prog _ _ (Oper.mk _ (Op.store 43 _ _) _ _ _ none :: _) _ _; refine wpList_stF rfl (.tmp 2) (.tmp 20) rfl w.heap.size ⟨k, tx, 0, E⟩ nil0 (by simp [Act.eval, Act.put]) (by simp [Act.eval, Act.put]) r4 ?_; intro wy ry gy sy))
      exact fd_end rfl w.heap.size _ _ rfl rfl ry rfl (below_gb b4 gy (Nat.le_refl _))
    · have hz : ((m : Int) == 0) = false := by rw [beq_eq_false_iff_ne]; omega
      rw [if_neg hZ]
      go_enter Tryz.func27, Tryz.ntmps27
      go_upto_region 7 with (first | (with_reducible show wpList Tryz.prog _ _ (Oper.mk _ (Op.alloc 43) _ _ _ none :: _) _ _; refine wpList_alF rfl rfl ?_; intro w3 fz q3 t3; have r3 := r2.later q3; have b3 := bt b2 q3; have n2 := r2.lt) | (with_reducible show wpList Tryz.prog _ _ (Oper.mk _ (Op.alloc 43) _ _ _ none :: _) _ _; refine wpList_alF rfl rfl ?_; intro w1 r1 b1 t1) | (go_at_call 73; (with_reducible refine same_world (unhide HC0 _) ?_)) | (go_at_call 21; (with_reducible refine (unhide HC1 w1 _ ((unhide HV).later b1) t1.symm).mono ?_); rintro e w2 ⟨rfl, q2⟩; have r2 := r1.later q2; have b2 := bt b1 q2) | (with_reducible show wpList Tryz.prog _ _ (Oper.mk _ (Op.store 43 _ _) _ _ _ none :: _) _ _; refine wpList_stF rfl (.tmp 5) (.tmp 16) rfl _ ⟨k, tx, m, E⟩ nil0 (by simp [Act.eval, Act.put]) (by simp [Act.eval, Act.put]) fz ?_; intro w4 fz g4 t4; have r4 := r3.gb g4 (Nat.ne_of_lt n2); have b4 := below_gb b3 g4 (Nat.le_of_lt n2); have k1 := fb_t fz; have k3 := fb_n fz) | (with_reducible show wpList Tryz.prog _ _ (Oper.mk _ (Op.load 43 _) _ _ _ none :: _) _ _; refine wpList_ldF rfl (.tmp 5) rfl _ ⟨k, tx, m, E⟩ (by simp [Act.eval, Act.put]) fz ?_) | (with_reducible show wpList Tryz.prog _ _ (Oper.mk _ (Op.store 43 _ _) _ _ _ none :: _) _ _; refine wpList_stF rfl (.tmp 2) (.tmp 20) rfl w.heap.size ⟨k, tx, m, E⟩ nil0 (by simp [Act.eval, Act.put]) (by simp [Act.eval, Act.put]) r4 ?_; intro wy ry gy sy))
      have R4 := hide r4
      have B4 := hide b4
      have K1 := hide k1
      have K3 := hide k3
      have hFC : fdC ⟨6, Y, m + 1, 0⟩ = #[.int .i64 6, .string Y, .int .i64 0, .int .i64 ((m : Int) + 1), .int .i64 0] := by simp [fdC]
      have HFC := hide hFC
      have SP := hide (show (Tryz.prog.info? 43).map (·.size) = some (#[.int .i64 6, .string Y, .int .i64 0, .int .i64 ((m : Int) + 1), .int .i64 0] : Array Value).size from fdc_info ⟨0, Y, 0, 0⟩)
      have OP := hide (show (#[.int .i64 6, .string Y, .int .i64 0, .int .i64 ((m : Int) + 1), .int .i64 0] : Array Value).all (·.oneCell') = true by simp [Value.oneCell'])
      clear hFC
      refine wp_region_held_drew (S := fun wq => Gb w.heap.size w4 wq) (by kernel_rfl) (gdr _ w4) (fun hHeld => ?_)
      refine wpAnyH_take (i := 0) (v := .pointer (some ⟨w2.heap.size, 0, none⟩)) rfl (by kernel_rfl) (by kernel_rfl) (by kernel_rfl) (fun _ _ _ h => h) (Or.inl ⟨by rfl, ?_⟩) (gdr _ w4) ?_
      · intro wq hSw; go_simp
      try simp only [Act.put, List.setIfInBounds_toArray, List.set_cons_zero, List.set_cons_succ]
      refine wpAnyH_take (i := 1) (v := .pointer (some ⟨w2.heap.size, 1, none⟩)) rfl (by kernel_rfl) (by kernel_rfl) (by kernel_rfl) (fun _ _ _ h => h) (Or.inl ⟨by rfl, ?_⟩) (gdr _ w4) ?_
      · intro wq hSw; go_simp
      try simp only [Act.put, List.setIfInBounds_toArray, List.set_cons_zero, List.set_cons_succ]
      refine wpAnyH_take (i := 2) (v := .string tx) rfl (by kernel_rfl) (by kernel_rfl) (by kernel_rfl) (fun _ _ _ h => h) (Or.inl ⟨by rfl, ?_⟩) (gdr _ w4) ?_
      · intro wq hSw; have kk := gb_cell hSw (unhide K1) (by omega); go_simp
      try simp only [Act.put, List.setIfInBounds_toArray, List.set_cons_zero, List.set_cons_succ]
      refine wpAnyH_take (i := 5) (v := .pointer (some ⟨w2.heap.size, 3, none⟩)) rfl (by kernel_rfl) (by kernel_rfl) (by kernel_rfl) (fun _ _ _ h => h) (Or.inl ⟨by rfl, ?_⟩) (gdr _ w4) ?_
      · intro wq hSw; go_simp
      try simp only [Act.put, List.setIfInBounds_toArray, List.set_cons_zero, List.set_cons_succ]
      refine wpAnyH_take (i := 6) (v := .int .i64 (m : Int)) rfl (by kernel_rfl) (by kernel_rfl) (by kernel_rfl) (fun _ _ _ h => h) (Or.inl ⟨by rfl, ?_⟩) (gdr _ w4) ?_
      · intro wq hSw; have kk := gb_cell hSw (unhide K3) (by omega); go_simp
      try simp only [Act.put, List.setIfInBounds_toArray, List.set_cons_zero, List.set_cons_succ]
      refine wpAnyH_take (i := 7) (v := .int .i64 ((m : Int) + 1)) rfl (by kernel_rfl) (by kernel_rfl) (by kernel_rfl) (fun _ _ _ h => h) (Or.inl ⟨by rfl, ?_⟩) (gdr _ w4) ?_
      · intro wq hSw; obtain ⟨u1, u2⟩ := w64_1 hbn; go_simp
      try simp only [Act.put, List.setIfInBounds_toArray, List.set_cons_zero, List.set_cons_succ]
      refine wpAnyH_ready (rs := [3]) (by kernel_rfl) (by simp) ?_
      refine AllReadyH.cons rfl (fun K hK => ?_) AllReadyH.nil
      go_simp
      refine (unhide HC2 _).mono ?_
      rintro e w7 ⟨rfl, b7⟩
      have B7 : Below w4.heap.size w4 w7 := bt (bdr w4) b7
      have G7 := gb_below (gdr w.heap.size w4) b7
      try go_simp
      refine hK.out _ _ G7 (fun hHeld => ?_)
      clear hK K
      try simp only [Act.put, List.setIfInBounds_toArray, List.set_cons_zero, List.set_cons_succ]
      refine wpAnyH_take (i := 4) (v := .agg #[.int .i64 6, .string Y, .int .i64 0]) rfl (by kernel_rfl) (by kernel_rfl) (by kernel_rfl) (fun _ _ _ h => h) (Or.inl ⟨by rfl, ?_⟩) G7 ?_
      · intro wq hSw; go_simp
      try simp only [Act.put, List.setIfInBounds_toArray, List.set_cons_zero, List.set_cons_succ]
      refine wpAnyH_take (i := 8) (v := .agg #[.int .i64 6, .string Y, .int .i64 0, .int .i64 ((m : Int) + 1), .int .i64 0]) rfl (by kernel_rfl) (by kernel_rfl) (by kernel_rfl) (fun _ _ _ h => h) (Or.inl ⟨by rfl, ?_⟩) G7 ?_
      · intro wq hSw; go_simp
      try simp only [Act.put, List.setIfInBounds_toArray, List.set_cons_zero, List.set_cons_succ]
      refine wpAnyH_ready (rs := [9]) (by kernel_rfl) (by simp) ?_
      refine AllReadyH.cons rfl (fun K hK => ?_) AllReadyH.nil
      refine step_stG rfl 43 (.tmp 2) (.tmp 29) rfl w.heap.size #[.int .i64 6, .string Y, .int .i64 0, .int .i64 ((m : Int) + 1), .int .i64 0] (fdC nil0) rfl rfl ((unhide R4).later B7) (unhide SP) rfl (unhide OP) ?_
      intro w9 r9 g9
      have B9 : Below w.heap.size w w9 := below_gb (bt (unhide B4) B7) g9 (Nat.le_refl _)
      have hlt := (unhide R4).lt
      refine hK.out _ _ (gb_gb G7 g9) (fun hHeld => ?_)
      clear hK K
      refine wpAnyH_done (by kernel_rfl) ?_ _
      try go_simp
      try simp only [Act.put, List.setIfInBounds_toArray, List.set_cons_zero, List.set_cons_succ]
      go_wp2_with fail
      have ry : Fb w.heap.size ⟨6, Y, m + 1, 0⟩ w9 := by unfold Fb; rw [unhide HFC]; exact r9
      exact fd_end rfl w.heap.size _ _ rfl rfl ry rfl B9

end Go.Proofs.YtddfbaaghjcbnaaGreatDoor
