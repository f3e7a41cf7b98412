/-
  What firstWords and wordsOf of package sha return. Conditions: the block is 64 bytes.
-/
import Derived.Test.YtfnnafhifpolmaaDoorShaMem
namespace Go.Proofs.YtfnnafhifpolmaaDoor
open Go.RowKit
set_option linter.unusedVariables false
set_option linter.unusedSimpArgs false

theorem fwk_len (k : Int) : (fwk k).length = 8 := by unfold fwk; split <;> rfl

theorem built8a : Tryd.prog.built 48 [(0, .int .u32 1732584193), (1, .int .u32 4023233417), (2, .int .u32 2562383102), (3, .int .u32 271733878), (4, .int .u32 3285377520)] = some (vk .u32 (fwk 1)) := by kernel_rfl
theorem built8b : Tryd.prog.built 48 [(0, .int .u32 1779033703), (1, .int .u32 3144134277), (2, .int .u32 1013904242), (3, .int .u32 2773480762), (4, .int .u32 1359893119), (5, .int .u32 2600822924), (6, .int .u32 528734635), (7, .int .u32 1541459225)] = some (vk .u32 (fwk 2)) := by kernel_rfl

/-- A build whose cells are known. -/
theorem wpList_bld {ops : Array Oper} {rest : List Oper} {o : Oper} {a : Act} {w : World} {Q : Exit → Act → World → Prop} (hgd : o.guard = none) (t : TypeId) (parts : Array (Nat × Operand)) (ho : o.op = .build t parts)
    (C : Array Value) (hb : Tryd.prog.built t (parts.map fun (i, x) => (i, a.eval x)).toList = some C)
    (h : wpList Tryd.prog ops Q rest (a.put o.dst (.agg C)) w) : wpList Tryd.prog ops Q (o :: rest) a w := by
  refine wpList_build hgd _ _ ho (by rw [hb]; rfl) ?_
  rw [hb]
  exact h

set_option maxHeartbeats 400000 in
theorem firstWords_any (k : Int) (w : World) (hk : k = 1 ∨ k = 2) :
    Calls Tryd.prog 42 #[.int .i64 k] w fun e w' => e = .returned (.agg (vk .u32 (fwk k))) ∧ Below w.heap.size w w' := by
  rcases hk with rfl | rfl
  · go_enter Tryd.func42, Tryd.ntmps42
    go_wp2_with (first
      | (with_reducible show wpList Tryd.prog _ _ (Oper.mk _ (Op.alloc 48) _ _ _ none :: _) _ _; refine wpList_aAlloc ta8 rfl rfl ?_; intro w1 a1 b1 s1)
      | (with_reducible show wpList Tryd.prog _ _ (Oper.mk _ (Op.build 48 _) _ _ _ none :: _) _ _; refine wpList_bld rfl _ _ rfl _ built8a ?_)
      | (with_reducible show wpList Tryd.prog _ _ (Oper.mk _ (Op.store 48 _ _) _ _ _ none :: _) _ _; refine wpList_aStore ta8 rfl (.tmp 2) (.tmp 5) rfl w.heap.size (fwk 1) _ rfl rfl a1 (fwk_len 1) (zs_len 8) ?_; intro w2 a2 o2 s2 b2))
    refine bodyPost_ret (results_arr ta8 rfl _ _ w.heap.size _ (fwk_len 1) rfl a2) rfl ?_
    exact ⟨rfl, b1.trans b2⟩
  · go_enter Tryd.func42, Tryd.ntmps42
    go_wp2_with (first
      | (with_reducible show wpList Tryd.prog _ _ (Oper.mk _ (Op.alloc 48) _ _ _ none :: _) _ _; refine wpList_aAlloc ta8 rfl rfl ?_; intro w1 a1 b1 s1)
      | (with_reducible show wpList Tryd.prog _ _ (Oper.mk _ (Op.build 48 _) _ _ _ none :: _) _ _; refine wpList_bld rfl _ _ rfl _ built8b ?_)
      | (with_reducible show wpList Tryd.prog _ _ (Oper.mk _ (Op.store 48 _ _) _ _ _ none :: _) _ _; refine wpList_aStore ta8 rfl (.tmp 2) (.tmp 6) rfl w.heap.size (fwk 2) _ rfl rfl a1 (fwk_len 2) (zs_len 8) ?_; intro w2 a2 o2 s2 b2))
    refine bodyPost_ret (results_arr ta8 rfl _ _ w.heap.size _ (fwk_len 2) rfl a2) rfl ?_
    exact ⟨rfl, b1.trans b2⟩

/-- The first r bytes of a block's word q. -/
def pwd (B : List Int) (q : Nat) : Nat → Int
  | 0 => 0
  | r + 1 => pwd B q r * 256 + ix B (4 * q + r)
def wdp (B : List Int) (j : Nat) : List Int := (List.range 16).map fun q => pwd B q (min 4 (j - 4 * q))
theorem wdp_len (B : List Int) (j : Nat) : (wdp B j).length = 16 := by simp [wdp]
theorem wdp_at (B : List Int) (j q : Nat) (h : q < 16) : ix (wdp B j) q = pwd B q (min 4 (j - 4 * q)) := by simp [wdp, ix, h]
theorem wdp_zero (B : List Int) : wdp B 0 = zs 16 := by
  unfold wdp
  simp [pwd]
  rfl
theorem wds_len (B : List Int) : (wds B).length = 16 := by simp [wds]
theorem wdp_all (B : List Int) : wdp B 64 = wds B := by
  unfold wdp wds
  refine List.map_congr_left fun q hq => ?_
  have hq' : q < 16 := by simpa using hq
  rw [show min 4 (64 - 4 * q) = 4 by omega]
  simp only [pwd, be4, Nat.add_zero]
  omega
theorem ix_ext {a b : List Int} {n : Nat} (ha : a.length = n) (hb : b.length = n) (h : ∀ i, i < n → ix a i = ix b i) : a = b := by
  apply List.ext_getElem (by rw [ha, hb])
  intro i h1 h2
  have := h i (by omega)
  simpa [ix, List.getElem?_eq_getElem h1, List.getElem?_eq_getElem h2] using this
theorem ix_set (l : List Int) (i j : Nat) (v : Int) (h : j < l.length) : ix (l.set j v) i = if i = j then v else ix l i := by
  unfold ix
  rw [List.getElem?_set]
  by_cases e : j = i
  · subst e; simp [h]
  · rw [if_neg e, if_neg (fun h => e h.symm)]
theorem wdp_step (B : List Int) (j : Nat) (h : j < 64) : (wdp B j).set (j / 4) (pwd B (j / 4) (j % 4) * 256 + ix B j) = wdp B (j + 1) := by
  refine ix_ext (n := 16) (by simp [wdp_len]) (wdp_len _ _) fun q hq => ?_
  rw [ix_set _ _ _ _ (by rw [wdp_len]; omega), wdp_at _ _ _ hq, wdp_at _ _ _ hq]
  by_cases e : q = j / 4
  · subst e
    rw [if_pos rfl, show min 4 (j + 1 - 4 * (j / 4)) = j % 4 + 1 by omega, pwd, show 4 * (j / 4) + j % 4 = j by omega]
  · rw [if_neg e]
    congr 1
    omega
theorem pwd_wd (B : List Int) (hB : Byt B) (q : Nat) : ∀ r, r ≤ 3 → 0 ≤ pwd B q r ∧ pwd B q r ≤ 16777215 := by
  have hb : ∀ i, 0 ≤ ix B i ∧ ix B i ≤ 255 := fun i => hB.at i
  intro r hr
  have h0 := hb (4 * q)
  have h1 := hb (4 * q + 1)
  have h2 := hb (4 * q + 2)
  match r, hr with
  | 0, _ => simp [pwd]
  | 1, _ => simp only [pwd, Nat.add_zero]; omega
  | 2, _ => simp only [pwd, Nat.add_zero]; omega
  | 3, _ => simp only [pwd, Nat.add_zero]; omega

set_option maxHeartbeats 1000000 in
theorem wordsOf_any (B : List Int) (w : World) (hl : B.length = 64) (hB : Byt B) :
    Calls Tryd.prog 55 #[.agg (vk .u8 B)] w fun e w' => e = .returned (.agg (vk .u32 (wds B))) ∧ Below w.heap.size w w' := by
  have HL := hide hl
  have HB := hide hB
  clear hl hB
  go_enter Tryd.func55, Tryd.ntmps55
  go_wp2_with (first
    | (with_reducible show wpList Tryd.prog _ _ (Oper.mk _ (Op.box 50 _) _ _ _ none :: _) _ _; refine wpList_aBox rfl (.tmp 0) rfl B rfl ?_; intro w1 a1 b1 s1)
    | (with_reducible show wpList Tryd.prog _ _ (Oper.mk (some 2) (Op.alloc 66) _ _ _ none :: _) _ _; refine wpList_aAlloc ta16 rfl rfl ?_; intro w2 a2 b2 s2)
    | (with_reducible show wpList Tryd.prog _ _ (Oper.mk (some 3) (Op.alloc 66) _ _ _ none :: _) _ _; refine wpList_aAlloc ta16 rfl rfl ?_; intro w3 a3 b3 s3; have A2 := hide (a2.later b3); have A1 := hide ((a1.later b2).later b3); have A3 := hide a3; have B3 := hide ((b1.trans (b2.mono b1.size)).trans (b3.mono (Nat.le_trans b1.size b2.size))); clear a1 a2 a3 b1 b2 b3)
    | (with_reducible show wpList Tryd.prog _ _ (Oper.mk _ (Op.load 50 _) _ _ _ none :: _) _ _; refine wpList_aLoad tb64 rfl (.tmp 1) rfl w.heap.size rfl B (unhide A1) (unhide HL) ?_))
  rw [s1] at A2 s2
  rw [s2] at A3 s3
  clear s1 s2 s3
  go_loopw [7] (fun i ws => ∃ j : Nat, j ≤ 64 ∧ i = .int .i64 j ∧ Arr ws (w.heap.size + 1) 66 .u32 (zs 16) ∧ Arr ws (w.heap.size + 1 + 1) 66 .u32 (wdp B j) ∧ Below w.heap.size w ws) (fun i _ => 64 - (intOf i).toNat)
  case atStart => exact ⟨0, by omega, rfl, unhide A2, by rw [wdp_zero]; exact unhide A3, unhide B3⟩
  case round =>
    clear A1 A2 A3 B3
    obtain ⟨j, hj, rfl, h2, h3, hb⟩ := hrel
    by_cases hlt : j < 64
    · obtain ⟨q, hq⟩ : ∃ q : Nat, j / 4 = q := ⟨_, rfl⟩
      have hqI : (j : Int) / 4 = (q : Int) := by omega
      have hq16 : q < 16 := by omega
      have hix := run_aIndex tb64 B (unhide HL) j hlt (j : Int) rfl
      have cc := h3.cell (i := q) (by rw [wdp_len]; exact hq16)
      have fr := h3.free q
      rw [wdp_at _ _ _ hq16, show min 4 (j - 4 * q) = j % 4 by omega] at cc
      have hst := hide (wdp_step B j hlt)
      rw [hq] at hst
      obtain ⟨X0, X1⟩ := pwd_wd B (unhide HB) q (j % 4) (by omega)
      obtain ⟨d0, d1⟩ : 0 ≤ ix B j ∧ ix B j ≤ 255 := (unhide HB).at j
      generalize pwd B q (j % 4) = X at *
      generalize ix B j = D at *
      have ho := or8 X D X0 X1 d0 d1
      have H2 := hide h2
      have H3 := hide h3
      have i1 : 0 ≤ (q : Int) ∧ (q : Int) < 16 := by omega
      clear h2 h3 hq
      go_wp2_with fail
      go_roundw
      case rel =>
        refine ⟨j + 1, by omega, by go_num, (unhide H2).other _ _ (by simp <;> omega), ?_, hb.setCell (by simp <;> omega) _⟩
        rw [← unhide hst]
        exact (unhide H3).stored q _
      case measure => simp [intOf]; omega
    · have H2 := hide h2
      have H3 := hide (show Arr wr (w.heap.size + 1 + 1) 66 .u32 (wds B) by rw [← wdp_all, show (64 : Nat) = j by omega]; exact h3)
      clear h2 h3
      go_wp2_with (first
        | (with_reducible show wpList Tryd.prog _ _ (Oper.mk _ (Op.load 66 _) _ _ _ none :: _) _ _; refine wpList_aLoad ta16 rfl (.tmp 3) rfl (w.heap.size + 1 + 1) rfl _ (unhide H3) (wds_len B) ?_)
        | (with_reducible show wpList Tryd.prog _ _ (Oper.mk _ (Op.store 66 _ _) _ _ _ none :: _) _ _; refine wpList_aStore ta16 rfl (.tmp 2) (.tmp 23) rfl (w.heap.size + 1) (wds B) _ rfl rfl (unhide H2) (wds_len B) (zs_len 16) ?_; intro w5 a5 o5 s5 b5))
      refine bodyPost_ret (results_arr ta16 rfl _ _ (w.heap.size + 1) _ (wds_len B) rfl a5) rfl ?_
      exact ⟨rfl, hb.trans (b5.mono (by omega))⟩

end Go.Proofs.YtfnnafhifpolmaaDoor
