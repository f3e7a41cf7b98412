/-
  ScanSplit of layer 19, for the walk: it returns true for any text. Conditions: the text fits in memory; the library's variables read as they were laid.
-/
import Derived.Test.YtjbgkgkgpigikaaDoorScSq
import Derived.Test.YtjbgkgkgpigikaaDoorScLiv
import Derived.Deep.AppendSrc
namespace Go.Proofs.YtjbgkgkgpigikaaDoor
open Go.RowKit
set_option linter.unusedVariables false
set_option linter.unusedSimpArgs false

theorem flatW_two (l m : List Wd) : flatW (l ++ m) = flatW l ++ flatW m := by simp [flatW]
theorem flatW_ones (l : List Wd) : ∀ u ∈ flatW l, u.oneCell' = true := by
  intro u hu
  obtain ⟨x, _, hx⟩ := List.mem_flatMap.1 hu
  exact (Array.all_eq_true_iff_forall_mem.1 (wdc_one x)) u (by simpa using hx)
theorem Wds.cells {w : World} {a : Addr} {m d : Nat} {l : List Wd} (h : Wds w (some a) m d l) : ∀ j u, (flatW l)[j]? = some u → w.cell? (a.add j) = some u := by
  intro j u hu
  have hj := (List.getElem?_eq_some_iff.1 hu).1
  rw [flatW_len] at hj
  rcases h.at' with h0 | ⟨b, off, e, hc⟩
  · have := h.len
    omega
  · cases e
    have hi : j / 3 < l.length := by omega
    have hr : j % 3 < 3 := Nat.mod_lt _ (by decide)
    have h1 := hc (j / 3) _ (List.getElem?_eq_getElem hi) (j % 3) hr
    have h2 := flatW_at l (j / 3) (j % 3) _ (List.getElem?_eq_getElem hi) hr
    rw [show j / 3 * 3 + j % 3 = j by omega] at h2
    rw [Addr.add_lit, show off + j = off + j / 3 * 3 + j % 3 by omega, h1, ← h2, hu]
theorem append_nil0 (w : World) (ty : TypeId) (i : TypeInfo) (hi : Tryd.prog.info? 33 = some i) (base : Option Addr) (sLen sCap : Nat) (hle : sLen ≤ sCap) (x : Value) (hs : Src Tryd.prog i.size 23 x 0 [] w) :
    (Builtin.append_ #[23, 23] ty #[.slice base sLen sCap, x]).run Tryd.prog w = .ok (.slice base sLen sCap) w := by
  cases base <;> simp [Builtin.append_, run_underlying Tryd.underlying23, sizeOf, typeInfo, hi, hs.len, hle, hs.cells, storeCells]
/-- 'append(l, m...)', l of the call's own. -/
theorem run_appWL {w : World} (B : Nat) (ty : TypeId) (ao : Option Addr) (n c : Nat) (l : List Wd) (hm : WdMine B w ao n c l) (bo : Option Addr) (m d : Nat) (l' : List Wd) (hx : Wds w bo m d l') (hbound : n + m ≤ 100000000) (hB : B ≤ w.heap.size) :
    ∃ ao1 c1 w1, (Builtin.append_ #[23, 23] ty #[.slice ao n c, .slice bo m d]).run Tryd.prog w = .ok (.slice ao1 (n + m) c1) w1 ∧ WdMine B w1 ao1 (n + m) c1 (l ++ l') ∧ Below B w w1 ∧ ∀ g, g < w.heap.size → ¬ ob ao g → w1.heap[g]? = w.heap[g]? := by
  obtain ⟨i0, hi, hz0, hz1, hz2⟩ := info_parts infoW
  have hlen := hm.len
  have hlen' := hx.len
  cases bo with
  | none =>
    have hd := hx.nil rfl
    have hmd := hx.le
    have h0 : m = 0 := by omega
    subst h0
    have hl : l' = [] := List.eq_nil_of_length_eq_zero hlen'
    subst hl
    refine ⟨ao, c, w, append_nil0 w ty i0 hi ao n c hm.ss.le _ (Src.ofNil w Tryd.underlying23 d), by simpa using hm, Below.refl _ _, fun _ _ _ => rfl⟩
  | some a =>
    obtain ⟨v', w', hr, hown, hgrow, hnil, hsrc⟩ := run_append_own_at (P := Tryd.prog) w B 23 ty 33 i0 (.agg (wdC wd0)) 3 32 Tryd.underlying23 hi hz0 hz1 hz2 rfl (by decide) _ _ _ hm.own a m d (flatW l') (by rw [flatW_len, hlen']) hx.cells (flatW_ones l') (by unfold maxLen; omega) (by omega) hB
    rw [← flatW_two] at hown
    have hex : ∃ ao1 c1, v' = .slice ao1 (n + m) c1 := by
      rcases hown.2 with ⟨hv, h0⟩ | ⟨g, cap, cur, hv, _⟩
      · exact ⟨none, 0, by rw [h0]; exact hv⟩
      · exact ⟨_, _, hv⟩
    obtain ⟨ao1, c1, rfl⟩ := hex
    exact ⟨ao1, c1, w', hr, ⟨by simp [hlen, hlen'], hown⟩, (Below.refl B w).grown hgrow hB (fun k hk => (hm.own.lt k hk).1), fun g hg hn => grown_at hgrow hg hn⟩
theorem wpList_appWL {ops : Array Oper} {rest : List Oper} {o : Oper} {a : Act} {w : World} {Q : Exit → Act → World → Prop} (hgd : o.guard = none) (s x : Operand)
    (ho : o.op = .call { callee := .builtin .append, args := #[s, x], argTypes := #[23, 23] })
    (B : Nat) (ao : Option Addr) (n c : Nat) (l : List Wd) (hs : a.eval s = .slice ao n c) (hm : WdMine B w ao n c l)
    (bo : Option Addr) (m d : Nat) (l' : List Wd) (hx : a.eval x = .slice bo m d) (hW : Wds w bo m d l') (N : Nat) (hN : n + m = N) (LL : List Wd) (hL : l ++ l' = LL) (hbound : N ≤ 100000000) (hB : B ≤ w.heap.size)
    (h : ∀ ao1 c1 w1, WdMine B w1 ao1 N c1 LL → Below B w w1 → wpList Tryd.prog ops Q rest (a.put o.dst (.slice ao1 N c1)) w1) :
    wpList Tryd.prog ops Q (o :: rest) a w := by
  subst hN
  subst hL
  obtain ⟨ao1, c1, w1, hr, h1, h2, h3⟩ := run_appWL B o.type ao n c l hm bo m d l' hW hbound hB
  refine wpList_plain hgd fun K hK => ?_
  unfold Oper.wp execOp
  simp only [ho, resolve, invoke, builtin, Sem.run_bind, Sem.run_pure, Result.andThen_ok, List.map_toArray, List.map_cons, List.map_nil, hs, hx, hr]
  exact hK _ _ (h ao1 c1 w1 h1 h2)
theorem ne_same (f : Ft) (w : World) : (binOp .neq 26 (.agg (ftC f)) (.agg (ftC f))).run Tryd.prog w = .ok (.bool false) w := by
  have h : (binOp .eql 26 (.agg (ftC f)) (.agg (ftC f))).run Tryd.prog w = .ok (.bool true) w := by
    obtain ⟨e, a⟩ := f
    unfold ftC
    rw [run_eql_struct, run_equalIn_agg w 9999 _ _ _ (by kernel_rfl) (by kernel_rfl)]
    simp [go_sem, Tryd.underlying26]
  rw [run_eql_struct] at h
  rw [run_neq_struct]
  generalize (Op.equalIn 10000 26 (.agg (ftC f)) (.agg (ftC f))).run Tryd.prog w = X at h ⊢
  cases X <;> simp_all [Result.andThen]
theorem Ss.get {w : World} {ao : Option Addr} {n c : Nat} {ss : List ByteArray} (h : Ss w ao n c ss) {i : Nat} (hi : i < n) : ss[i]? = some (ss.getD i ByteArray.empty) := by
  have hl := h.len
  rw [List.getD_eq_getElem?_getD, List.getElem?_eq_getElem (by omega), Option.getD_some]
theorem tm_ob {B : Nat} {w : World} {ao : Option Addr} {n c : Nat} {ss : List ByteArray} (h : TMine B w ao n c ss) {k : Nat} (hk : ob ao k) : B ≤ k ∧ k < w.heap.size := by
  obtain ⟨a, rfl, rfl⟩ := hk
  rcases h.own.2 with ⟨hv, _⟩ | ⟨g, cap, cur, hv, hg, hh, _⟩
  · simp at hv
  · simp only [Value.slice.injEq, Option.some.injEq] at hv
    obtain ⟨rfl, _⟩ := hv
    exact ⟨hg, (Array.getElem?_eq_some_iff.1 hh).1⟩
theorem tmk_gb {B g : Nat} {w w' : World} {ao : Option Addr} {n c : Nat} {ss : List ByteArray} (h : TMine B w ao n c ss) (hb : Gb g w w') (hl : ∀ k, ob ao k → k < g) : TMine B w' ao n c ss := by
  refine ⟨h.len, ⟨h.own.1, ?_⟩, h.fit⟩
  rcases h.own.2 with hv | ⟨q, cap, cur, hv, hg, hh, r⟩
  · exact .inl hv
  · have hq := hv
    simp only [Value.slice.injEq] at hq
    obtain ⟨rfl, _, _⟩ := hq
    exact .inr ⟨q, cap, cur, hv, hg, by rw [hb.block q (Array.getElem?_eq_some_iff.1 hh).1 (Nat.ne_of_lt (hl q ⟨_, rfl, rfl⟩))]; exact hh, r⟩
theorem row_keys {AA WW : List Wd} (h : AA.map stp = WW.map stp) : sw false AA WW = true := by
  have e : ∀ l : List Wd, l.map (nrm false) = (l.map stp).map (fun p => (⟨p.1, p.2, 0⟩ : Wd)) := by
    intro l
    rw [List.map_map]
    rfl
  unfold sw
  rw [e, e, h]
  simp
theorem flt_take {l : List Wd} {j : Nat} {x : Wd} (hx : l[j]? = some x) : (l.take (j + 1)).filter (fun x => !isSm x) = (l.take j).filter (fun x => !isSm x) ++ (if isSm x then [] else [x]) := by
  rw [List.take_add_one, hx, List.filter_append]
  congr 1
  cases h : isSm x <;> simp [h]

set_option maxHeartbeats 16000000 in
set_option maxRecDepth 20000 in
theorem lawScSplit (s : ByteArray) (w : World) (hV : Vr w) (hss : s.size ≤ 9223372036854775807) :
    Calls Tryd.prog 3 #[.string s] w fun e w' => e = .returned (.bool true) ∧ Below w.heap.size w w' := by
  have HV := hide hV
  have L7 := hide (lives_any w hV)
  clear hV
  by_cases hbig : 2000 < s.size
  · have hb : (2000 : Int) < (s.size : Int) := by omega
    clear hbig
    go_enter Tryd.func3, Tryd.ntmps3
    go_wp2_with (go_at_call 4; refine (unhide L7).mono ?_; rintro e w1 ⟨rfl, b1⟩)
    go_ret
    exact ⟨rfl, b1⟩
  have hb : ¬ (2000 : Int) < (s.size : Int) := by omega
  obtain ⟨gs, g1, g2, g3⟩ := spW_all (bl s)
  have hcn := salW_cnt (bl s) (by rw [bl_len]; omega)
  have hpm := spW_mem (bl s)
  rw [bl_len] at hcn hpm
  have CA := hide (fun wx (h : Vr wx) => all_any s wx h)
  have CQ := hide (fun (p : ByteArray) wx (h : Vr wx) => all_any p wx h)
  have CP := hide (fun wx (h : Vr wx) => split_any s wx h)
  obtain ⟨⟨L, f⟩, hL⟩ : ∃ R, R = alW (bl s) := ⟨_, rfl⟩
  obtain ⟨⟨P, f2⟩, hP⟩ : ∃ R, R = spW (bl s) := ⟨_, rfl⟩
  rw [← hL] at CA hcn g2 g3
  rw [← hP] at CP hpm g1 g3
  simp only at hcn hpm g1 g2 g3
  rw [g3] at CP
  clear g3
  have hns := ne_same f
  have HPM := hide hpm
  have HG1 := hide g1
  have HG2 := hide g2
  have HCN := hide (show L.length ≤ 2000 by omega)
  have HFL := hide (show gs.flatten.length ≤ 2000 by
    rw [g2]
    unfold noSm
    rw [List.length_map]
    exact Nat.le_trans (List.length_filter_le _ _) (by omega))
  have HPL := hide (pcs_len g1)
  clear hL hP hbig hcn hpm g1 g2
  go_enter Tryd.func3, Tryd.ntmps3
  go_wp2_with (first | (go_at_call 4; refine (unhide L7).mono ?_; rintro e w1 ⟨rfl, b1⟩) | (go_at_call 5; (with_reducible refine (unhide CA w1 ((unhide HV).later b1)).mono ?_); rintro e w2 ⟨ao, n, c, rfl, m2, q2⟩; have b2 := bt b1 q2) | (with_reducible show wpList Tryd.prog _ _ (Oper.mk _ (Op.alloc 26) _ _ _ none :: _) _ _; refine wpList_alT rfl rfl ?_; intro w6 f6 q6 t6; clear t6; have f6' := f5.later q6; have m6 := m5.later q6; have p6 := p5.later q6; have b6 := bt b5 q6) | (with_reducible show wpList Tryd.prog _ _ (Oper.mk _ (Op.alloc 26) _ _ _ none :: _) _ _; refine wpList_alT rfl rfl ?_; intro w3 f3 q3 t3; clear t3; have m3 := m2.later q3; have b3 := bt b2 q3) | (with_reducible show wpList Tryd.prog _ _ (Oper.mk _ (Op.store 26 _ _) _ _ _ none :: _) _ _; refine wpList_stT rfl (.tmp 4) _ rfl w2.heap.size f ⟨0, 0⟩ (by simp [Act.eval, Act.put]) (by simp [Act.eval, Act.put]) f3 ?_; intro w4 f4 g4 t4; clear t4; have m4 := m3.keep (fun k hk => g4.block k (m3.ob hk).2 (Nat.ne_of_lt (m2.ob hk).2)); have b4 := below_gb b3 g4 b2.size) | (go_at_call 6; (with_reducible refine (unhide CP w4 ((unhide HV).later b4)).mono ?_); rintro e w5 ⟨po, pn, pc, rfl, p5, q5⟩; have b5 := bt b4 q5; have f5 := f4.later q5; have m5 := m4.later q5) | (with_reducible show wpList Tryd.prog _ _ (Oper.mk _ (Op.store 26 _ _) _ _ _ none :: _) _ _; refine wpList_stT rfl (.tmp 6) _ rfl w5.heap.size f ⟨0, 0⟩ (by simp [Act.eval, Act.put]) (by simp [Act.eval, Act.put]) f6 ?_; intro w7 f7 g7 t7; clear t7; have f7' := f6'.gb g7 (Nat.ne_of_lt f5.lt); have m7 := m6.keep (fun k hk => g7.block k (m6.ob hk).2 (Nat.ne_of_lt (m5.ob hk).2)); have p7 := tmk_gb p6 g7 (fun k hk => (tm_ob p5 hk).2); have b7 := below_gb b6 g7 b5.size) | (with_reducible show wpList Tryd.prog _ _ (Oper.mk _ (Op.load 26 _) _ _ _ none :: _) _ _; refine wpList_ldT rfl (.tmp 4) rfl w2.heap.size f (by simp [Act.eval, Act.put]) f7' ?_) | (with_reducible show wpList Tryd.prog _ _ (Oper.mk _ (Op.load 26 _) _ _ _ none :: _) _ _; refine wpList_ldT rfl (.tmp 6) rfl w5.heap.size f (by simp [Act.eval, Act.put]) f7 ?_))
  have M7 := hide m7
  have P7 := hide p7
  have hln := hide m7.len
  have hn2 : n ≤ 2000 := by rw [← unhide hln]; exact unhide HCN
  have hs7 := b7.size
  have hnc := m7.ss.le
  have hcm := m7.ss.max
  clear m2 m3 m4 m5 m6 m7 p5 p6 p7 f3 f4 f5 f6 f6' f7 f7' q2 q3 q5 q6 g4 g7 b1 b2 b3 b4 b5 b6
  go_loopw [9, 8] (fun iv ov wr => ∃ (j : Nat) (bo : Option Addr) (m d : Nat), j ≤ n ∧ m ≤ j ∧ iv = .int .i64 (j : Int) ∧ ov = .slice bo m d ∧ WdMine w7.heap.size wr bo m d ((L.take j).filter fun x => !isSm x) ∧ Below w7.heap.size w7 wr) (fun iv _ _ => n - (intOf iv).toNat)
  case atStart => exact ⟨0, .none, 0, 0, by omega, by omega, rfl, rfl, by simpa using WdMine.nought _ _, Below.refl _ _⟩
  case round =>
    obtain ⟨j, bo, m, d, hj, hm, rfl, rfl, hM, hbr⟩ := hrel
    have HM := hide hM
    have hsz := hbr.size
    clear hM
    by_cases hlt : j < n
    · have hlt2 : ((j : Nat) : Int) < (n : Int) := by omega
      obtain ⟨x, hx⟩ : ∃ p, L[j]? = some p := ⟨_, List.getElem?_eq_getElem (by rw [unhide hln]; exact hlt)⟩
      obtain ⟨b2', o2, i2, a2⟩ := ((unhide M7).ss.later hbr).idx hx (j : Int) rfl
      have HT := hide (flt_take hx)
      obtain ⟨xk, xt, xa⟩ := x
      obtain ⟨p0, p1, p2⟩ := atW_c a2
      simp only at p0 p1 p2
      clear a2 hx
      have eq59 : (ba [59] : ByteArray) = ⟨#[59]⟩ := rfl
      by_cases h5 : xk = 5
      · subst h5
        by_cases h59 : xt = ⟨#[59]⟩
        · have e9 : (xt.toList == [59]) = true := by rw [h59]; decide +kernel
          have e8 : (xt.toList != [59]) = false := by rw [bne, e9]; rfl
          have HS := hide (show isSm ⟨5, xt, xa⟩ = true by simp [isSm, h59, eq59])
          clear h59 eq59
          go_wp2_with fail
          go_roundw
          case rel => exact ⟨j + 1, bo, m, d, by omega, by omega, by go_num, rfl, by rw [unhide HT, unhide HS]; simpa using unhide HM, hbr⟩
          case measure => simp [intOf]; omega
        · have e9 : (xt.toList == [59]) = false := by
            have h1 := str_ne h59
            rwa [show (⟨#[59]⟩ : ByteArray).toList = [59] by decide +kernel] at h1
          have e8 : (xt.toList != [59]) = true := by rw [bne, e9]; rfl
          have HS := hide (show isSm ⟨5, xt, xa⟩ = false by simp [isSm, h59, eq59])
          clear h59 eq59
          go_wp2_with (at_builtin; refine wpList_appW rfl (.tmp 51) (.tmp 56) rfl w7.heap.size bo m d _ (by simp [Act.eval, Act.put]) ((unhide HM).later (below_alloc wr _)) wr.heap.size ⟨5, xt, xa⟩ (by simp [Act.eval, Act.put]) (AtW.of_row (heap_alloc_new wr _)) (by omega) (by simp; omega) ?_; intro bo1 d1 w9 m9 b9)
          go_roundw
          case rel => exact ⟨j + 1, bo1, m + 1, d1, by omega, by omega, by go_num, rfl, by rw [unhide HT, unhide HS]; exact m9, hbr.trans (((below_alloc wr _).mono hsz).trans b9)⟩
          case measure => simp [intOf]; omega
      · have e5 : (xk != 5) = true := by simpa using h5
        have HS := hide (show isSm ⟨xk, xt, xa⟩ = false by simp [isSm, h5])
        clear h5 eq59
        go_wp2_with (at_builtin; refine wpList_appW rfl (.tmp 51) (.tmp 56) rfl w7.heap.size bo m d _ (by simp [Act.eval, Act.put]) ((unhide HM).later (below_alloc wr _)) wr.heap.size ⟨xk, xt, xa⟩ (by simp [Act.eval, Act.put]) (AtW.of_row (heap_alloc_new wr _)) (by omega) (by simp; omega) ?_; intro bo1 d1 w9 m9 b9)
        go_roundw
        case rel => exact ⟨j + 1, bo1, m + 1, d1, by omega, by omega, by go_num, rfl, by rw [unhide HT, unhide HS]; exact m9, hbr.trans (((below_alloc wr _).mono hsz).trans b9)⟩
        case measure => simp [intOf]; omega
    · have hjn : j = n := by omega
      subst hjn
      have hWW := hide (show WdMine w7.heap.size wr bo m d (L.filter fun x => !isSm x) by
        have := unhide HM
        rwa [List.take_of_length_le (by rw [unhide hln]; exact Nat.le_refl _)] at this)
      have PW := hide ((unhide P7).later hbr)
      have bW := hide (bt b7 hbr)
      have hpn := hide (unhide P7).len
      have hpc := (unhide P7).ss.le
      have hpm2 := (unhide P7).ss.max
      clear HM
      go_wp2_with fail
      obtain ⟨wS, hwS⟩ : ∃ z, z = wr := ⟨_, rfl⟩
      subst hwS
      go_loopw [10, 7] (fun iv ov wr => ∃ (i : Nat) (ao2 : Option Addr) (n2 c2 : Nat) (AA : List Wd), i ≤ pn ∧ iv = .int .i64 (i : Int) ∧ ov = .slice ao2 n2 c2 ∧ WdMine wS.heap.size wr ao2 n2 c2 AA ∧ Below wS.heap.size wS wr ∧ AA.map stp = (gs.take i).flatten) (fun iv _ _ => pn - (intOf iv).toNat)
      case atStart => exact ⟨0, .none, 0, 0, [], by omega, rfl, rfl, WdMine.nought _ _, Below.refl _ _, by simp⟩
      case round =>
        obtain ⟨i, ao2, n2, c2, AA, hi, rfl, rfl, hAA, hbi, hk⟩ := hrel
        have HAA := hide hAA
        have HK := hide hk
        have hsi := hbi.size
        have hla := hAA.len
        have hl2 : n2 ≤ 2000 := by
          rw [← hla, ← List.length_map (f := stp), hk]
          exact Nat.le_trans (flat_take gs i) (unhide HFL)
        clear hAA hk hla
        by_cases hlti : i < pn
        · have hlti2 : ((i : Nat) : Int) < (pn : Int) := by omega
          obtain ⟨b3, o3, i3, c3⟩ := ((unhide PW).ss.later hbi).idx hlti (i : Int) rfl
          have hp := (unhide PW).ss.get hlti
          generalize P.getD i ByteArray.empty = p at *
          obtain ⟨g, hg, hlx, hgn⟩ := pcs_at (unhide HG1) i p hp
          have hps := unhide HPM p (List.mem_of_getElem? hp)
          obtain ⟨h1, h2⟩ := lx_alW (by rw [bl_len]; omega) hlx
          have CQ2 := hide (fun wx (h : Vr wx) => unhide CQ p wx h)
          obtain ⟨⟨M, f9⟩, hM9⟩ : ∃ R, R = alW (bl p) := ⟨_, rfl⟩
          rw [← hM9] at CQ2 h1 h2
          simp only at h1 h2
          subst h1
          have hne0 := ne_ft ok0
          simp only [decide_true, Bool.not_true] at hne0
          have hkn := hide (show (AA ++ M).map stp = (gs.take (i + 1)).flatten by
            rw [List.map_append, unhide HK, h2, List.take_add_one, hg, List.flatten_append]
            simp)
          have hml : M.length ≤ 2000 := by
            have h3 := flat_take gs (i + 1)
            rw [← unhide hkn, List.length_map, List.length_append] at h3
            have := unhide HFL
            omega
          have hm0 : M ≠ [] := by
            intro e
            rw [e] at h2
            exact hgn h2.symm
          have hmp : 0 < M.length := List.length_pos_iff.2 hm0
          clear hM9 hlx hgn hg h2 hm0
          go_wp2_with (first | (go_at_call 5; (with_reducible refine (unhide CQ2 wr ((unhide HV).later (bt (unhide bW) hbi))).mono ?_); rintro e wA ⟨mo, mn, mc, rfl, hm1, qA⟩; have hmn : M.length = mn := hm1.len; have e77 : ((mn : Int) == 0) = false := (by rw [beq_eq_false_iff_ne]; omega)) | (with_reducible show wpList Tryd.prog _ _ (Oper.mk _ (Op.alloc 26) _ _ _ none :: _) _ _; refine wpList_alT rfl rfl ?_; intro wB fB qB tB; clear tB; have hm2 := hm1.later qB; have bB := bt qA qB) | (with_reducible show wpList Tryd.prog _ _ (Oper.mk _ (Op.store 26 _ _) _ _ _ none :: _) _ _; refine wpList_stT rfl (.tmp 12) _ rfl wA.heap.size ok0 ⟨0, 0⟩ (by simp [Act.eval, Act.put]) (by simp [Act.eval, Act.put]) fB ?_; intro wC fC gC tC; clear tC; have hm3 := hm2.keep (fun k hk => gC.block k (hm2.ob hk).2 (Nat.ne_of_lt (hm1.ob hk).2)); have bC := below_gb bB gC qA.size) | (with_reducible show wpList Tryd.prog _ _ (Oper.mk _ (Op.load 26 _) _ _ _ none :: _) _ _; refine wpList_ldT rfl (.tmp 12) rfl wA.heap.size ok0 (by simp [Act.eval, Act.put]) fC ?_) | (at_builtin; refine wpList_appWL rfl (.tmp 80) (.tmp 81) rfl wS.heap.size ao2 n2 c2 AA (by simp [Act.eval, Act.put]) ((unhide HAA).later bC) mo mn mc M (by simp [Act.eval, Act.put]) hm3.ss (n2 + mn) rfl (AA ++ M) rfl (by omega) (Nat.le_trans hsi bC.size) ?_; intro ao3 c3' wD mD bD))
          go_roundw
          case rel => exact ⟨i + 1, ao3, n2 + mn, c3', AA ++ M, by omega, by go_num, rfl, mD, hbi.trans ((bC.mono hsi).trans bD), unhide hkn⟩
          case measure => simp [intOf]; omega
        · have hin : i = pn := by omega
          subst hin
          have hR := row_keys (AA := AA) (WW := L.filter fun x => !isSm x) (by
            rw [unhide HK, List.take_of_length_le (by rw [← unhide HPL, unhide hpn]; exact Nat.le_refl _), unhide HG2]
            rfl)
          have CS := hide (sameWords_any false ao2 n2 c2 AA bo m d (L.filter fun x => !isSm x) wr (unhide HAA).ss ((unhide hWW).ss.later hbi))
          rw [hR] at CS
          clear hR
          go_wp2_with (go_at_call 7; refine (unhide CS).mono ?_; rintro e wZ ⟨rfl, qZ⟩)
          go_ret
          exact ⟨rfl, bt (bt (unhide bW) hbi) qZ⟩

end Go.Proofs.YtjbgkgkgpigikaaDoor
