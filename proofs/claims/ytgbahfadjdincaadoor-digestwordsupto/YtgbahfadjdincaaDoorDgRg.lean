/-
  What the document's own functions row and rows of layer 21 return; several words appended to a row of the call's own. Conditions: the slices can be read; at most 100,000 words.
-/
import Derived.Test.YtgbahfadjdincaaDoorDgRf
import Derived.Deep.AppendSrc
import Derived.Deep.RegionLaw
namespace Go.Proofs.YtgbahfadjdincaaDoor
open Go.RowKit
set_option linter.unusedVariables false
set_option linter.unusedSimpArgs false


theorem flatW_two (l m : List Wd) : flatW (l ++ m) = flatW l ++ flatW m := by simp [flatW]
theorem flatW_ones (l : List Wd) : ∀ u ∈ flatW l, u.oneCell' = true := by
  intro u hu
  obtain ⟨x, _, hx⟩ := List.mem_flatMap.1 hu
  exact (Array.all_eq_true_iff_forall_mem.1 (wdc_one x)) u (by simpa using hx)
theorem Wds.cells {w : World} {a : Addr} {m d : Nat} {l : List Wd} (h : Wds w (some a) m d l) : ∀ j u, (flatW l)[j]? = some u → w.cell? (a.add j) = some u := by
  intro j u hu
  have hj := (List.getElem?_eq_some_iff.1 hu).1
  rw [flatW_len] at hj
  rcases h.at' with h0 | ⟨b, off, e, hc⟩
  · have := h.len
    omega
  · cases e
    have hi : j / 3 < l.length := by omega
    have hr : j % 3 < 3 := Nat.mod_lt _ (by decide)
    have h1 := hc (j / 3) _ (List.getElem?_eq_getElem hi) (j % 3) hr
    have h2 := flatW_at l (j / 3) (j % 3) _ (List.getElem?_eq_getElem hi) hr
    rw [show j / 3 * 3 + j % 3 = j by omega] at h2
    rw [Addr.add_lit, show off + j = off + j / 3 * 3 + j % 3 by omega, h1, ← h2, hu]
theorem append_nil0 (w : World) (ty : TypeId) (i : TypeInfo) (hi : Tryd.prog.info? 26 = some i) (base : Option Addr) (sLen sCap : Nat) (hle : sLen ≤ sCap) (x : Value) (hs : Src Tryd.prog i.size 24 x 0 [] w) :
    (Builtin.append_ #[24, 24] ty #[.slice base sLen sCap, x]).run Tryd.prog w = .ok (.slice base sLen sCap) w := by
  cases base <;> simp [Builtin.append_, run_underlying Tryd.underlying24, sizeOf, typeInfo, hi, hs.len, hle, hs.cells, storeCells]
/-- 'append(l, m...)', l of the call's own. -/
theorem run_appWL {w : World} (B : Nat) (ty : TypeId) (ao : Option Addr) (n c : Nat) (l : List Wd) (hm : WdMine B w ao n c l) (bo : Option Addr) (m d : Nat) (l' : List Wd) (hx : Wds w bo m d l') (hbound : n + m ≤ 100000000) (hB : B ≤ w.heap.size) :
    ∃ ao1 c1 w1, (Builtin.append_ #[24, 24] ty #[.slice ao n c, .slice bo m d]).run Tryd.prog w = .ok (.slice ao1 (n + m) c1) w1 ∧ WdMine B w1 ao1 (n + m) c1 (l ++ l') ∧ Below B w w1 ∧ ∀ g, g < w.heap.size → ¬ ob ao g → w1.heap[g]? = w.heap[g]? := by
  obtain ⟨i0, hi, hz0, hz1, hz2⟩ := info_parts infoW
  have hlen := hm.len
  have hlen' := hx.len
  cases bo with
  | none =>
    have hd := hx.nil rfl
    have hmd := hx.le
    have h0 : m = 0 := by omega
    subst h0
    have hl : l' = [] := List.eq_nil_of_length_eq_zero hlen'
    subst hl
    refine ⟨ao, c, w, append_nil0 w ty i0 hi ao n c hm.ss.le _ (Src.ofNil w Tryd.underlying24 d), by simpa using hm, Below.refl _ _, fun _ _ _ => rfl⟩
  | some a =>
    obtain ⟨v', w', hr, hown, hgrow, hnil, hsrc⟩ := run_append_own_at (P := Tryd.prog) w B 24 ty 26 i0 (.agg (wdC wd0)) 3 32 Tryd.underlying24 hi hz0 hz1 hz2 rfl (by decide) _ _ _ hm.own a m d (flatW l') (by rw [flatW_len, hlen']) hx.cells (flatW_ones l') (by unfold maxLen; omega) (by omega) hB
    rw [← flatW_two] at hown
    have hex : ∃ ao1 c1, v' = .slice ao1 (n + m) c1 := by
      rcases hown.2 with ⟨hv, h0⟩ | ⟨g, cap, cur, hv, _⟩
      · exact ⟨none, 0, by rw [h0]; exact hv⟩
      · exact ⟨_, _, hv⟩
    obtain ⟨ao1, c1, rfl⟩ := hex
    exact ⟨ao1, c1, w', hr, ⟨by simp [hlen, hlen'], hown⟩, (Below.refl B w).grown hgrow hB (fun k hk => (hm.own.lt k hk).1), fun g hg hn => grown_at hgrow hg hn⟩
theorem step_appWL {ops : Array Oper} {o : Oper} {a : Act} {w : World} {K : Act → World → Prop} {Q : Exit → Act → World → Prop} {G : Prop} (hgd : o.guard = none) (s x : Operand)
    (ho : o.op = .call { callee := .builtin .append, args := #[s, x], argTypes := #[24, 24] })
    (B : Nat) (ao : Option Addr) (n c : Nat) (l : List Wd) (hs : a.eval s = .slice ao n c) (hm : WdMine B w ao n c l)
    (bo : Option Addr) (m d : Nat) (l' : List Wd) (hx : a.eval x = .slice bo m d) (hW : Wds w bo m d l') (N : Nat) (hN : n + m = N) (LL : List Wd) (hL : l ++ l' = LL) (hbound : N ≤ 100000000) (hB : B ≤ w.heap.size)
    (h : ∀ ao1 c1 w1, WdMine B w1 ao1 N c1 LL → Below B w w1 → (∀ g, g < w.heap.size → ¬ ob ao g → w1.heap[g]? = w.heap[g]?) → K (a.put o.dst (.slice ao1 N c1)) w1) :
    if Region.wanted o (yielded ops a.tmps) = true then Oper.wp Tryd.prog o a w K Q else G := by
  subst hN
  subst hL
  have hw : Region.wanted o (yielded ops a.tmps) = true := by simp [Region.wanted, hgd]
  rw [if_pos hw]
  obtain ⟨ao1, c1, w1, hr, h1, h2, h3⟩ := run_appWL B o.type ao n c l hm bo m d l' hW hbound hB
  unfold Oper.wp execOp
  simp only [ho, resolve, invoke, builtin, Sem.run_bind, Sem.run_pure, Result.andThen_ok, List.map_toArray, List.map_cons, List.map_nil, hs, hx, hr]
  exact h ao1 c1 w1 h1 h2 h3

theorem wpList_appWL {ops : Array Oper} {rest : List Oper} {o : Oper} {a : Act} {w : World} {Q : Exit → Act → World → Prop} (hgd : o.guard = none) (s x : Operand)
    (ho : o.op = .call { callee := .builtin .append, args := #[s, x], argTypes := #[24, 24] })
    (B : Nat) (ao : Option Addr) (n c : Nat) (l : List Wd) (hs : a.eval s = .slice ao n c) (hm : WdMine B w ao n c l)
    (bo : Option Addr) (m d : Nat) (l' : List Wd) (hx : a.eval x = .slice bo m d) (hW : Wds w bo m d l') (N : Nat) (hN : n + m = N) (LL : List Wd) (hL : l ++ l' = LL) (hbound : N ≤ 100000000) (hB : B ≤ w.heap.size)
    (h : ∀ ao1 c1 w1, WdMine B w1 ao1 N c1 LL → Below B w w1 → wpList Tryd.prog ops Q rest (a.put o.dst (.slice ao1 N c1)) w1) :
    wpList Tryd.prog ops Q (o :: rest) a w := by
  subst hN
  subst hL
  obtain ⟨ao1, c1, w1, hr, h1, h2, h3⟩ := run_appWL B o.type ao n c l hm bo m d l' hW hbound hB
  refine wpList_plain hgd fun K hK => ?_
  unfold Oper.wp execOp
  simp only [ho, resolve, invoke, builtin, Sem.run_bind, Sem.run_pure, Result.andThen_ok, List.map_toArray, List.map_cons, List.map_nil, hs, hx, hr]
  exact hK _ _ (h ao1 c1 w1 h1 h2)
theorem bl_alloc {B : Nat} {w x : World} {o : Obj} (h : Below B w x) (hB : B ≤ w.heap.size) : Below B w (x.alloc o) := h.trans ((below_alloc x o).mono (Nat.le_trans hB h.size))
/-- Behind the sign ( of a row of parameters: how many words up to its end; 0, if it is none. -/
def rwS : List Wd → Nat
  | y :: z :: r => if y.k = 8 then (if dis dCl z then 2 else if dis dCo z then (if rwS r = 0 then 0 else rwS r + 2) else 0) else 0
  | _ => 0
theorem dis_qu (x : Wd) : dis dQu x = decide (x.k = 8) := by simp [dis]
theorem rwS_one (y : Wd) : rwS [y] = 0 := rfl
theorem rwS_not {y : Wd} {t : List Wd} (h : ¬ y.k = 8) : rwS (y :: t) = 0 := by
  cases t with
  | nil => rfl
  | cons z r => unfold rwS; rw [if_neg h]
theorem rwS_eq : ∀ (m : Nat) (y : Wd) (t : List Wd), t.length ≤ m → y.k = 8 → rwS (y :: t) = if dbg (t.drop (dcn t)) [dCl] then 2 + dcn t else 0
  | _, y, [], _, hy => by simp [rwS, dcn, dbg]
  | 0, _, _ :: _, h, _ => by simp at h
  | m + 1, y, z :: t', h, hy => by
    unfold rwS
    rw [if_pos hy]
    cases hc : dis dCl z with
    | true =>
      rw [dcn_no (dis_ne hc dne.2.2.2.2.2.2.2.2.2.1)]
      simp [dbg, hc]
    | false =>
      simp only [Bool.false_eq_true, if_false]
      cases hk : dis dCo z with
      | false =>
        rw [dcn_no hk]
        simp [dbg, hc]
      | true =>
        simp only [if_true]
        rcases t' with _ | ⟨y', t''⟩
        · simp [rwS, dcn, dbg, hc]
        · by_cases h8 : y'.k = 8
          · have e : dcn (z :: y' :: t'') = dcn t'' + 2 := by simp [dcn, hk, dis_qu, h8]
            have ih := rwS_eq m y' t'' (by simp at h; omega) h8
            rw [ih, e]
            have e2 : (z :: y' :: t'').drop (dcn t'' + 2) = t''.drop (dcn t'') := rfl
            rw [e2]
            cases hb : dbg (t''.drop (dcn t'')) [dCl] with
            | true =>
              simp only [if_true]
              rw [if_neg (by omega)]
              omega
            | false => simp
          · have e : dcn (z :: y' :: t'') = 0 := by simp [dcn, dis_qu, h8]
            rw [e, rwS_not h8]
            simp [dbg, hc]
theorem drw_rwS (x : Wd) (r : List Wd) : drw (x :: r) = if dis dOp x then (if rwS r = 0 then 0 else rwS r + 1) else 0 := by
  cases hx : dis dOp x with
  | false =>
    rw [drw_no (.inl hx)]
    rfl
  | true =>
    simp only [if_true]
    cases r with
    | nil =>
      rw [drw_no (.inr rfl)]
      rfl
    | cons y t =>
      by_cases h8 : y.k = 8
      · have hq : dbg (x :: y :: t) [dOp, dQu] = true := by simp [dbg, hx, dis_qu, h8]
        have e2 : (x :: y :: t).drop (2 + dcn ((x :: y :: t).drop 2)) = t.drop (dcn t) := by
          show (x :: y :: t).drop (2 + dcn t) = _
          rw [show 2 + dcn t = dcn t + 2 by omega]
          rfl
        unfold drw
        rw [if_pos hq, e2, rwS_eq t.length y t (Nat.le_refl _) h8]
        show (if dbg (t.drop (dcn t)) [dCl] = true then 3 + dcn t else 0) = _
        cases hb : dbg (t.drop (dcn t)) [dCl] with
        | true =>
          simp only [if_true]
          rw [if_neg (by omega)]
          omega
        | false => simp
      · rw [rwS_not h8, drw_no (.inr (by simp [dbg, dis_qu, h8]))]
        rfl
theorem rwS_len : ∀ l : List Wd, rwS l ≤ l.length
  | [] => Nat.le_refl _
  | [_] => Nat.zero_le _
  | y :: z :: r => by
    have := rwS_len r
    unfold rwS
    split
    · split
      · simp
      · split
        · split <;> simp <;> omega
        · simp
    · simp
theorem rwS_two : ∀ l : List Wd, rwS l ≠ 0 → 2 ≤ rwS l
  | [], h => absurd rfl h
  | [_], h => absurd rfl h
  | y :: z :: r, h => by
    unfold rwS at h ⊢
    split
    · split
      · exact Nat.le_refl _
      · split
        · split
          · simp_all
          · omega
        · simp_all
    · simp_all
theorem drw_len (l : List Wd) : drw l ≤ l.length := by
  cases l with
  | nil => exact Nat.zero_le _
  | cons x r =>
    rw [drw_rwS]
    have := rwS_len r
    split
    · split <;> simp <;> omega
    · exact Nat.zero_le _
theorem drw_three {l : List Wd} (h : drw l ≠ 0) : 3 ≤ drw l := by
  cases l with
  | nil => exact absurd rfl h
  | cons x r =>
    rw [drw_rwS] at h ⊢
    have := rwS_two r
    split at h
    · split at h
      · exact absurd rfl h
      · rename_i h1 h2
        rw [if_pos h1, if_neg h2]
        have := this h2
        omega
    · exact absurd rfl h


set_option maxHeartbeats 8000000 in
set_option maxRecDepth 20000 in
theorem rrow_any (ao : Option Addr) (n c : Nat) (l : List Wd) (j : Nat) (w : World) (hW : Wds w ao n c l) (hn : n ≤ 100000) (hj : j < n) :
    Calls Tryd.prog 36 #[.slice ao n c, .int .i64 (j : Int)] w fun e w' => e = .returned (.int .i64 ((j + drw (l.drop j) : Nat) : Int)) ∧ Below w.heap.size w w' := by
  have hle := hW.le
  have hmx := hW.max
  have hln := hide hW.len
  have HW := hide hW
  obtain ⟨x, hx⟩ : ∃ p, l[j]? = some p := ⟨_, List.getElem?_eq_getElem (by rw [unhide hln]; exact hj)⟩
  obtain ⟨b1, o1, i1, a1⟩ := hW.idx hx (j : Int) rfl
  have hd := kdrop_cons hx
  rw [hd, drw_rwS]
  obtain ⟨xk, xt, xa⟩ := x
  obtain ⟨XO, hXO⟩ : ∃ A, dis dOp ⟨xk, xt, xa⟩ = A := ⟨_, rfl⟩
  rw [hXO]
  have Co := hide (fun wx => rs_40 xk xt xa wx XO hXO)
  have u0 := a1.k
  have u1 := a1.t
  have u2 := a1.a
  simp only at u0 u1 u2
  have hj2 : ((j : Nat) : Int) < (n : Int) := by omega
  clear hW a1 hx hd hXO
  cases XO with
  | false =>
    simp only [Bool.false_eq_true, if_false, Nat.add_zero]
    go_enter Tryd.func36, Tryd.ntmps36
    go_wp2_with (go_at_call 35; (with_reducible refine (unhide Co w).mono ?_); rintro e w1 ⟨rfl, b1⟩)
    go_ret
    exact ⟨rfl, b1⟩
  | true =>
    simp only [if_true]
    obtain ⟨E, hE⟩ : ∃ E, E = j + (if rwS (l.drop (j + 1)) = 0 then 0 else rwS (l.drop (j + 1)) + 1) := ⟨_, rfl⟩
    rw [← hE]
    have HE := hide (show E = if rwS (l.drop (j + 1)) = 0 then j else (j + 1) + rwS (l.drop (j + 1)) by
      rw [hE]
      split <;> omega)
    clear hE
    go_enter Tryd.func36, Tryd.ntmps36
    go_wp2_with (go_at_call 35; (with_reducible refine (unhide Co w).mono ?_); rintro e w1 ⟨rfl, q1⟩)
    go_loopw [5] (fun iv wr => ∃ (i : Nat), i ≤ n ∧ iv = .int .i64 (i : Int) ∧ Below w.heap.size w wr ∧ E = if rwS (l.drop i) = 0 then j else i + rwS (l.drop i)) (fun iv _ => n - (intOf iv).toNat)
    case atStart => exact ⟨j + 1, by omega, by go_num, q1, unhide HE⟩
    case round =>
      clear HE q1
      obtain ⟨i, hi, rfl, hb, hq⟩ := hrel
      by_cases hlt : i < n
      · have hlt2 : ((i : Nat) : Int) < (n : Int) := by omega
        obtain ⟨y, hy⟩ : ∃ p, l[i]? = some p := ⟨_, List.getElem?_eq_getElem (by rw [unhide hln]; exact hlt)⟩
        obtain ⟨b3, o3, i3, a3⟩ := ((unhide HW).later hb).idx hy (i : Int) rfl
        rw [kdrop_cons hy] at hq
        obtain ⟨yk, yt, ya⟩ := y
        have v0 := a3.k
        simp only at v0
        clear a3 hy
        by_cases h8 : yk = 8
        · subst h8
          by_cases hnx : i + 1 < n
          · have hnx2 : ((i : Nat) : Int) + 1 < (n : Int) := by omega
            have hnx3 : ¬ ((i : Nat) : Int) + 1 ≥ (n : Int) := by omega
            obtain ⟨z, hz⟩ : ∃ p, l[i + 1]? = some p := ⟨_, List.getElem?_eq_getElem (by rw [unhide hln]; exact hnx)⟩
            obtain ⟨b4, o4, i4, a4⟩ := ((unhide HW).later hb).idx hz ((i : Int) + 1) (by omega)
            rw [kdrop_cons hz] at hq
            obtain ⟨zk, zt, za⟩ := z
            have HZ := hide a4
            have s0 := a4.k
            have s1 := a4.t
            have s2 := a4.a
            simp only at s0 s1 s2
            obtain ⟨ZC, hZC⟩ : ∃ A, dis dCl ⟨zk, zt, za⟩ = A := ⟨_, rfl⟩
            obtain ⟨ZK, hZK⟩ : ∃ A, dis dCo ⟨zk, zt, za⟩ = A := ⟨_, rfl⟩
            have Cc := hide (fun wx => rs_41 zk zt za wx ZC hZC)
            have Ck := hide (fun wx => rs_44 zk zt za wx ZK hZK)
            simp only [rwS, hZC, hZK, if_true] at hq
            clear a4 hz hZC hZK
            cases ZC with
            | true =>
              simp only [if_true] at hq
              have HQ := hide (show E = i + 2 by rw [hq]; simp)
              clear hq
              go_wp2_with (go_at_call 35; (with_reducible refine (unhide Cc wr).mono ?_); rintro e w2 ⟨rfl, q2⟩; have z0 := ((unhide HZ).later q2).k; have z1 := ((unhide HZ).later q2).t; have z2 := ((unhide HZ).later q2).a; simp only at z0 z1 z2)
              go_ret
              exact ⟨by rw [unhide HQ]; rfl, belT hb q2⟩
            | false =>
              simp only [Bool.false_eq_true, if_false] at hq
              cases ZK with
              | false =>
                simp only [Bool.false_eq_true, if_false] at hq
                have HQ := hide (show E = j by rw [hq]; rfl)
                clear hq
                go_wp2_with (first | (go_at_call 35; (with_reducible refine (unhide Cc wr).mono ?_); rintro e w2 ⟨rfl, q2⟩; have z0 := ((unhide HZ).later q2).k; have z1 := ((unhide HZ).later q2).t; have z2 := ((unhide HZ).later q2).a; simp only at z0 z1 z2) | (go_at_call 35; (with_reducible refine (unhide Ck w2).mono ?_); rintro e w3 ⟨rfl, q3⟩; have q33 := belT q2 q3))
                go_ret
                exact ⟨by rw [unhide HQ]; rfl, belT hb q33⟩
              | true =>
                simp only [if_true] at hq
                have HQ := hide (show E = if rwS (l.drop (i + 2)) = 0 then j else (i + 2) + rwS (l.drop (i + 2)) by
                  rw [hq]
                  show (if (if rwS (l.drop (i + 2)) = 0 then 0 else rwS (l.drop (i + 2)) + 2) = 0 then j else _) = _
                  by_cases h0 : rwS (l.drop (i + 2)) = 0
                  · rw [if_pos h0, if_pos rfl, if_pos h0]
                  · rw [if_neg h0, if_neg (by omega), if_neg h0]
                    omega)
                clear hq
                go_wp2_with (first | (go_at_call 35; (with_reducible refine (unhide Cc wr).mono ?_); rintro e w2 ⟨rfl, q2⟩; have z0 := ((unhide HZ).later q2).k; have z1 := ((unhide HZ).later q2).t; have z2 := ((unhide HZ).later q2).a; simp only at z0 z1 z2) | (go_at_call 35; (with_reducible refine (unhide Ck w2).mono ?_); rintro e w3 ⟨rfl, q3⟩; have q33 := belT q2 q3))
                go_roundw
                case rel => exact ⟨i + 2, by omega, by go_num, belT hb q33, unhide HQ⟩
                case measure => simp [intOf]; omega
          · have hnx2 : ¬ ((i : Nat) : Int) + 1 < (n : Int) := by omega
            have hnx3 : ((i : Nat) : Int) + 1 ≥ (n : Int) := by omega
            have HQ := hide (show E = j by
              rw [hq, List.drop_of_length_le (by rw [unhide hln]; omega)]
              rfl)
            clear hq
            go_wp2_with fail
            go_ret
            exact ⟨by rw [unhide HQ]; rfl, hb⟩
        · have e8 : (yk == 8) = false := by simpa using h8
          have HQ := hide (show E = j by rw [hq, rwS_not h8]; rfl)
          clear hq h8
          go_wp2_with fail
          go_ret
          exact ⟨by rw [unhide HQ]; rfl, hb⟩
      · have hin : i = n := by omega
        subst hin
        have HQ := hide (show E = j by rw [hq, List.drop_of_length_le (by rw [unhide hln]; exact Nat.le_refl _)]; rfl)
        clear hq
        go_wp2_with fail
        go_ret
        exact ⟨by rw [unhide HQ]; rfl, hb⟩


theorem drs_at {l : List Wd} {j : Nat} {x : Wd} (h : l[j]? = some x) (h0 : drw (l.drop j) = 0) : drs 0 (l.drop j) = x :: drs 0 (l.drop (j + 1)) := by
  have e := kdrop_cons h
  rw [e] at h0 ⊢
  exact drs_stay h0
theorem drs_at3 {l : List Wd} {j D : Nat} {x y z : Wd} (h : l[j]? = some x) (hy : l[j + 1]? = some y) (hz : l[j + D - 1]? = some z) (h0 : drw (l.drop j) = D) (h3 : 3 ≤ D) : drs 0 (l.drop j) = [x, y, z] ++ drs 0 (l.drop (j + D)) := by
  have e := kdrop_cons h
  have e1 := kdrop_cons hy
  have ez := kdrop_cons hz
  rw [e] at h0 ⊢
  rw [drs_row (by rw [h0]; omega), h0]
  have t2 : (x :: l.drop (j + 1)).take 2 = [x, y] := by rw [e1]; rfl
  have t3 : ((x :: l.drop (j + 1)).drop (D - 1)).take 1 = [z] := by
    rw [← e, List.drop_drop, show j + (D - 1) = j + D - 1 by omega, ez]
    rfl
  have t4 : (x :: l.drop (j + 1)).drop D = l.drop (j + D) := by rw [← e, List.drop_drop]
  rw [t2, t3, t4]
  rfl
theorem drs_len : ∀ (m : Nat) (l : List Wd), l.length ≤ m → (drs 0 l).length ≤ l.length
  | _, [], _ => Nat.le_refl _
  | 0, _ :: _, h => by simp at h
  | m + 1, x :: r, h => by
    by_cases h0 : drw (x :: r) = 0
    · rw [drs_stay h0]
      have := drs_len m r (by simpa using h)
      simp
      exact this
    · have h3 := drw_three h0
      have hl := drw_len (x :: r)
      rw [drs_row h0]
      have := drs_len m ((x :: r).drop (drw (x :: r))) (by rw [List.length_drop]; simp at h ⊢; omega)
      rw [List.length_drop] at this
      simp only [List.length_append, List.length_take]
      omega
theorem dsg_len : ∀ (l : List Wd) (p : Option Wd), (dsg p l).length ≤ l.length
  | [], p => Nat.le_refl _
  | x :: r, p => by
    have := dsg_len r (some x)
    unfold dsg
    split <;> simp <;> omega

set_option maxHeartbeats 8000000 in
set_option maxRecDepth 20000 in
theorem rrows_any (ao : Option Addr) (n c : Nat) (l : List Wd) (w : World) (hW : Wds w ao n c l) (hn : n ≤ 100000) :
    Calls Tryd.prog 23 #[.slice ao n c] w (OutW w (drs 0 l)) := by
  have hle := hW.le
  have hmx := hW.max
  have hln := hide hW.len
  have HW := hide hW
  obtain ⟨R, hR⟩ : ∃ R, R = drs 0 l := ⟨_, rfl⟩
  rw [← hR]
  have HR := hide hR
  clear hW hR
  go_enter Tryd.func23, Tryd.ntmps23
  go_wp2_with fail
  go_loopw [4, 3] (fun iv ov wr => ∃ (j : Nat) (bo : Option Addr) (m d : Nat) (OO : List Wd), j ≤ n ∧ m ≤ j ∧ iv = .int .i64 (j : Int) ∧ ov = .slice bo m d ∧ WdMine w.heap.size wr bo m d OO ∧ Below w.heap.size w wr ∧ OO ++ drs 0 (l.drop j) = R) (fun iv _ _ => n - (intOf iv).toNat)
  case atStart => exact ⟨0, .none, 0, 0, [], by omega, by omega, rfl, rfl, WdMine.nought _ _, Below.refl _ _, by rw [List.drop_zero]; exact (unhide HR).symm⟩
  case round =>
    obtain ⟨j, bo, m, d, OO, hj, hm, rfl, rfl, hM, hb, hq⟩ := hrel
    have HM := hide hM
    have hsz := hb.size
    clear hM HR
    by_cases hlt : j < n
    · have hlt2 : ((j : Nat) : Int) < (n : Int) := by omega
      obtain ⟨x, hx⟩ : ∃ p, l[j]? = some p := ⟨_, List.getElem?_eq_getElem (by rw [unhide hln]; exact hlt)⟩
      obtain ⟨b3, o3, i3, a3⟩ := ((unhide HW).later hb).idx hx (j : Int) rfl
      have CR := hide (rrow_any ao n c l j wr ((unhide HW).later hb) hn hlt)
      have hdl := drw_len (l.drop j)
      rw [List.length_drop, unhide hln] at hdl
      by_cases h0 : drw (l.drop j) = 0
      · rw [drs_at hx h0] at hq
        rw [h0] at CR
        have HQ := hide hq
        obtain ⟨xk, xt, xa⟩ := x
        have HX := hide a3
        have e0 : ((((j + 0 : Nat) : Nat) : Int) == (j : Int)) = true := by simp
        have e1 : ((j : Int) == (j : Int)) = true := by simp
        clear a3 hx hq h0
        simp only [Nat.add_zero] at CR
        go_wp2_with (first | (go_at_call 36; refine (unhide CR).mono ?_; rintro e w2 ⟨rfl, q2⟩; have u0 := ((unhide HX).later q2).k; have u1 := ((unhide HX).later q2).t; have u2 := ((unhide HX).later q2).a; simp only at u0 u1 u2) | (at_builtin; refine wpList_appW rfl (.tmp 16) (.tmp 21) rfl w.heap.size bo m d OO (by simp [Act.eval, Act.put]) ((unhide HM).later (q2.trans ((below_alloc w2 _).mono q2.size))) w2.heap.size ⟨xk, xt, xa⟩ (by simp [Act.eval, Act.put]) (AtW.of_row (heap_alloc_new w2 _)) (by omega) (by have := q2.size; simp; omega) ?_; intro bo1 d1 w9 m9 b9))
        go_roundw
        case rel => exact ⟨j + 1, bo1, m + 1, d1, OO ++ [⟨xk, xt, xa⟩], by omega, by omega, by go_num, rfl, m9, hb.trans (((q2.trans ((below_alloc w2 _).mono q2.size)).mono hsz).trans b9), by rw [List.append_assoc]; exact unhide HQ⟩
        case measure => simp [intOf]; omega
      · have h3 := drw_three h0
        obtain ⟨D, hD⟩ : ∃ D, drw (l.drop j) = D := ⟨_, rfl⟩
        rw [hD] at CR hdl h3
        obtain ⟨y, hy⟩ : ∃ p, l[j + 1]? = some p := ⟨_, List.getElem?_eq_getElem (by rw [unhide hln]; omega)⟩
        obtain ⟨z, hz⟩ : ∃ p, l[j + D - 1]? = some p := ⟨_, List.getElem?_eq_getElem (by rw [unhide hln]; omega)⟩
        rw [drs_at3 hx hy hz hD h3] at hq
        have HQ := hide hq
        obtain ⟨b4, o4, i4, a4⟩ := ((unhide HW).later hb).idx hy ((j : Int) + 1) (by omega)
        obtain ⟨b5, o5, i5, a5⟩ := ((unhide HW).later hb).idx hz (((j + D : Nat) : Int) - 1) (by omega)
        obtain ⟨xk, xt, xa⟩ := x
        obtain ⟨yk, yt, ya⟩ := y
        obtain ⟨zk, zt, za⟩ := z
        have HX := hide a3
        have HY := hide a4
        have HZ := hide a5
        have e0 : ((((j + D : Nat) : Nat) : Int) == (j : Int)) = false := by rw [beq_eq_false_iff_ne]; omega
        have e1 : (((j : Int) + (D : Int)) == (j : Int)) = false := by rw [beq_eq_false_iff_ne]; omega
        have i5' := i5
        rw [show ((j + D : Nat) : Int) - 1 = (j : Int) + (D : Int) - 1 by omega] at i5'
        clear a3 a4 a5 hx hy hz hq h0 hD
        go_wp2_with (go_at_call 36; refine (unhide CR).mono ?_; rintro e w2 ⟨rfl, q2⟩)
        have u0 := ((unhide HX).later q2).k
        have u1 := ((unhide HX).later q2).t
        have u2 := ((unhide HX).later q2).a
        have v0 := ((unhide HY).later q2).k
        have v1 := ((unhide HY).later q2).t
        have v2 := ((unhide HY).later q2).a
        have s0 := ((unhide HZ).later q2).k
        have s1 := ((unhide HZ).later q2).t
        have s2 := ((unhide HZ).later q2).a
        simp only at u0 u1 u2 v0 v1 v2 s0 s1 s2
        have wr1 : IntKind.i64.wrap ((j : Int) + 1) = (j : Int) + 1 := by rw [IntKind.wrap_i64]; omega
        have wr2 : IntKind.i64.wrap ((j : Int) + (D : Int) - 1) = (j : Int) + (D : Int) - 1 := by rw [IntKind.wrap_i64]; omega
        have W3 := hide (Wds.lit w2 [⟨xk, xt, xa⟩, ⟨yk, yt, ya⟩, ⟨zk, zt, za⟩] (by simp))
        go_region_law (refine step_appWL rfl (.tmp 25) (.tmp 40) rfl w.heap.size bo m d OO ?hs ((unhide HM).later (by (repeat' (first | exact q2 | exact Below.refl _ _ | exact Nat.le_refl _ | refine bl_drew ?_ | refine bl_drewN ?_ _ | refine bl_alloc ?_ ?_)) <;> fail)) (some ⟨w2.heap.size, 0, none⟩) 3 3 [⟨xk, xt, xa⟩, ⟨yk, yt, ya⟩, ⟨zk, zt, za⟩] ?hx ((unhide W3).later (by (repeat' (first | exact Below.refl _ _ | exact Nat.le_refl _ | refine bl_drew ?_ | refine bl_drewN ?_ _ | refine bl_alloc ?_ ?_)) <;> fail)) (m + 3) rfl (OO ++ [⟨xk, xt, xa⟩, ⟨yk, yt, ya⟩, ⟨zk, zt, za⟩]) rfl (by omega) (by have := q2.size; simp; omega) ?_; (case hs => simp [Act.eval, Act.put]); (case hx => simp [Act.eval, Act.put]); intro bo1 d1 w9 m9 b9 h9)
        all_goals
          go_wp2_with fail
          go_roundw
          case rel => exact ⟨j + D, bo1, m + 3, d1, _, by omega, by omega, by go_num, rfl, m9, hb.trans ((show Below w.heap.size wr _ from (by (repeat' (first | exact q2.mono hsz | exact Below.refl _ _ | exact Nat.le_refl _ | exact hsz | refine bl_drew ?_ | refine bl_drewN ?_ _ | refine bl_alloc ?_ ?_)) <;> fail)).trans b9), by rw [List.append_assoc]; exact unhide HQ⟩
          case measure => simp [intOf]; omega
    · have hjn : j = n := by omega
      subst hjn
      have h1 := hide (show OO = R by
        rw [List.drop_of_length_le (by rw [unhide hln]; exact Nat.le_refl _)] at hq
        simpa [drs] using hq)
      clear hq
      go_wp2_with fail
      go_ret
      exact ⟨bo, m, d, rfl, by rw [← unhide h1]; exact unhide HM, hb⟩

end Go.Proofs.YtgbahfadjdincaaDoor
