/-
  What is, kind and SameClasses, which the statements share, return. Conditions: the library's variables read as they were laid; the slices can be read.
  Several classes appended to a row of the call's own. Conditions: the classes can be read, and there are at most 10 to the 8.
-/
import Derived.Test.YtcfofifdnbmlbaaGreatDoorMOf
import Derived.BigQuiet
import Derived.Deep.AppendSrc
namespace Go.Proofs.YtcfofifdnbmlbaaGreatDoor
open Go.RowKit
set_option linter.unusedVariables false
set_option linter.unusedSimpArgs false

theorem kba_inj {a b : ByteArray} (h : a.toList = b.toList) : a = b := by
  rw [ByteArray.toList_eq, ByteArray.toList_eq] at h
  exact ByteArray.ext (Array.ext' h)
theorem eq_cl (a b : Cl) (w : World) : (binOp .eql 32 (.agg (clC a)) (.agg (clC b))).run Tryz.prog w = .ok (.bool (decide (a = b))) w := by
  by_cases h : a = b
  · subst h
    unfold clC
    rw [run_eql_struct, run_equalIn_agg w 9999 _ _ _ (by kernel_rfl) (by kernel_rfl)]
    simp [go_sem, Tryz.underlying32]
  · rw [decide_eq_false h]
    obtain ⟨k1, n1, v1⟩ := a
    obtain ⟨k2, n2, v2⟩ := b
    unfold clC
    rw [run_eql_struct, run_equalIn_agg w 9999 _ _ _ (by kernel_rfl) (by kernel_rfl)]
    simp [go_sem, Tryz.underlying32]
    intro h1 h2 h3
    exact h (by rw [h1, kba_inj h2, kba_inj h3])
theorem ne_cl (a b : Cl) (w : World) : (binOp .neq 32 (.agg (clC a)) (.agg (clC b))).run Tryz.prog w = .ok (.bool (!decide (a = b))) w := by
  have h := eq_cl a b w
  rw [run_eql_struct] at h
  rw [run_neq_struct]
  generalize (Op.equalIn 10000 32 (.agg (clC a)) (.agg (clC b))).run Tryz.prog w = X at h ⊢
  cases X <;> simp_all [Result.andThen]
theorem below_drewNk (w : World) (n : Nat) : Below w.heap.size w (w.drewN n) := ⟨rfl, rfl, rfl, Nat.le_refl _, fun _ _ => rfl⟩
theorem atkc_0 {w : World} {b o : Nat} {p : Cl} (h : AtKc w b o p) : w.cell? ⟨b, o, none⟩ = some (.int .i64 p.k) := h 0 (by decide)
theorem atkc_1 {w : World} {b o : Nat} {p : Cl} (h : AtKc w b o p) : w.cell? ⟨b, o + 1, none⟩ = some (.string p.nm) := h 1 (by decide)
theorem atkc_2 {w : World} {b o : Nat} {p : Cl} (h : AtKc w b o p) : w.cell? ⟨b, o + 2, none⟩ = some (.string p.va) := h 2 (by decide)
theorem kdrop_cons {α : Type} {l : List α} {j : Nat} {p : α} (h : l[j]? = some p) : l.drop j = p :: l.drop (j + 1) := by
  obtain ⟨h1, rfl⟩ := List.getElem?_eq_some_iff.1 h
  exact List.drop_eq_getElem_cons h1

set_option maxHeartbeats 4000000 in
set_option maxRecDepth 20000 in
theorem sameClasses_any (ao : Option Addr) (n c : Nat) (xs : List Cl) (bo : Option Addr) (m d : Nat) (ys : List Cl) (w : World) (h : Kcs w ao n c xs) (k : Kcs w bo m d ys) :
    Calls Tryz.prog 13 #[.slice ao n c, .slice bo m d] w (OutB w (decide (xs = ys))) := by
  have hle := h.le
  have hmx := h.max
  have hln := hide h.len
  have kle := k.le
  have kmx := k.max
  have kln := hide k.len
  have HX := hide h
  have HY := hide k
  obtain ⟨R, hR⟩ : ∃ R, R = decide (xs = ys) := ⟨_, rfl⟩
  rw [← hR]
  have HR := hide hR
  clear h k hR
  by_cases hnm : n = m
  · subst hnm
    have g0 : ((n : Int) == (n : Int)) = true := by simp
    go_enter Tryz.func13, Tryz.ntmps13
    go_wp2_with fail
    go_loopw [5] (fun iv wr => ∃ (j : Nat), j ≤ n ∧ iv = .int .i64 (j : Int) ∧ Below w.heap.size w wr ∧ R = decide (xs.drop j = ys.drop j)) (fun iv _ => n - (intOf iv).toNat)
    case atStart => exact ⟨0, by omega, rfl, Below.refl _ _, by rw [List.drop_zero, List.drop_zero]; exact unhide HR⟩
    case round =>
      obtain ⟨j, hj, rfl, hB, hA⟩ := hrel
      have HQ := hide hA
      clear hA HR
      by_cases hlt : j < n
      · have hlt2 : ((j : Nat) : Int) < (n : Int) := by omega
        obtain ⟨x, hx⟩ : ∃ p, xs[j]? = some p := ⟨_, List.getElem?_eq_getElem (by rw [unhide hln]; exact hlt)⟩
        obtain ⟨y, hy⟩ : ∃ p, ys[j]? = some p := ⟨_, List.getElem?_eq_getElem (by rw [unhide kln]; exact hlt)⟩
        obtain ⟨b1, o1, i1, a1⟩ := ((unhide HX).later hB).idx hx (j : Int) rfl
        obtain ⟨b2, o2, i2, a2⟩ := ((unhide HY).later hB).idx hy (j : Int) rfl
        have hq := unhide HQ
        rw [kdrop_cons hx, kdrop_cons hy] at hq
        have hne := ne_cl x y
        obtain ⟨xk, xn, xv⟩ := x
        obtain ⟨yk, yn, yv⟩ := y
        have r0 := atkc_0 a1
        have r1 := atkc_1 a1
        have r2 := atkc_2 a1
        have s0 := atkc_0 a2
        have s1 := atkc_1 a2
        have s2 := atkc_2 a2
        simp only at r0 r1 r2 s0 s1 s2
        simp only [clC] at hne
        clear hx hy a1 a2 HQ
        by_cases hxy : (⟨xk, xn, xv⟩ : Cl) = ⟨yk, yn, yv⟩
        · rw [decide_eq_true hxy, Bool.not_true] at hne
          have HQ2 := hide (show R = decide (xs.drop (j + 1) = ys.drop (j + 1)) by rw [hq, hxy]; simp)
          clear hq hxy
          go_wp2_with fail
          go_quiet (fail)
          go_wp2_with fail
          go_roundw
          case rel => exact ⟨j + 1, by omega, by go_num, hB.trans ((below_drewNk wr _).mono hB.size), unhide HQ2⟩
          case measure => simp [intOf]; omega
        · rw [decide_eq_false hxy, Bool.not_false] at hne
          have HQ2 := hide (show R = false by rw [hq]; exact decide_eq_false (fun e => hxy (List.cons.inj e).1))
          clear hq hxy
          go_wp2_with fail
          go_quiet (fail)
          go_wp2_with fail
          go_ret
          exact ⟨by rw [unhide HQ2]; rfl, hB.trans ((below_drewNk wr _).mono hB.size)⟩
      · have hjn : j = n := by omega
        subst hjn
        have h1 := hide (show R = true by rw [unhide HQ, List.drop_of_length_le (by rw [unhide hln]; exact Nat.le_refl _), List.drop_of_length_le (by rw [unhide kln]; exact Nat.le_refl _)]; simp)
        go_wp2_with fail
        go_ret
        exact ⟨by rw [unhide h1]; rfl, hB⟩
  · have h1 := hide (show R = false by rw [unhide HR]; exact decide_eq_false (fun e => hnm (by rw [← unhide hln, ← unhide kln, e])))
    have g0 : ((n : Int) == (m : Int)) = false := by rw [beq_eq_false_iff_ne]; omega
    have g1 : ((n : Int) != (m : Int)) = true := by rw [bne_iff_ne]; omega
    go_enter Tryz.func13, Tryz.ntmps13
    go_wp2_with fail
    go_ret
    exact ⟨by rw [unhide h1]; rfl, Below.refl _ _⟩

set_option maxHeartbeats 1000000 in
theorem kind_any (k : Int) (w : World) : Calls Tryz.prog 7 #[.int .i64 k] w (OutK w (kl k)) := by
  go_enter Tryz.func7, Tryz.ntmps7
  go_wp2_with (first | (with_reducible show wpList Tryz.prog _ _ (Oper.mk _ (Op.alloc 32) _ _ _ none :: _) _ _; refine wpList_alC rfl rfl ?_; intro wz rz bz ez; clear ez) | (with_reducible show wpList Tryz.prog _ _ (Oper.mk _ (Op.store 32 _ _) _ _ _ none :: _) _ _; refine wpList_stC rfl _ _ rfl w.heap.size (kl k) cl0 (by simp [Act.eval, Act.put]) (by simp [Act.eval, Act.put, clC, kl, ba]) rz ?_; intro w9 z9 g9 e9))
  exact cl_end rfl w.heap.size (kl k) _ rfl rfl z9 rfl (belowG bz g9 (Nat.le_refl _) bz.size)

set_option maxHeartbeats 4000000 in
set_option maxRecDepth 20000 in
theorem is_any (s : ByteArray) (bo : Option Addr) (m d : Nat) (ys : List Cl) (w : World) (hV : Vr w) (hY : Kcs w bo m d ys) : Calls Tryz.prog 6 #[.string s, .slice bo m d] w (OutB w (decide (ofF (bl s) = (ys, ok0)))) := by
  have HC := hide (of_any s w hV)
  have HY := hide hY
  obtain ⟨⟨L, f⟩, hF⟩ : ∃ F, F = ofF (bl s) := ⟨_, rfl⟩
  rw [← hF] at HC ⊢
  have he := eq_ft f
  clear hV hY hF
  by_cases hf : f = ok0
  · rw [show decide ((L, f) = (ys, ok0)) = decide (L = ys) by rw [hf]; simp]
    rw [decide_eq_true hf] at he
    clear hf
    go_enter Tryz.func6, Tryz.ntmps6
    go_wp2_with (first | (go_at_call 5; refine (unhide HC).mono ?_; rintro e w1 ⟨ao, n, c, rfl, m1, b1⟩) | (with_reducible show wpList Tryz.prog _ _ (Oper.mk _ (Op.alloc 26) _ _ _ none :: _) _ _; refine wpList_alT rfl rfl ?_; intro w2 f2 q2 t2; clear t2; have m2 := m1.later q2; have b2 := belT b1 q2) | (with_reducible show wpList Tryz.prog _ _ (Oper.mk _ (Op.store 26 _ _) _ _ _ none :: _) _ _; refine wpList_stT rfl _ _ rfl w1.heap.size f ⟨0, 0⟩ (by simp [Act.eval, Act.put]) (by simp [Act.eval, Act.put]) f2 ?_; intro w3 f3 g3 t3; clear t3; have m3 := m2.keep (fun k hk => g3.block k (m2.ob hk).2 (Nat.ne_of_lt (m1.ob hk).2)); have b3 := belowG b2 g3 b1.size b2.size) | (with_reducible show wpList Tryz.prog _ _ (Oper.mk _ (Op.load 26 _) _ _ _ none :: _) _ _; refine wpList_ldT rfl _ rfl w1.heap.size f (by simp [Act.eval, Act.put]) f3 ?_) | (go_at_call 13; refine (sameClasses_any ao n c L bo m d ys w3 m3.ss ((unhide HY).later b3)).mono ?_; rintro e w4 ⟨rfl, q4⟩))
    go_ret
    exact ⟨rfl, belT b3 q4⟩
  · rw [show decide ((L, f) = (ys, ok0)) = false from decide_eq_false (fun e => hf (Prod.mk.inj e).2)]
    rw [decide_eq_false hf] at he
    clear hf
    go_enter Tryz.func6, Tryz.ntmps6
    go_wp2_with (first | (go_at_call 5; refine (unhide HC).mono ?_; rintro e w1 ⟨ao, n, c, rfl, m1, b1⟩) | (with_reducible show wpList Tryz.prog _ _ (Oper.mk _ (Op.alloc 26) _ _ _ none :: _) _ _; refine wpList_alT rfl rfl ?_; intro w2 f2 q2 t2; clear t2; have m2 := m1.later q2; have b2 := belT b1 q2) | (with_reducible show wpList Tryz.prog _ _ (Oper.mk _ (Op.store 26 _ _) _ _ _ none :: _) _ _; refine wpList_stT rfl _ _ rfl w1.heap.size f ⟨0, 0⟩ (by simp [Act.eval, Act.put]) (by simp [Act.eval, Act.put]) f2 ?_; intro w3 f3 g3 t3; clear t3; have b3 := belowG b2 g3 b1.size b2.size) | (with_reducible show wpList Tryz.prog _ _ (Oper.mk _ (Op.load 26 _) _ _ _ none :: _) _ _; refine wpList_ldT rfl _ rfl w1.heap.size f (by simp [Act.eval, Act.put]) f3 ?_))
    go_ret
    exact ⟨rfl, b3⟩
/-- A text and classes that are written out. -/
theorem is_lit (s : ByteArray) (want : List Cl) (C : Array Value) (hC : (flatKc want).toArray = C) (hl : want.length ≤ 1000) (g : Nat) (w : World) (R : Bool) (hV : Vr w) (hg : g = w.heap.size) (h : decide (ofF (bl s) = (want, ok0)) = R) :
    Calls Tryz.prog 6 #[.string s, .slice (some ⟨g, 0, none⟩) want.length want.length] (w.alloc (.cells C 32)) (OutB w R) := by
  subst hC
  subst hg
  have b := below_alloc w (.cells (flatKc want).toArray 32)
  have c := is_any s _ _ _ want _ (hV.later b) (Kcs.lit w want (by omega))
  rw [h] at c
  exact c.mono fun e w2 k => OutB.low k b
def klT : ByteArray := ⟨#[83, 69, 76, 69, 67, 84, 32, 49, 59, 32, 115, 101, 116, 32, 115, 101, 115, 115, 105, 111, 110, 32, 115, 113, 108, 95, 109, 111, 100, 101, 61, 39, 120, 39]⟩
def klW : List Cl := [⟨1, ba [], ba []⟩, ⟨5, ⟨#[115, 113, 108, 95, 109, 111, 100, 101]⟩, ⟨#[120]⟩⟩]
theorem kl_eq : decide (ofF (bl klT) = (klW, ok0)) = true := by decide +kernel
theorem lives_call (g : Nat) (w : World) (hV : Vr w) (hg : g = w.heap.size) : Calls Tryz.prog 6 #[.string ⟨#[83, 69, 76, 69, 67, 84, 32, 49, 59, 32, 115, 101, 116, 32, 115, 101, 115, 115, 105, 111, 110, 32, 115, 113, 108, 95, 109, 111, 100, 101, 61, 39, 120, 39]⟩, .slice (some ⟨g, 0, none⟩) 2 2] (w.alloc (.cells #[.int .i64 1, .string ⟨#[]⟩, .string ⟨#[]⟩, .int .i64 5, .string ⟨#[115, 113, 108, 95, 109, 111, 100, 101]⟩, .string ⟨#[120]⟩] 32)) (OutB w true) := is_lit klT klW _ rfl (by decide) g w true hV hg kl_eq

set_option maxHeartbeats 2000000 in
set_option maxRecDepth 20000 in
theorem lives_any (w : World) (hV : Vr w) : Calls Tryz.prog 4 #[] w (OutB w true) := by
  have HV := hide hV
  have HK := hide (kind_any 1 w)
  unfold OutK clC kl ba at HK
  simp only at HK
  clear hV
  go_enter Tryz.func4, Tryz.ntmps4
  go_wp2_with (first | (go_at_call 7; refine (unhide HK).mono ?_; rintro e w1 ⟨rfl, b1⟩) | (go_at_call 6; refine (lives_call w1.heap.size w1 ((unhide HV).later b1) rfl).mono ?_; rintro e w2 ⟨rfl, b2⟩))
  go_ret
  exact ⟨rfl, belT b1 b2⟩

end Go.Proofs.YtcfofifdnbmlbaaGreatDoor

namespace Go.Proofs.YtcfofifdnbmlbaaGreatDoor
open Go.RowKit
set_option linter.unusedVariables false
set_option linter.unusedSimpArgs false

theorem flatKc_two (l m : List Cl) : flatKc (l ++ m) = flatKc l ++ flatKc m := by simp [flatKc]
theorem flatKc_ones (l : List Cl) : ∀ u ∈ flatKc l, u.oneCell' = true := by
  intro u hu
  obtain ⟨x, _, hx⟩ := List.mem_flatMap.1 hu
  exact (Array.all_eq_true_iff_forall_mem.1 (klc_one x)) u (by simpa using hx)
theorem Kcs.cells {w : World} {a : Addr} {m d : Nat} {l : List Cl} (h : Kcs w (some a) m d l) : ∀ j u, (flatKc l)[j]? = some u → w.cell? (a.add j) = some u := by
  intro j u hu
  have hj := (List.getElem?_eq_some_iff.1 hu).1
  rw [flatKc_len] at hj
  rcases h.at' with h0 | ⟨b, off, e, hc⟩
  · have := h.len
    omega
  · cases e
    have hi : j / 3 < l.length := by omega
    have hr : j % 3 < 3 := Nat.mod_lt _ (by decide)
    have h1 := hc (j / 3) _ (List.getElem?_eq_getElem hi) (j % 3) hr
    have h2 := flatKc_at l (j / 3) (j % 3) _ (List.getElem?_eq_getElem hi) hr
    rw [show j / 3 * 3 + j % 3 = j by omega] at h2
    rw [Addr.add_lit, show off + j = off + j / 3 * 3 + j % 3 by omega, h1, ← h2, hu]
theorem append_nilC (w : World) (ty : TypeId) (i : TypeInfo) (hi : Tryz.prog.info? 32 = some i) (base : Option Addr) (sLen sCap : Nat) (hle : sLen ≤ sCap) (x : Value) (hs : Src Tryz.prog i.size 23 x 0 [] w) :
    (Builtin.append_ #[23, 23] ty #[.slice base sLen sCap, x]).run Tryz.prog w = .ok (.slice base sLen sCap) w := by
  cases base <;> simp [Builtin.append_, run_underlying Tryz.underlying23, sizeOf, typeInfo, hi, hs.len, hle, hs.cells, storeCells]
/-- 'append(l, m...)', l of the call's own. -/
theorem run_appCL {w : World} (B : Nat) (ty : TypeId) (ao : Option Addr) (n c : Nat) (l : List Cl) (hm : KcMine B w ao n c l) (bo : Option Addr) (m d : Nat) (l' : List Cl) (hx : Kcs w bo m d l') (hbound : n + m ≤ 100000000) (hB : B ≤ w.heap.size) :
    ∃ ao1 c1 w1, (Builtin.append_ #[23, 23] ty #[.slice ao n c, .slice bo m d]).run Tryz.prog w = .ok (.slice ao1 (n + m) c1) w1 ∧ KcMine B w1 ao1 (n + m) c1 (l ++ l') ∧ Below B w w1 ∧ ∀ g, g < w.heap.size → ¬ ob ao g → w1.heap[g]? = w.heap[g]? := by
  obtain ⟨i0, hi, hz0, hz1, hz2⟩ := info_parts infoKc
  have hlen := hm.len
  have hlen' := hx.len
  cases bo with
  | none =>
    have hd := hx.nil rfl
    have hmd := hx.le
    have h0 : m = 0 := by omega
    subst h0
    have hl : l' = [] := List.eq_nil_of_length_eq_zero hlen'
    subst hl
    refine ⟨ao, c, w, append_nilC w ty i0 hi ao n c hm.ss.le _ (Src.ofNil w Tryz.underlying23 d), by simpa using hm, Below.refl _ _, fun _ _ _ => rfl⟩
  | some a =>
    obtain ⟨v', w', hr, hown, hgrow, hnil, hsrc⟩ := run_append_own_at (P := Tryz.prog) w B 23 ty 32 i0 (.agg (clC cl0)) 3 40 Tryz.underlying23 hi hz0 hz1 hz2 rfl (by decide) _ _ _ hm.own a m d (flatKc l') (by rw [flatKc_len, hlen']) hx.cells (flatKc_ones l') (by unfold maxLen; omega) (by omega) hB
    rw [← flatKc_two] at hown
    have hex : ∃ ao1 c1, v' = .slice ao1 (n + m) c1 := by
      rcases hown.2 with ⟨hv, h0⟩ | ⟨g, cap, cur, hv, _⟩
      · exact ⟨none, 0, by rw [h0]; exact hv⟩
      · exact ⟨_, _, hv⟩
    obtain ⟨ao1, c1, rfl⟩ := hex
    exact ⟨ao1, c1, w', hr, ⟨by simp [hlen, hlen'], hown⟩, (Below.refl B w).grown hgrow hB (fun k hk => (hm.own.lt k hk).1), fun g hg hn => grown_at hgrow hg hn⟩
theorem step_appCL {ops : Array Oper} {o : Oper} {a : Act} {w : World} {K : Act → World → Prop} {Q : Exit → Act → World → Prop} {G : Prop} (hgd : o.guard = none) (s x : Operand)
    (ho : o.op = .call { callee := .builtin .append, args := #[s, x], argTypes := #[23, 23] })
    (B : Nat) (ao : Option Addr) (n c : Nat) (l : List Cl) (hs : a.eval s = .slice ao n c) (hm : KcMine B w ao n c l)
    (bo : Option Addr) (m d : Nat) (l' : List Cl) (hx : a.eval x = .slice bo m d) (hW : Kcs w bo m d l') (N : Nat) (hN : n + m = N) (LL : List Cl) (hL : l ++ l' = LL) (hbound : N ≤ 100000000) (hB : B ≤ w.heap.size)
    (h : ∀ ao1 c1 w1, KcMine B w1 ao1 N c1 LL → Below B w w1 → (∀ g, g < w.heap.size → ¬ ob ao g → w1.heap[g]? = w.heap[g]?) → K (a.put o.dst (.slice ao1 N c1)) w1) :
    if Region.wanted o (yielded ops a.tmps) = true then Oper.wp Tryz.prog o a w K Q else G := by
  subst hN
  subst hL
  have hw : Region.wanted o (yielded ops a.tmps) = true := by simp [Region.wanted, hgd]
  rw [if_pos hw]
  obtain ⟨ao1, c1, w1, hr, h1, h2, h3⟩ := run_appCL B o.type ao n c l hm bo m d l' hW hbound hB
  unfold Oper.wp execOp
  simp only [ho, resolve, invoke, builtin, Sem.run_bind, Sem.run_pure, Result.andThen_ok, List.map_toArray, List.map_cons, List.map_nil, hs, hx, hr]
  exact h ao1 c1 w1 h1 h2 h3
theorem KcMine.lit0 (w : World) : KcMine w.heap.size (w.alloc (.cells #[] 32)) (some ⟨w.heap.size, 0, none⟩) 0 0 [] :=
  ⟨rfl, rfl, .inr ⟨w.heap.size, 0, #[], rfl, Nat.le_refl _, heap_alloc_new w _, Nat.le_refl _, by unfold maxLen; omega, rfl, rfl⟩⟩
/-- The same at a step of a region that has one order. -/
theorem wpList_appCL {ops : Array Oper} {rest : List Oper} {o : Oper} {a : Act} {w : World} {Q : Exit → Act → World → Prop} (hgd : o.guard = none) (s x : Operand)
    (ho : o.op = .call { callee := .builtin .append, args := #[s, x], argTypes := #[23, 23] })
    (B : Nat) (ao : Option Addr) (n c : Nat) (l : List Cl) (hs : a.eval s = .slice ao n c) (hm : KcMine B w ao n c l)
    (bo : Option Addr) (m d : Nat) (l' : List Cl) (hx : a.eval x = .slice bo m d) (hW : Kcs w bo m d l') (N : Nat) (hN : n + m = N) (LL : List Cl) (hL : l ++ l' = LL) (hbound : N ≤ 100000000) (hB : B ≤ w.heap.size)
    (h : ∀ ao1 c1 w1, KcMine B w1 ao1 N c1 LL → Below B w w1 → (∀ g, g < w.heap.size → ¬ ob ao g → w1.heap[g]? = w.heap[g]?) → wpList Tryz.prog ops Q rest (a.put o.dst (.slice ao1 N c1)) w1) :
    wpList Tryz.prog ops Q (o :: rest) a w := by
  subst hN
  subst hL
  obtain ⟨ao1, c1, w1, hr, h1, h2, h3⟩ := run_appCL B o.type ao n c l hm bo m d l' hW hbound hB
  refine wpList_plain hgd fun K hK => ?_
  unfold Oper.wp execOp
  simp only [ho, resolve, invoke, builtin, Sem.run_bind, Sem.run_pure, Result.andThen_ok, List.map_toArray, List.map_cons, List.map_nil, hs, hx, hr]
  exact hK _ _ (h ao1 c1 w1 h1 h2 h3)

end Go.Proofs.YtcfofifdnbmlbaaGreatDoor
