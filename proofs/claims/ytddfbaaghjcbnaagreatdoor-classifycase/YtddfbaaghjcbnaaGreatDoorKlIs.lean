/-
  What is, kind and SameClasses, which the statements share, return. Conditions: the library's variables read as they were laid; the slices can be read.
-/
import Derived.Test.YtddfbaaghjcbnaaGreatDoorMOf
import Derived.BigQuiet
namespace Go.Proofs.YtddfbaaghjcbnaaGreatDoor
open Go.RowKit
set_option linter.unusedVariables false
set_option linter.unusedSimpArgs false

theorem kba_inj {a b : ByteArray} (h : a.toList = b.toList) : a = b := by
  rw [ByteArray.toList_eq, ByteArray.toList_eq] at h
  exact ByteArray.ext (Array.ext' h)
theorem eq_cl (a b : Cl) (w : World) : (binOp .eql 40 (.agg (clC a)) (.agg (clC b))).run Tryz.prog w = .ok (.bool (decide (a = b))) w := by
  by_cases h : a = b
  · subst h
    unfold clC
    rw [run_eql_struct, run_equalIn_agg w 9999 _ _ _ (by kernel_rfl) (by kernel_rfl)]
    simp [go_sem, Tryz.underlying40]
  · rw [decide_eq_false h]
    obtain ⟨k1, n1, v1⟩ := a
    obtain ⟨k2, n2, v2⟩ := b
    unfold clC
    rw [run_eql_struct, run_equalIn_agg w 9999 _ _ _ (by kernel_rfl) (by kernel_rfl)]
    simp [go_sem, Tryz.underlying40]
    intro h1 h2 h3
    exact h (by rw [h1, kba_inj h2, kba_inj h3])
theorem ne_cl (a b : Cl) (w : World) : (binOp .neq 40 (.agg (clC a)) (.agg (clC b))).run Tryz.prog w = .ok (.bool (!decide (a = b))) w := by
  have h := eq_cl a b w
  rw [run_eql_struct] at h
  rw [run_neq_struct]
  generalize (Op.equalIn 10000 40 (.agg (clC a)) (.agg (clC b))).run Tryz.prog w = X at h ⊢
  cases X <;> simp_all [Result.andThen]
theorem below_drewNk (w : World) (n : Nat) : Below w.heap.size w (w.drewN n) := ⟨rfl, rfl, rfl, Nat.le_refl _, fun _ _ => rfl⟩
theorem atkc_0 {w : World} {b o : Nat} {p : Cl} (h : AtKc w b o p) : w.cell? ⟨b, o, none⟩ = some (.int .i64 p.k) := h 0 (by decide)
theorem atkc_1 {w : World} {b o : Nat} {p : Cl} (h : AtKc w b o p) : w.cell? ⟨b, o + 1, none⟩ = some (.string p.nm) := h 1 (by decide)
theorem atkc_2 {w : World} {b o : Nat} {p : Cl} (h : AtKc w b o p) : w.cell? ⟨b, o + 2, none⟩ = some (.string p.va) := h 2 (by decide)
theorem kdrop_cons {α : Type} {l : List α} {j : Nat} {p : α} (h : l[j]? = some p) : l.drop j = p :: l.drop (j + 1) := by
  obtain ⟨h1, rfl⟩ := List.getElem?_eq_some_iff.1 h
  exact List.drop_eq_getElem_cons h1

set_option maxHeartbeats 4000000 in
set_option maxRecDepth 20000 in
theorem sameClasses_any (ao : Option Addr) (n c : Nat) (xs : List Cl) (bo : Option Addr) (m d : Nat) (ys : List Cl) (w : World) (h : Kcs w ao n c xs) (k : Kcs w bo m d ys) :
    Calls Tryz.prog 8 #[.slice ao n c, .slice bo m d] w (OutB w (decide (xs = ys))) := by
  have hle := h.le
  have hmx := h.max
  have hln := hide h.len
  have kle := k.le
  have kmx := k.max
  have kln := hide k.len
  have HX := hide h
  have HY := hide k
  obtain ⟨R, hR⟩ : ∃ R, R = decide (xs = ys) := ⟨_, rfl⟩
  rw [← hR]
  have HR := hide hR
  clear h k hR
  by_cases hnm : n = m
  · subst hnm
    have g0 : ((n : Int) == (n : Int)) = true := by simp
    go_enter Tryz.func8, Tryz.ntmps8
    go_wp2_with fail
    go_loopw [5] (fun iv wr => ∃ (j : Nat), j ≤ n ∧ iv = .int .i64 (j : Int) ∧ Below w.heap.size w wr ∧ R = decide (xs.drop j = ys.drop j)) (fun iv _ => n - (intOf iv).toNat)
    case atStart => exact ⟨0, by omega, rfl, Below.refl _ _, by rw [List.drop_zero, List.drop_zero]; exact unhide HR⟩
    case round =>
      obtain ⟨j, hj, rfl, hB, hA⟩ := hrel
      have HQ := hide hA
      clear hA HR
      by_cases hlt : j < n
      · have hlt2 : ((j : Nat) : Int) < (n : Int) := by omega
        obtain ⟨x, hx⟩ : ∃ p, xs[j]? = some p := ⟨_, List.getElem?_eq_getElem (by rw [unhide hln]; exact hlt)⟩
        obtain ⟨y, hy⟩ : ∃ p, ys[j]? = some p := ⟨_, List.getElem?_eq_getElem (by rw [unhide kln]; exact hlt)⟩
        obtain ⟨b1, o1, i1, a1⟩ := ((unhide HX).later hB).idx hx (j : Int) rfl
        obtain ⟨b2, o2, i2, a2⟩ := ((unhide HY).later hB).idx hy (j : Int) rfl
        have hq := unhide HQ
        rw [kdrop_cons hx, kdrop_cons hy] at hq
        have hne := ne_cl x y
        obtain ⟨xk, xn, xv⟩ := x
        obtain ⟨yk, yn, yv⟩ := y
        have r0 := atkc_0 a1
        have r1 := atkc_1 a1
        have r2 := atkc_2 a1
        have s0 := atkc_0 a2
        have s1 := atkc_1 a2
        have s2 := atkc_2 a2
        simp only at r0 r1 r2 s0 s1 s2
        simp only [clC] at hne
        clear hx hy a1 a2 HQ
        by_cases hxy : (⟨xk, xn, xv⟩ : Cl) = ⟨yk, yn, yv⟩
        · rw [decide_eq_true hxy, Bool.not_true] at hne
          have HQ2 := hide (show R = decide (xs.drop (j + 1) = ys.drop (j + 1)) by rw [hq, hxy]; simp)
          clear hq hxy
          go_wp2_with fail
          go_quiet (fail)
          go_wp2_with fail
          go_roundw
          case rel => exact ⟨j + 1, by omega, by go_num, hB.trans ((below_drewNk wr _).mono hB.size), unhide HQ2⟩
          case measure => simp [intOf]; omega
        · rw [decide_eq_false hxy, Bool.not_false] at hne
          have HQ2 := hide (show R = false by rw [hq]; exact decide_eq_false (fun e => hxy (List.cons.inj e).1))
          clear hq hxy
          go_wp2_with fail
          go_quiet (fail)
          go_wp2_with fail
          go_ret
          exact ⟨by rw [unhide HQ2]; rfl, hB.trans ((below_drewNk wr _).mono hB.size)⟩
      · have hjn : j = n := by omega
        subst hjn
        have h1 := hide (show R = true by rw [unhide HQ, List.drop_of_length_le (by rw [unhide hln]; exact Nat.le_refl _), List.drop_of_length_le (by rw [unhide kln]; exact Nat.le_refl _)]; simp)
        go_wp2_with fail
        go_ret
        exact ⟨by rw [unhide h1]; rfl, hB⟩
  · have h1 := hide (show R = false by rw [unhide HR]; exact decide_eq_false (fun e => hnm (by rw [← unhide hln, ← unhide kln, e])))
    have g0 : ((n : Int) == (m : Int)) = false := by rw [beq_eq_false_iff_ne]; omega
    have g1 : ((n : Int) != (m : Int)) = true := by rw [bne_iff_ne]; omega
    go_enter Tryz.func8, Tryz.ntmps8
    go_wp2_with fail
    go_ret
    exact ⟨by rw [unhide h1]; rfl, Below.refl _ _⟩

set_option maxHeartbeats 1000000 in
theorem kind_any (k : Int) (w : World) : Calls Tryz.prog 10 #[.int .i64 k] w (OutK w (kl k)) := by
  go_enter Tryz.func10, Tryz.ntmps10
  go_wp2_with (first | (with_reducible show wpList Tryz.prog _ _ (Oper.mk _ (Op.alloc 40) _ _ _ none :: _) _ _; refine wpList_alC rfl rfl ?_; intro wz rz bz ez; clear ez) | (with_reducible show wpList Tryz.prog _ _ (Oper.mk _ (Op.store 40 _ _) _ _ _ none :: _) _ _; refine wpList_stC rfl _ _ rfl w.heap.size (kl k) cl0 (by simp [Act.eval, Act.put]) (by simp [Act.eval, Act.put, clC, kl, ba]) rz ?_; intro w9 z9 g9 e9))
  exact cl_end rfl w.heap.size (kl k) _ rfl rfl z9 rfl (belowG bz g9 (Nat.le_refl _) bz.size)

set_option maxHeartbeats 4000000 in
set_option maxRecDepth 20000 in
theorem is_any (s : ByteArray) (bo : Option Addr) (m d : Nat) (ys : List Cl) (w : World) (hV : Vr w) (hY : Kcs w bo m d ys) : Calls Tryz.prog 9 #[.string s, .slice bo m d] w (OutB w (decide (ofF (bl s) = (ys, ok0)))) := by
  have HC := hide (of_any s w hV)
  have HY := hide hY
  obtain ⟨⟨L, f⟩, hF⟩ : ∃ F, F = ofF (bl s) := ⟨_, rfl⟩
  rw [← hF] at HC ⊢
  have he := eq_ft f
  clear hV hY hF
  by_cases hf : f = ok0
  · rw [show decide ((L, f) = (ys, ok0)) = decide (L = ys) by rw [hf]; simp]
    rw [decide_eq_true hf] at he
    clear hf
    go_enter Tryz.func9, Tryz.ntmps9
    go_wp2_with (first | (go_at_call 6; refine (unhide HC).mono ?_; rintro e w1 ⟨ao, n, c, rfl, m1, b1⟩) | (with_reducible show wpList Tryz.prog _ _ (Oper.mk _ (Op.alloc 26) _ _ _ none :: _) _ _; refine wpList_alT rfl rfl ?_; intro w2 f2 q2 t2; clear t2; have m2 := m1.later q2; have b2 := belT b1 q2) | (with_reducible show wpList Tryz.prog _ _ (Oper.mk _ (Op.store 26 _ _) _ _ _ none :: _) _ _; refine wpList_stT rfl _ _ rfl w1.heap.size f ⟨0, 0⟩ (by simp [Act.eval, Act.put]) (by simp [Act.eval, Act.put]) f2 ?_; intro w3 f3 g3 t3; clear t3; have m3 := m2.keep (fun k hk => g3.block k (m2.ob hk).2 (Nat.ne_of_lt (m1.ob hk).2)); have b3 := belowG b2 g3 b1.size b2.size) | (with_reducible show wpList Tryz.prog _ _ (Oper.mk _ (Op.load 26 _) _ _ _ none :: _) _ _; refine wpList_ldT rfl _ rfl w1.heap.size f (by simp [Act.eval, Act.put]) f3 ?_) | (go_at_call 8; refine (sameClasses_any ao n c L bo m d ys w3 m3.ss ((unhide HY).later b3)).mono ?_; rintro e w4 ⟨rfl, q4⟩))
    go_ret
    exact ⟨rfl, belT b3 q4⟩
  · rw [show decide ((L, f) = (ys, ok0)) = false from decide_eq_false (fun e => hf (Prod.mk.inj e).2)]
    rw [decide_eq_false hf] at he
    clear hf
    go_enter Tryz.func9, Tryz.ntmps9
    go_wp2_with (first | (go_at_call 6; refine (unhide HC).mono ?_; rintro e w1 ⟨ao, n, c, rfl, m1, b1⟩) | (with_reducible show wpList Tryz.prog _ _ (Oper.mk _ (Op.alloc 26) _ _ _ none :: _) _ _; refine wpList_alT rfl rfl ?_; intro w2 f2 q2 t2; clear t2; have m2 := m1.later q2; have b2 := belT b1 q2) | (with_reducible show wpList Tryz.prog _ _ (Oper.mk _ (Op.store 26 _ _) _ _ _ none :: _) _ _; refine wpList_stT rfl _ _ rfl w1.heap.size f ⟨0, 0⟩ (by simp [Act.eval, Act.put]) (by simp [Act.eval, Act.put]) f2 ?_; intro w3 f3 g3 t3; clear t3; have b3 := belowG b2 g3 b1.size b2.size) | (with_reducible show wpList Tryz.prog _ _ (Oper.mk _ (Op.load 26 _) _ _ _ none :: _) _ _; refine wpList_ldT rfl _ rfl w1.heap.size f (by simp [Act.eval, Act.put]) f3 ?_))
    go_ret
    exact ⟨rfl, b3⟩
/-- A text and classes that are written out. -/
theorem is_lit (s : ByteArray) (want : List Cl) (C : Array Value) (hC : (flatKc want).toArray = C) (hl : want.length ≤ 1000) (g : Nat) (w : World) (R : Bool) (hV : Vr w) (hg : g = w.heap.size) (h : decide (ofF (bl s) = (want, ok0)) = R) :
    Calls Tryz.prog 9 #[.string s, .slice (some ⟨g, 0, none⟩) want.length want.length] (w.alloc (.cells C 40)) (OutB w R) := by
  subst hC
  subst hg
  have b := below_alloc w (.cells (flatKc want).toArray 40)
  have c := is_any s _ _ _ want _ (hV.later b) (Kcs.lit w want (by omega))
  rw [h] at c
  exact c.mono fun e w2 k => OutB.low k b
def klT : ByteArray := ⟨#[83, 69, 76, 69, 67, 84, 32, 49, 59, 32, 115, 101, 116, 32, 115, 101, 115, 115, 105, 111, 110, 32, 115, 113, 108, 95, 109, 111, 100, 101, 61, 39, 120, 39]⟩
def klW : List Cl := [⟨1, ba [], ba []⟩, ⟨5, ⟨#[115, 113, 108, 95, 109, 111, 100, 101]⟩, ⟨#[120]⟩⟩]
theorem kl_eq : decide (ofF (bl klT) = (klW, ok0)) = true := by decide +kernel
theorem lives_call (g : Nat) (w : World) (hV : Vr w) (hg : g = w.heap.size) : Calls Tryz.prog 9 #[.string ⟨#[83, 69, 76, 69, 67, 84, 32, 49, 59, 32, 115, 101, 116, 32, 115, 101, 115, 115, 105, 111, 110, 32, 115, 113, 108, 95, 109, 111, 100, 101, 61, 39, 120, 39]⟩, .slice (some ⟨g, 0, none⟩) 2 2] (w.alloc (.cells #[.int .i64 1, .string ⟨#[]⟩, .string ⟨#[]⟩, .int .i64 5, .string ⟨#[115, 113, 108, 95, 109, 111, 100, 101]⟩, .string ⟨#[120]⟩] 40)) (OutB w true) := is_lit klT klW _ rfl (by decide) g w true hV hg kl_eq

set_option maxHeartbeats 2000000 in
set_option maxRecDepth 20000 in
theorem lives_any (w : World) (hV : Vr w) : Calls Tryz.prog 4 #[] w (OutB w true) := by
  have HV := hide hV
  have HK := hide (kind_any 1 w)
  unfold OutK clC kl ba at HK
  simp only at HK
  clear hV
  go_enter Tryz.func4, Tryz.ntmps4
  go_wp2_with (first | (go_at_call 10; refine (unhide HK).mono ?_; rintro e w1 ⟨rfl, b1⟩) | (go_at_call 9; refine (lives_call w1.heap.size w1 ((unhide HV).later b1) rfl).mono ?_; rintro e w2 ⟨rfl, b2⟩))
  go_ret
  exact ⟨rfl, belT b1 b2⟩

end Go.Proofs.YtddfbaaghjcbnaaGreatDoor
