/-
  The last parts of the document's dynamic, over frames of letters: the two codes' lengths checked, the codes made. Conditions: the state's own bounds.
-/
import Derived.Test.YtnoabdafmgmenaaGreatDoorRiLens
import Derived.Test.YtnoabdafmgmenaaGreatDoorRiDynP
import Derived.Test.YtnoabdafmgmenaaGreatDoorMInf3
import Derived.BigQuiet
import Derived.Deep.DeepCutAuto
import Derived.Deep.CutBlock
namespace Go.Proofs.YtnoabdafmgmenaaGreatDoor
open Go.RowKit
set_option linter.unusedVariables false
set_option linter.unusedSimpArgs false

/-- What stands behind n parts of a text. -/
def tl : Nat → Code → Option Code
  | 0, c => some c
  | n + 1, .seq _ b => tl n b
  | _, _ => none

theorem results_cd2 {fn : Func} {p q : Tmp} (h : fn.results = #[.cell p 101, .cell q 101]) (tmps : Array Value) (w : World) (i j : Nat) (v1 v2 u1 u2 : Value)
    (hp : tmps.getD p undef = .pointer (some ⟨i, 0, none⟩)) (hi : w.heap[i]? = some (.cells #[v1, v2] 101 (0, 0))) (hq : tmps.getD q undef = .pointer (some ⟨j, 0, none⟩)) (hj : w.heap[j]? = some (.cells #[u1, u2] 101 (0, 0))) :
    (results fn tmps).run Tryz.prog w = .ok (.tuple #[.agg #[v1, v2], .agg #[u1, u2]]) w := by
  have hp' : tmps[p]?.getD undef = .pointer (some ⟨i, 0, none⟩) := by simpa using hp
  have hq' : tmps[q]?.getD undef = .pointer (some ⟨j, 0, none⟩) := by simpa using hq
  have l1 := run_loadVar_row (P := Tryz.prog) w i _ 101 #[v1, v2] (0, 0) _ hi Tryz.underlying101 rfl Tryz.codeSize
  have l2 := run_loadVar_row (P := Tryz.prog) w j _ 101 #[u1, u2] (0, 0) _ hj Tryz.underlying101 rfl Tryz.codeSize
  simp [results, h, hp', hq', asAddr, l1, l2]

theorem Gb.gxt {g : Nat} {w wX wZ : World} (h : Gb g w wX) (k : Gx g w.heap.size wX wZ) : Gb g w wZ :=
  ⟨k.os.trans h.os, k.tape.trans h.tape, k.output.trans h.output, Nat.le_trans h.size k.size, fun i hi hn => (k.block i hi hn).trans (h.block i hi hn)⟩

section
variable {E : Env} {g : Nat} {oo : Option Addr} {oc : Nat}
/-- Behind dynamic. -/
def OutD (E : Env) (g q0 : Nat) (w : World) (oo : Option Addr) (oc : Nat) (RC : (List Int × List Int) × PS) (e : Ending) (w' : World) : Prop :=
  ∃ (lo : Option Addr) (ln lc : Nat) (lk : Option Addr) (lkn lkc : Nat) (d : Option Addr) (dn dc : Nat) (dk : Option Addr) (dkn dkc : Nat) (u : PS), e = .returned (.tuple #[.agg #[.slice lo ln lc, .slice lk lkn lkc], .agg #[.slice d dn dc, .slice dk dkn dkc]]) ∧ Rt E g w' oo oc u ∧ Gb g w w' ∧ (u = RC.2 ∨ (Dd u ∧ Dd RC.2)) ∧
    (u.e = 0 → lkn = ln ∧ dkn = dn ∧ Cd g oo w' lo ln lc lk lkc RC.1.1 ∧ Cd g oo w' d dn dc dk dkc RC.1.2)
/-- What is known of the world ahead of the last parts: q0 and the block behind it hold the results, all that the stream has lies below them. -/
structure Dw (E : Env) (g q0 : Nat) (w : World) (oo : Option Addr) (oc : Nat) (t : PS) (wA : World) : Prop where
  hq : q0 = w.heap.size
  lt : g < q0
  lob : ∀ k, ob oo k → k < q0
  st : Rt E g wA oo oc t
  gb : Gb g w wA
  k1 : wA.heap[q0]? = some (.cells #[.slice none 0 0, .slice none 0 0] 101 (0, 0))
  k2 : wA.heap[q0 + 1]? = some (.cells #[.slice none 0 0, .slice none 0 0] 101 (0, 0))
theorem Dw.two {q0 : Nat} {w wA : World} {t : PS} (h : Dw E g q0 w oo oc t wA) : q0 + 1 < wA.heap.size := (Array.getElem?_eq_some_iff.1 h.k2).1
/-- Only what is new has changed. -/
theorem Dw.above {q0 : Nat} {w wA wB : World} {t : PS} (h : Dw E g q0 w oo oc t wA) (hb : Below (q0 + 2) wA wB) : Dw E g q0 w oo oc t wB := by
  have hl := h.lt
  have hq := h.hq
  refine ⟨h.hq, h.lt, h.lob, h.st.under (B := q0 + 2) (by omega) (fun k q => by have := h.lob k q; omega) hb, h.gb.gxt (below_gx (hb.mono (by omega))), by rw [hb.block _ (by omega)]; exact h.k1, by rw [hb.block _ (by omega)]; exact h.k2⟩
theorem Dw.later {q0 : Nat} {w wA wB : World} {t : PS} (h : Dw E g q0 w oo oc t wA) (hb : Below wA.heap.size wA wB) : Dw E g q0 w oo oc t wB := h.above (hb.mono h.two)
theorem Dw.putE {q0 : Nat} {w wA : World} {t : PS} (h : Dw E g q0 w oo oc t wA) : Dw E g q0 w oo oc { t with e := 5 } (wA.setCell ⟨g, 2, none⟩ (.int .i64 5)) := by
  have hl := h.lt
  refine ⟨h.hq, h.lt, h.lob, h.st.putE 5 (by omega) (by omega), h.gb.set 2 _, ?_, ?_⟩
  · rw [heap_setCell_other wA ⟨g, 2, none⟩ q0 _ (by simp; omega)]; exact h.k1
  · rw [heap_setCell_other wA ⟨g, 2, none⟩ (q0 + 1) _ (by simp; omega)]; exact h.k2
/-- The two results are laid. -/
theorem Dw.fin {q0 : Nat} {w wA wY wZ : World} {t : PS} (h : Dw E g q0 w oo oc t wA) (gY : Gb q0 wA wY) (gZ : Gb (q0 + 1) wY wZ) : Rt E g wZ oo oc t ∧ Gb g w wZ := by
  have hl := h.lt
  have h2 := h.two
  have z1 := gY.size
  have bZ : Below q0 wA wZ := ⟨gZ.os.trans gY.os, gZ.tape.trans gY.tape, gZ.output.trans gY.output, by have := gZ.size; omega, fun k hk => (gZ.block k (by omega) (by omega)).trans (gY.block k (by omega) (by omega))⟩
  have := h.hq
  exact ⟨h.st.under h.lt h.lob bZ, h.gb.gxt (below_gx (bZ.mono (by omega)))⟩
/-- What is known of the lengths. -/
structure Da (q0 : Nat) (wA : World) (ao : Option Addr) (nl nd ac B : Nat) (A : List Int) : Prop where
  len : A.length = nl + nd
  rng : Rng A
  nl0 : 257 ≤ nl
  nl1 : nl ≤ 286
  nd0 : 1 ≤ nd
  nd1 : nd ≤ 30
  own : IMine B wA ao (nl + nd) ac A
  bB : q0 + 2 ≤ B
theorem Da.rows {q0 : Nat} {wA : World} {ao : Option Addr} {nl nd ac B : Nat} {A : List Int} (h : Da q0 wA ao nl nd ac B A) : Rng (A.take nl) ∧ (A.take nl).length = nl ∧ Rng (A.drop nl) ∧ (A.drop nl).length = nd := by
  have := h.len
  exact ⟨h.rng.take nl, by simp; omega, h.rng.drop nl, by simp; omega⟩
theorem Da.gb {q0 : Nat} {wA wB : World} {ao : Option Addr} {nl nd ac B : Nat} {A : List Int} (h : Da q0 wA ao nl nd ac B A) (hg : g < q0) (f : Gb g wA wB) : Da q0 wB ao nl nd ac B A :=
  ⟨h.len, h.rng, h.nl0, h.nl1, h.nd0, h.nd1, h.own.gb (by have := h.bB; omega) f, h.bB⟩
theorem Da.later {q0 : Nat} {wA wB : World} {ao : Option Addr} {nl nd ac B : Nat} {A : List Int} (h : Da q0 wA ao nl nd ac B A) (f : Below wA.heap.size wA wB) : Da q0 wB ao nl nd ac B A :=
  ⟨h.len, h.rng, h.nl0, h.nl1, h.nd0, h.nd1, h.own.later f, h.bB⟩

set_option maxHeartbeats 8000000 in
set_option maxRecDepth 20000 in
theorem dyn_t23 (q0 : Nat) (w : World) (RC : (List Int × List Int) × PS) (x y : Code) (hcode : (Tryz.f63.body.bind (tl 15)) = some (.seq x y)) (K : Act → World → Prop) (hK : ∀ a w', Code.wp Tryz.prog y (bodyPost Tryz.prog Tryz.f63 (fun e w' => OutD E g q0 w oo oc RC e w')) a w' → K a w') (wB : World) (t6 t5 : PS) (ao : Option Addr) (nl nd ac B : Nat) (A : List Int) (hw : Dw E g q0 w oo oc t6 wB) (ha : Da q0 wB ao nl nd ac B A) (lo : Option Addr) (lc : Nat) (d : Option Addr) (dc : Nat) (HL : ∀ w', Is w' ao (nl + nd) ac A → Is w' lo nl lc (A.take nl)) (HD : ∀ w', Is w' ao (nl + nd) ac A → Is w' d nd dc (A.drop nl)) (h5 : t5.e = 0) (h6 : t6 = if lits (A.take nl) = true then t5 else { t5 with e := 5 }) (hRC : RC = twoS nl (A, t5)) (c1 c4 c5 c6 c7 c8 c9 c10 c11 c14 c15 c16 c17 c18 c19 c20 c21 c22 c23 c24 c25 c26 c27 c28 c29 c30 c31 c32 c33 c34 c35 c36 c37 c38 c39 c40 c41 c42 c43 c44 c45 c46 c47 c48 c49 c50 c51 c52 c53 c54 c55 c56 c57 c58 c59 c60 c61 c62 c63 c64 c65 c66 c67 c68 c69 c70 c71 c72 c73 c74 c75 c76 c77 c78 c79 c80 c81 c82 c83 c84 c85 c86 c87 c88 c89 c90 c91 c92 c93 c94 c95 c96 c97 c98 c99 c100 c101 c102 c103 c104 c105 c106 c107 c108 c109 c110 c111 c112 c113 c114 c115 c116 c117 c118 c119 c120 c121 c122 c123 c124 c125 c126 c127 c128 c129 c130 c131 c132 c133 c134 c135 c136 c137 c138 c139 c140 c141 c142 c143 c144 c145 c146 c147 c148 c149 c150 c151 c152 c153 c154 c155 c156 c157 c158 : Value)
    : Code.wp Tryz.prog x (Exit.then K (bodyPost Tryz.prog Tryz.f63 (fun e w' => OutD E g q0 w oo oc RC e w'))) ⟨List.toArray (.pointer (some ⟨g, 0, none⟩) :: c1 :: .pointer (some ⟨q0, 0, none⟩) :: .pointer (some ⟨q0 + 1, 0, none⟩) :: c4 :: c5 :: c6 :: c7 :: c8 :: c9 :: c10 :: c11 :: .slice lo nl lc :: .slice d nd dc :: c14 :: c15 :: c16 :: c17 :: c18 :: c19 :: c20 :: c21 :: c22 :: c23 :: c24 :: c25 :: c26 :: c27 :: c28 :: c29 :: c30 :: c31 :: c32 :: c33 :: c34 :: c35 :: c36 :: c37 :: c38 :: c39 :: c40 :: c41 :: c42 :: c43 :: c44 :: c45 :: c46 :: c47 :: c48 :: c49 :: c50 :: c51 :: c52 :: c53 :: c54 :: c55 :: c56 :: c57 :: c58 :: c59 :: c60 :: c61 :: c62 :: c63 :: c64 :: c65 :: c66 :: c67 :: c68 :: c69 :: c70 :: c71 :: c72 :: c73 :: c74 :: c75 :: c76 :: c77 :: c78 :: c79 :: c80 :: c81 :: c82 :: c83 :: c84 :: c85 :: c86 :: c87 :: c88 :: c89 :: c90 :: c91 :: c92 :: c93 :: c94 :: c95 :: c96 :: c97 :: c98 :: c99 :: c100 :: c101 :: c102 :: c103 :: c104 :: c105 :: c106 :: c107 :: c108 :: c109 :: c110 :: c111 :: c112 :: c113 :: c114 :: c115 :: c116 :: c117 :: c118 :: c119 :: c120 :: c121 :: c122 :: c123 :: c124 :: c125 :: c126 :: c127 :: c128 :: c129 :: c130 :: c131 :: c132 :: c133 :: c134 :: c135 :: c136 :: c137 :: c138 :: c139 :: c140 :: c141 :: c142 :: c143 :: c144 :: c145 :: c146 :: c147 :: c148 :: c149 :: c150 :: c151 :: c152 :: c153 :: c154 :: c155 :: c156 :: c157 :: c158 :: []), []⟩ wB := by
  change some _ = some _ at hcode
  obtain ⟨rfl, rfl⟩ := Code.seq.inj (Option.some.inj hcode)
  clear hcode
  obtain ⟨hrL, hlL, hrD, hlD⟩ := ha.rows
  have hnl0 := ha.nl0
  have hnl1 := ha.nl1
  have hnd0 := ha.nd0
  have hnd1 := ha.nd1
  have HA := hide ha
  have HW := hide hw
  have hgl := hw.lt
  have hob := hw.lob
  have hq2 := hw.two
  have x2 := hw.st.c2
  have xf := hw.st.free 2
  have hD0 : 0 ≤ (A.drop nl).sum := sum_nonneg _ (fun x hx => (hrD x hx).1)
  have hck := hide (check_ref d nd dc (A.drop nl) wB (HD _ ha.own.is))
  have hsg := hide (single_rd wB d nd dc (A.drop nl) (HD _ ha.own.is) hrD (by omega))
  have hno := hide (none_rd wB d nd dc (A.drop nl) (HD _ ha.own.is) hrD)
  have hdi := hide (dsts_is hrD (by omega) hD0)
  have hli := hide (lits_is hrL (by omega))
  have KL := hide HL
  have KD := hide HD
  have H5 := hide h5
  have H6 := hide h6
  have HRC := hide hRC
  clear ha hw h5 h6 hRC HL HD hrL hlL hD0
  -- the state behind
  obtain ⟨t7, ht7⟩ : ∃ t7 : PS, t7 = if dsts (A.drop nl) = true then t6 else { t6 with e := 5 } := ⟨_, rfl⟩
  have H7 := hide ht7
  have FIN := hide (show t7 = RC.2 ∧ (t7.e = 0 → cer (A.take nl) = 0 ∧ cer (A.drop nl) = 0 ∧ RC.1.1 = A.take nl ∧ RC.1.2 = A.drop nl) by
    have e5 := unhide H5
    rw [ht7, unhide H6, unhide HRC]
    unfold twoS
    rw [if_pos e5]
    cases hl : lits (A.take nl) <;> cases hd : dsts (A.drop nl)
    · simp [stopS_live e5]
    · simp [stopS_live e5]
    · simp [stopS_live e5]
    · refine ⟨by simp, fun _ => ?_⟩
      rw [unhide hli] at hl
      rw [unhide hdi] at hd
      simp at hl hd
      exact ⟨hl.2.1, hd.1, rfl, rfl⟩)
  clear ht7 H5 H6 HRC hli
  obtain ⟨WD, hWD⟩ : ∃ WD, WD = whole (A.drop nl) := ⟨_, rfl⟩
  obtain ⟨CE, hCE⟩ : ∃ CE, CE = cer (A.drop nl) := ⟨_, rfl⟩
  obtain ⟨S1, hS1⟩ : ∃ S1, S1 = decide ((A.drop nl).sum = 1) := ⟨_, rfl⟩
  obtain ⟨S0, hS0⟩ : ∃ S0, S0 = decide ((A.drop nl).sum = 0) := ⟨_, rfl⟩
  rw [← hWD, ← hCE] at hck
  rw [← hS1] at hsg
  rw [← hS0] at hno
  obtain ⟨BB, hBB⟩ : ∃ BB : Bool, BB = !dsts (A.drop nl) := ⟨_, rfl⟩
  have HB := hide (show BB = !decide (CE = 0 ∧ (WD = true ∨ S1 = true ∨ S0 = true)) by rw [hBB, unhide hdi, hCE, hWD, hS1, hS0]; simp)
  have H7' := hide (show t7 = if BB = true then { t6 with e := 5 } else t6 by rw [unhide H7, hBB]; cases dsts (A.drop nl) <;> rfl)
  clear hWD hCE hS1 hS0 hBB hdi H7
  go_upto_region 24 with (go_at_call 83; refine same_world (unhide hck) ?_)
  go_cut [151] (fun v wx => v = .bool BB ∧ wx = wB)
  case first =>
    by_cases a1 : CE = 0
    · have a1' : (CE != 0) = false := by simpa using a1
      cases WD with
      | true =>
        have hd := hide (show BB = false by rw [unhide HB]; simp [a1])
        clear a1
        go_wp2_with fail
        go_meet
        rw [unhide hd]
        exact ⟨rfl, rfl⟩
      | false =>
        cases S1 with
        | true =>
          have hd := hide (show BB = false by rw [unhide HB]; simp [a1])
          clear a1
          go_wp2_with (go_at_call 85; refine same_world (unhide hsg) ?_)
          go_meet
          rw [unhide hd]
          exact ⟨rfl, rfl⟩
        | false =>
          have hd := hide (show BB = !S0 by rw [unhide HB]; cases S0 <;> simp [a1])
          clear a1
          cases S0 with
          | true =>
            go_wp2_with (first | (go_at_call 85; refine same_world (unhide hsg) ?_) | (go_at_call 86; refine same_world (unhide hno) ?_))
            go_meet
            rw [unhide hd]
            exact ⟨rfl, rfl⟩
          | false =>
            go_wp2_with (first | (go_at_call 85; refine same_world (unhide hsg) ?_) | (go_at_call 86; refine same_world (unhide hno) ?_))
            go_meet
            rw [unhide hd]
            exact ⟨rfl, rfl⟩
    · have a1' : (CE != 0) = true := by simpa using a1
      have hd := hide (show BB = true by rw [unhide HB]; simp [a1])
      clear a1
      go_wp2_with fail
      go_meet
      rw [unhide hd]
      exact ⟨rfl, rfl⟩
  case rest =>
    obtain ⟨rfl, hwc⟩ := hcut
    subst hwc
    clear hck hsg hno HB
    go_upto_if 151 with fail
    go_cut [] (fun wx => Dw E g q0 w oo oc t7 wx ∧ Da q0 wx ao nl nd ac B A)
    case first =>
      cases BB with
      | true =>
        have S5 := hide (unhide HW).putE
        have A5 := hide ((unhide HA).gb hgl ((Gb.refl g wc).set 2 (.int .i64 5)))
        have hd := hide (show t7 = { t6 with e := 5 } by rw [unhide H7']; rfl)
        go_wp2_with fail
        go_meet
        rw [unhide hd]
        exact ⟨unhide S5, unhide A5⟩
      | false =>
        have hd := hide (show t7 = t6 by rw [unhide H7']; rfl)
        go_wp2_with fail
        go_meet
        rw [unhide hd]
        exact ⟨unhide HW, unhide HA⟩
    case rest =>
      obtain ⟨hw7, ha7⟩ := hcut
      obtain ⟨wC, hwC⟩ : ∃ wC, wC = wc := ⟨_, rfl⟩
      rw [← hwC] at hw7 ha7 ⊢
      clear hwC x2 xf HW HA H7'
      have m1 := hide (made_rd wC lo nl lc (A.take nl) (unhide KL _ ha7.own.is))
      have HW7 := hide hw7
      have HA7 := hide ha7
      have hz7 := hw7.two
      clear hw7 ha7
      go_wp2_with fail
      refine (unhide m1).mono ?_
      rintro e w1 ⟨⟨lk, lkn, lkc, rfl, i1⟩, b1⟩
      have m2 := hide (made_rd w1 d nd dc (A.drop nl) (unhide KD _ ((unhide HA7).later b1).own.is))
      have HW8 := hide ((unhide HW7).later b1)
      have HA8 := hide ((unhide HA7).later b1)
      have I1 := hide i1
      have z1 := b1.size
      clear i1 b1 m1
      go_wp2_with fail
      refine (unhide m2).mono ?_
      rintro e w2 ⟨⟨dk, dkn, dkc, rfl, i2⟩, b2⟩
      have hw9 := (unhide HW8).later b2
      have HW9 := hide hw9
      have HA9 := hide ((unhide HA8).later b2)
      have I1' := hide ((unhide I1).later b2)
      have I2 := hide i2
      have k1 := hide hw9.k1
      have k2 := hide hw9.k2
      have z2 := b2.size
      clear i2 b2 m2 hw9
      go_wp2_with (first
        | (with_reducible show wpList Tryz.prog _ _ (Oper.mk _ (Op.store 101 _ _) _ _ _ none :: _) _ _; refine wpList_cdStore rfl (.tmp 2) (.tmp 156) rfl q0 (.slice lo nl lc) (.slice lk lkn lkc) _ _ rfl rfl rfl rfl (unhide k1) ?_; intro wY stY gY zY; have k3 := hide ((gY.block (q0 + 1) (by omega) (by omega)).trans (unhide k2)))
        | (with_reducible show wpList Tryz.prog _ _ (Oper.mk _ (Op.store 101 _ _) _ _ _ none :: _) _ _; refine wpList_cdStore rfl (.tmp 3) (.tmp 158) rfl (q0 + 1) (.slice d nd dc) (.slice dk dkn dkc) _ _ rfl rfl rfl rfl (unhide k3) ?_; intro wZ stZ gZ zZ))
      have st1 := (gZ.block q0 (by omega) (by omega)).trans stY
      refine bodyPost_ret (results_cd2 rfl _ _ q0 (q0 + 1) _ _ _ _ rfl st1 rfl stZ) rfl ?_
      obtain ⟨sZ, gW⟩ := (unhide HW9).fin gY gZ
      have keep : ∀ (B' : Nat) (xo : Option Addr) (xn xc : Nat) (X : List Int), q0 + 2 ≤ B' → IMine B' w2 xo xn xc X → ∀ oo' w', Fr g oo wZ oo' w' → IMine B' w' xo xn xc X := fun B' xo xn xc X hB hI oo' w' f =>
        imine_stay (hI.keepN fun k hk => (gZ.block k (by omega) (by omega)).trans (gY.block k hk.2 (by omega))) (by omega) (fun k q => by have := hob k q; omega) f
      obtain ⟨e7, f7⟩ := unhide FIN
      refine ⟨lo, nl, lc, lk, lkn, lkc, d, nd, dc, dk, dkn, dkc, t7, rfl, sZ, gW, .inl e7, fun y => ?_⟩
      obtain ⟨c1, c2, r1, r2⟩ := f7 y
      have i1 := unhide I1'
      have i2 := unhide I2
      have n1 : lkn = nl := by rw [← i1.len]; unfold cdd; rw [if_pos c1, cds_len]; simp; have := (unhide HA9).len; omega
      have n2 : dkn = nd := by rw [← i2.len]; unfold cdd; rw [if_pos c2, cds_len]; simp; have := (unhide HA9).len; omega
      subst n1
      subst n2
      rw [show cdd (A.take lkn) = cds (A.take lkn) from if_pos c1] at i1
      rw [show cdd (A.drop lkn) = cds (A.drop lkn) from if_pos c2] at i2
      have hB := (unhide HA9).bB
      rw [r1, r2]
      exact ⟨rfl, rfl, ⟨fun oo' w' f => unhide KL _ (keep _ _ _ _ _ hB (unhide HA9).own oo' w' f).is, fun oo' w' f => (keep _ _ _ _ _ (by omega) i1 oo' w' f).is, c1⟩, ⟨fun oo' w' f => unhide KD _ (keep _ _ _ _ _ hB (unhide HA9).own oo' w' f).is, fun oo' w' f => (keep _ _ _ _ _ (by omega) i2 oo' w' f).is, c2⟩⟩
end
end Go.Proofs.YtnoabdafmgmenaaGreatDoor
