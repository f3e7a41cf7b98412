/-
  The document's dynamic from the two codes' lengths on, over frames of letters. Conditions: the state's own bounds.
-/
import Derived.Test.YtnoabdafmgmenaaGreatDoorRiDynT
namespace Go.Proofs.YtnoabdafmgmenaaGreatDoor
open Go.RowKit
set_option linter.unusedVariables false
set_option linter.unusedSimpArgs false
section
variable {E : Env} {g : Nat} {oo : Option Addr} {oc : Nat}

set_option maxHeartbeats 8000000 in
set_option maxRecDepth 20000 in
theorem dyn_t20 (q0 : Nat) (w : World) (RC : (List Int × List Int) × PS) (x y : Code) (hcode : (Tryz.f63.body.bind (tl 13)) = some (.seq x y)) (K : Act → World → Prop) (hK : ∀ a w', Code.wp Tryz.prog y (bodyPost Tryz.prog Tryz.f63 (fun e w' => OutD E g q0 w oo oc RC e w')) a w' → K a w') (wB : World) (t5 : PS) (ao : Option Addr) (nl nd ac B : Nat) (A : List Int) (hw : Dw E g q0 w oo oc t5 wB) (ha : Da q0 wB ao nl nd ac B A) (lo : Option Addr) (lc : Nat) (d : Option Addr) (dc : Nat) (HL : ∀ w', Is w' ao (nl + nd) ac A → Is w' lo nl lc (A.take nl)) (HD : ∀ w', Is w' ao (nl + nd) ac A → Is w' d nd dc (A.drop nl)) (h5 : t5.e = 0) (hRC : RC = twoS nl (A, t5)) (c1 c4 c5 c6 c7 c8 c9 c10 c11 c14 c15 c16 c17 c18 c19 c20 c21 c22 c23 c24 c25 c26 c27 c28 c29 c30 c31 c32 c33 c34 c35 c36 c37 c38 c39 c40 c41 c42 c43 c44 c45 c46 c47 c48 c49 c50 c51 c52 c53 c54 c55 c56 c57 c58 c59 c60 c61 c62 c63 c64 c65 c66 c67 c68 c69 c70 c71 c72 c73 c74 c75 c76 c77 c78 c79 c80 c81 c82 c83 c84 c85 c86 c87 c88 c89 c90 c91 c92 c93 c94 c95 c96 c97 c98 c99 c100 c101 c102 c103 c104 c105 c106 c107 c108 c109 c110 c111 c112 c113 c114 c115 c116 c117 c118 c119 c120 c121 c122 c123 c124 c125 c126 c127 c128 c129 c130 c131 c132 c133 c134 c135 c136 c137 c138 c139 c140 c141 c142 c143 c144 c145 c146 c147 c148 c149 c150 c151 c152 c153 c154 c155 c156 c157 c158 : Value)
    : Code.wp Tryz.prog x (Exit.then K (bodyPost Tryz.prog Tryz.f63 (fun e w' => OutD E g q0 w oo oc RC e w'))) ⟨List.toArray (.pointer (some ⟨g, 0, none⟩) :: c1 :: .pointer (some ⟨q0, 0, none⟩) :: .pointer (some ⟨q0 + 1, 0, none⟩) :: c4 :: c5 :: c6 :: c7 :: c8 :: c9 :: c10 :: c11 :: .slice lo nl lc :: .slice d nd dc :: c14 :: c15 :: c16 :: c17 :: c18 :: c19 :: c20 :: c21 :: c22 :: c23 :: c24 :: c25 :: c26 :: c27 :: c28 :: c29 :: c30 :: c31 :: c32 :: c33 :: c34 :: c35 :: c36 :: c37 :: c38 :: c39 :: c40 :: c41 :: c42 :: c43 :: c44 :: c45 :: c46 :: c47 :: c48 :: c49 :: c50 :: c51 :: c52 :: c53 :: c54 :: c55 :: c56 :: c57 :: c58 :: c59 :: c60 :: c61 :: c62 :: c63 :: c64 :: c65 :: c66 :: c67 :: c68 :: c69 :: c70 :: c71 :: c72 :: c73 :: c74 :: c75 :: c76 :: c77 :: c78 :: c79 :: c80 :: c81 :: c82 :: c83 :: c84 :: c85 :: c86 :: c87 :: c88 :: c89 :: c90 :: c91 :: c92 :: c93 :: c94 :: c95 :: c96 :: c97 :: c98 :: c99 :: c100 :: c101 :: c102 :: c103 :: c104 :: c105 :: c106 :: c107 :: c108 :: c109 :: c110 :: c111 :: c112 :: c113 :: c114 :: c115 :: c116 :: c117 :: c118 :: c119 :: c120 :: c121 :: c122 :: c123 :: c124 :: c125 :: c126 :: c127 :: c128 :: c129 :: c130 :: c131 :: c132 :: c133 :: c134 :: c135 :: c136 :: c137 :: c138 :: c139 :: c140 :: c141 :: c142 :: c143 :: c144 :: c145 :: c146 :: c147 :: c148 :: c149 :: c150 :: c151 :: c152 :: c153 :: c154 :: c155 :: c156 :: c157 :: c158 :: []), []⟩ wB := by
  change some _ = some _ at hcode
  obtain ⟨rfl, rfl⟩ := Code.seq.inj (Option.some.inj hcode)
  clear hcode
  obtain ⟨hrL, hlL, hrD, hlD⟩ := ha.rows
  have hnl0 := ha.nl0
  have hnl1 := ha.nl1
  have hnd0 := ha.nd0
  have hnd1 := ha.nd1
  have HA := hide ha
  have HW := hide hw
  have hgl := hw.lt
  have hq2 := hw.two
  have x2 := hw.st.c2
  have xf := hw.st.free 2
  have isL := HL _ ha.own.is
  obtain ⟨b1, o1, i1, c1⟩ := isL.idx (i := 256) (by omega) 256 rfl
  have hck := hide (check_ref lo nl lc (A.take nl) wB isL)
  have hsg := hide (single_rd wB lo nl lc (A.take nl) isL hrL (by omega))
  have hli := hide (lits_is hrL (by omega))
  have KL := hide HL
  have KD := hide HD
  have H5 := hide h5
  have HRC := hide hRC
  clear ha hw h5 hRC HL HD hrL hlL hrD hlD isL
  obtain ⟨WL, hWL⟩ : ∃ WL, WL = whole (A.take nl) := ⟨_, rfl⟩
  obtain ⟨CE, hCE⟩ : ∃ CE, CE = cer (A.take nl) := ⟨_, rfl⟩
  obtain ⟨S1, hS1⟩ : ∃ S1, S1 = decide ((A.take nl).sum = 1) := ⟨_, rfl⟩
  obtain ⟨X, hX⟩ : ∃ X, X = (A.take nl)[256]?.getD 0 := ⟨_, rfl⟩
  rw [← hWL, ← hCE] at hck
  rw [← hS1] at hsg
  rw [← hX] at c1
  obtain ⟨BB, hBB⟩ : ∃ BB : Bool, BB = !lits (A.take nl) := ⟨_, rfl⟩
  have HB := hide (show BB = !decide (X ≠ 0 ∧ CE = 0 ∧ (WL = true ∨ S1 = true)) by rw [hBB, unhide hli, hCE, hWL, hS1, hX]; simp)
  have H6 := hide hBB
  clear hWL hCE hS1 hBB hX hli
  go_upto_region 21 with (go_at_call 83; refine same_world (unhide hck) ?_)
  go_cut [127] (fun v wx => v = .bool BB ∧ wx = wB)
  case first =>
    by_cases a0 : X = 0
    · have a0' : (X == 0) = true := by simpa using a0
      have hd := hide (show BB = true by rw [unhide HB]; simp [a0])
      clear a0
      go_wp2_with fail
      go_meet
      rw [unhide hd]
      exact ⟨rfl, rfl⟩
    · have a0' : (X == 0) = false := by simpa using a0
      by_cases a1 : CE = 0
      · have a1' : (CE != 0) = false := by simpa using a1
        cases WL with
        | true =>
          have hd := hide (show BB = false by rw [unhide HB]; simp [a0, a1])
          clear a1 a0
          go_wp2_with fail
          go_meet
          rw [unhide hd]
          exact ⟨rfl, rfl⟩
        | false =>
          have hd := hide (show BB = !S1 by rw [unhide HB]; cases S1 <;> simp [a0, a1])
          clear a1 a0
          cases S1 with
          | true =>
            go_wp2_with (go_at_call 85; refine same_world (unhide hsg) ?_)
            go_meet
            rw [unhide hd]
            exact ⟨rfl, rfl⟩
          | false =>
            go_wp2_with (go_at_call 85; refine same_world (unhide hsg) ?_)
            go_meet
            rw [unhide hd]
            exact ⟨rfl, rfl⟩
      · have a1' : (CE != 0) = true := by simpa using a1
        have hd := hide (show BB = true by rw [unhide HB]; simp [a1])
        clear a1 a0
        go_wp2_with fail
        go_meet
        rw [unhide hd]
        exact ⟨rfl, rfl⟩
  case rest =>
    obtain ⟨rfl, hwc⟩ := hcut
    subst hwc
    clear hck hsg HB
    obtain ⟨t6, ht6⟩ : ∃ t6 : PS, t6 = if lits (A.take nl) = true then t5 else { t5 with e := 5 } := ⟨_, rfl⟩
    have H6' := hide (show t6 = if BB = true then { t5 with e := 5 } else t5 by rw [ht6, unhide H6]; cases lits (A.take nl) <;> rfl)
    have H66 := hide ht6
    clear ht6 H6
    go_upto_if 127 with fail
    go_cut [] (fun wx => Dw E g q0 w oo oc t6 wx ∧ Da q0 wx ao nl nd ac B A)
    case first =>
      cases BB with
      | true =>
        have S5 := hide (unhide HW).putE
        have A5 := hide ((unhide HA).gb hgl ((Gb.refl g wc).set 2 (.int .i64 5)))
        have hd := hide (show t6 = { t5 with e := 5 } by rw [unhide H6']; rfl)
        go_wp2_with fail
        go_meet
        rw [unhide hd]
        exact ⟨unhide S5, unhide A5⟩
      | false =>
        have hd := hide (show t6 = t5 by rw [unhide H6']; rfl)
        go_wp2_with fail
        go_meet
        rw [unhide hd]
        exact ⟨unhide HW, unhide HA⟩
    case rest =>
      obtain ⟨hw6, ha6⟩ := hcut
      clear x2 xf HW HA H6' b1 o1 i1 c1
      go_upto_region 23 with fail
      exact dyn_t23 q0 w RC _ _ (by kernel_rfl) _ (by assumption) _ t6 t5 ao nl nd ac B A hw6 ha6 lo lc d dc (unhide KL) (unhide KD) (unhide H5) (unhide H66) (unhide HRC) _ _ _ _ _ _ _ _ _ _ _ _ _ _ _ _ _ _ _ _ _ _ _ _ _ _ _ _ _ _ _ _ _ _ _ _ _ _ _ _ _ _ _ _ _ _ _ _ _ _ _ _ _ _ _ _ _ _ _ _ _ _ _ _ _ _ _ _ _ _ _ _ _ _ _ _ _ _ _ _ _ _ _ _ _ _ _ _ _ _ _ _ _ _ _ _ _ _ _ _ _ _ _ _ _ _ _ _ _ _ _ _ _ _ _ _ _ _ _ _ _ _ _ _ _ _ _ _ _ _ _ _ _ _ _ _ _ _ _ _ _ _ _ _ _ _ _ _ _ _ _ _ _ _

set_option maxHeartbeats 8000000 in
set_option maxRecDepth 20000 in
theorem dyn_t17 (q0 : Nat) (w : World) (RC : (List Int × List Int) × PS) (x1 x2 y : Code) (hcode : (Tryz.f63.body.bind (tl 11)) = some (.seq (.seq x1 x2) y)) (K1 K2 : Act → World → Prop) (hK1 : ∀ a w', Code.wp Tryz.prog x2 (Exit.then K2 (bodyPost Tryz.prog Tryz.f63 (fun e w' => OutD E g q0 w oo oc RC e w'))) a w' → K1 a w') (hK2 : ∀ a w', Code.wp Tryz.prog y (bodyPost Tryz.prog Tryz.f63 (fun e w' => OutD E g q0 w oo oc RC e w')) a w' → K2 a w') (wB : World) (t5 : PS) (ao : Option Addr) (an ac nl nd B : Nat) (A : List Int) (NL : Int) (hNL : NL = (nl : Int)) (hw : Dw E g q0 w oo oc t5 wB) (ha : t5.e = 0 → an = nl + nd ∧ Da q0 wB ao nl nd ac B A) (hRC : RC = twoS nl (A, t5)) (c1 c5 c6 c7 c8 c9 c10 c12 c13 c14 c15 c16 c17 c18 c19 c20 c21 c22 c23 c24 c25 c26 c27 c28 c29 c30 c31 c32 c33 c34 c35 c36 c37 c38 c39 c40 c41 c42 c43 c44 c45 c46 c47 c48 c49 c50 c51 c52 c53 c54 c55 c56 c57 c58 c59 c60 c61 c62 c63 c64 c65 c66 c67 c68 c69 c70 c71 c72 c73 c74 c75 c76 c77 c78 c79 c80 c81 c82 c83 c84 c85 c86 c87 c88 c89 c90 c91 c92 c93 c94 c95 c96 c97 c98 c99 c100 c101 c102 c103 c104 c105 c106 c107 c108 c109 c110 c111 c112 c113 c114 c115 c116 c117 c118 c119 c120 c121 c122 c123 c124 c125 c126 c127 c128 c129 c130 c131 c132 c133 c134 c135 c136 c137 c138 c139 c140 c141 c142 c143 c144 c145 c146 c147 c148 c149 c150 c151 c152 c153 c154 c155 c156 c157 c158 : Value)
    : Code.wp Tryz.prog x1 (Exit.then K1 (Exit.then K2 (bodyPost Tryz.prog Tryz.f63 (fun e w' => OutD E g q0 w oo oc RC e w')))) ⟨List.toArray (.pointer (some ⟨g, 0, none⟩) :: c1 :: .pointer (some ⟨q0, 0, none⟩) :: .pointer (some ⟨q0 + 1, 0, none⟩) :: .int .i64 NL :: c5 :: c6 :: c7 :: c8 :: c9 :: c10 :: .slice ao an ac :: c12 :: c13 :: c14 :: c15 :: c16 :: c17 :: c18 :: c19 :: c20 :: c21 :: c22 :: c23 :: c24 :: c25 :: c26 :: c27 :: c28 :: c29 :: c30 :: c31 :: c32 :: c33 :: c34 :: c35 :: c36 :: c37 :: c38 :: c39 :: c40 :: c41 :: c42 :: c43 :: c44 :: c45 :: c46 :: c47 :: c48 :: c49 :: c50 :: c51 :: c52 :: c53 :: c54 :: c55 :: c56 :: c57 :: c58 :: c59 :: c60 :: c61 :: c62 :: c63 :: c64 :: c65 :: c66 :: c67 :: c68 :: c69 :: c70 :: c71 :: c72 :: c73 :: c74 :: c75 :: c76 :: c77 :: c78 :: c79 :: c80 :: c81 :: c82 :: c83 :: c84 :: c85 :: c86 :: c87 :: c88 :: c89 :: c90 :: c91 :: c92 :: c93 :: c94 :: c95 :: c96 :: c97 :: c98 :: c99 :: c100 :: c101 :: c102 :: c103 :: c104 :: c105 :: c106 :: c107 :: c108 :: c109 :: c110 :: c111 :: c112 :: c113 :: c114 :: c115 :: c116 :: c117 :: c118 :: c119 :: c120 :: c121 :: c122 :: c123 :: c124 :: c125 :: c126 :: c127 :: c128 :: c129 :: c130 :: c131 :: c132 :: c133 :: c134 :: c135 :: c136 :: c137 :: c138 :: c139 :: c140 :: c141 :: c142 :: c143 :: c144 :: c145 :: c146 :: c147 :: c148 :: c149 :: c150 :: c151 :: c152 :: c153 :: c154 :: c155 :: c156 :: c157 :: c158 :: []), []⟩ wB := by
  change some _ = some _ at hcode
  obtain ⟨h1, rfl⟩ := Code.seq.inj (Option.some.inj hcode)
  obtain ⟨rfl, rfl⟩ := Code.seq.inj h1
  clear hcode h1
  subst hNL
  have x2 := hw.st.c2
  have hq2 := hw.two
  by_cases e5 : t5.e = 0
  · have e5' : (t5.e != 0) = false := by simpa using e5
    obtain ⟨han, hA⟩ := ha e5
    subst han
    obtain ⟨lo, lc, hcutL, isL⟩ := icut_h ao (nl + nd) ac nl A (by omega) hA.own.is.le
    obtain ⟨d, dc, hcutD, isD⟩ := icut_l ao (nl + nd) ac nl A (by omega)
    rw [show nl + nd - nl = nd by omega] at hcutD isD
    have KL := hide isL
    have KD := hide isD
    have HW := hide hw
    have HA := hide hA
    have H5 := hide e5
    have HRC := hide hRC
    have hac := hA.own.is.le
    have hacx := hA.own.is.max
    have hnl1 := hA.nl1
    have hnd1 := hA.nd1
    clear isL isD hw hA ha e5 hRC
    go_wp2_with fail
    go_quiet (fail)
    go_upto_region 20 with fail
    exact dyn_t20 q0 w RC _ _ (by kernel_rfl) _ (by assumption) _ t5 ao nl nd ac B A ((unhide HW).later (dr_below _ _)) ((unhide HA).later (dr_below _ _)) lo lc d dc (unhide KL) (unhide KD) (unhide H5) (unhide HRC) _ _ _ _ _ _ _ _ _ _ _ _ _ _ _ _ _ _ _ _ _ _ _ _ _ _ _ _ _ _ _ _ _ _ _ _ _ _ _ _ _ _ _ _ _ _ _ _ _ _ _ _ _ _ _ _ _ _ _ _ _ _ _ _ _ _ _ _ _ _ _ _ _ _ _ _ _ _ _ _ _ _ _ _ _ _ _ _ _ _ _ _ _ _ _ _ _ _ _ _ _ _ _ _ _ _ _ _ _ _ _ _ _ _ _ _ _ _ _ _ _ _ _ _ _ _ _ _ _ _ _ _ _ _ _ _ _ _ _ _ _ _ _ _ _ _ _ _ _ _ _ _ _ _
  · have e5' : (t5.e != 0) = true := by simpa using e5
    have k1 := hide hw.k1
    have k2 := hide hw.k2
    have HW := hide hw
    have FX := hide (show t5 = RC.2 by rw [hRC, twoS_dead e5])
    have E5 := hide e5
    clear hw ha e5 hRC
    go_wp2_with (first
      | (with_reducible show wpList Tryz.prog _ _ (Oper.mk _ (Op.store 101 _ _) _ _ _ none :: _) _ _; refine wpList_cdStore rfl (.tmp 2) (.tmp 98) rfl q0 (.slice none 0 0) (.slice none 0 0) _ _ rfl rfl rfl rfl (unhide k1) ?_; intro wY stY gY zY; have k3 := hide ((gY.block (q0 + 1) (by omega) (by omega)).trans (unhide k2)))
      | (with_reducible show wpList Tryz.prog _ _ (Oper.mk _ (Op.store 101 _ _) _ _ _ none :: _) _ _; refine wpList_cdStore rfl (.tmp 3) (.tmp 99) rfl (q0 + 1) (.slice none 0 0) (.slice none 0 0) _ _ rfl rfl rfl rfl (unhide k3) ?_; intro wZ stZ gZ zZ))
    have st1 := (gZ.block q0 (by omega) (by omega)).trans stY
    refine bodyPost_ret (results_cd2 rfl _ _ q0 (q0 + 1) _ _ _ _ rfl st1 rfl stZ) rfl ?_
    obtain ⟨sZ, gW⟩ := (unhide HW).fin gY gZ
    exact ⟨none, 0, 0, none, 0, 0, none, 0, 0, none, 0, 0, t5, rfl, sZ, gW, .inl (unhide FX), fun y => absurd y (unhide E5)⟩
end
end Go.Proofs.YtnoabdafmgmenaaGreatDoor
