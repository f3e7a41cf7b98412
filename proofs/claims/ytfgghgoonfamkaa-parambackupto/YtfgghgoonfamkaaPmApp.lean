/-
  What dataOf and Append of package param return: the data of parameters behind other bytes. They write nothing that was there. Conditions: at most 60 parameters, 3,000 bytes of texts; at most 10,000 bytes ahead.
-/
import Derived.Test.YtfgghgoonfamkaaPmNul
import Derived.Test.YtfgghgoonfamkaaPmTys
import Derived.Test.YtfgghgoonfamkaaPmVals
import Derived.Test.YtfgghgoonfamkaaRwCat
import Derived.Test.YtfgghgoonfamkaaVaCat
namespace Go.Proofs.Ytfgghgoonfamkaa
open Go.RowKit
set_option linter.unusedVariables false
set_option linter.unusedSimpArgs false

/-- The data in new memory. -/
def OutD (w : World) (l : List Pa) (bd : Bool) (e : Ending) (w' : World) : Prop := ∃ xo xn xc nl, e = .returned (.slice xo xn xc) ∧ Isp l nl ∧ Mine w.heap.size w' xo xn xc (paB l bd nl) ∧ Below w.heap.size w w'
/-- What Append answers. -/
def OutA (w : World) (bb : List Int) (l : List Pa) (bd : Bool) (e : Ending) (w' : World) : Prop :=
  if plOk l = true then ∃ xo xn xc nl, e = .returned (.tuple #[.slice xo xn xc, .int .i64 0]) ∧ Isp l nl ∧ Mine w.heap.size w' xo xn xc (bb ++ paB l bd nl) ∧ Below w.heap.size w w'
  else e = .returned (.tuple #[.slice none 0 0, .int .i64 2]) ∧ Below w.heap.size w w'
theorem OutA.yes {w : World} {bb : List Int} {l : List Pa} {bd : Bool} {e : Ending} {w' : World} (h : plOk l = true) (q : ∃ xo xn xc nl, e = .returned (.tuple #[.slice xo xn xc, .int .i64 0]) ∧ Isp l nl ∧ Mine w.heap.size w' xo xn xc (bb ++ paB l bd nl) ∧ Below w.heap.size w w') : OutA w bb l bd e w' := by
  unfold OutA
  rwa [if_pos h]
theorem OutA.no {w : World} {bb : List Int} {l : List Pa} {bd : Bool} {e : Ending} {w' : World} (h : plOk l = false) (q : e = .returned (.tuple #[.slice none 0 0, .int .i64 2]) ∧ Below w.heap.size w w') : OutA w bb l bd e w' := by
  unfold OutA
  rwa [if_neg (by rw [h]; decide)]
theorem OutA.oks {w : World} {bb : List Int} {l : List Pa} {bd : Bool} {e : Ending} {w' : World} (k : OutA w bb l bd e w') (h : plOk l = true) : ∃ xo xn xc nl, e = .returned (.tuple #[.slice xo xn xc, .int .i64 0]) ∧ Isp l nl ∧ Mine w.heap.size w' xo xn xc (bb ++ paB l bd nl) ∧ Below w.heap.size w w' := by
  unfold OutA at k
  rwa [if_pos h] at k
theorem OutA.nos {w : World} {bb : List Int} {l : List Pa} {bd : Bool} {e : Ending} {w' : World} (k : OutA w bb l bd e w') (h : plOk l = false) : e = .returned (.tuple #[.slice none 0 0, .int .i64 2]) ∧ Below w.heap.size w w' := by
  unfold OutA at k
  rwa [if_neg (by rw [h]; decide)] at k
theorem isp_nil {nl : List Int} (h : nl = []) : Isp [] nl := ⟨by rw [h]; rfl, by rw [h]; exact Byt.nil, fun j => by rw [h]; unfold bit pnb; simp⟩
theorem nz_len {l : List Pa} {n : Nat} (h : l.length = n) (h0 : ¬ n = 0) : l ≠ [] := by
  intro z
  rw [z] at h
  exact h0 h.symm
theorem paB_some {l : List Pa} (h : l ≠ []) (nl : List Int) : paB l false nl = nl ++ [0] ++ pvB l ∧ paB l true nl = nl ++ [1] ++ ptB l ++ pvB l := by
  unfold paB
  rw [if_neg h, if_neg h]
  exact ⟨by simp, by simp⟩

set_option maxHeartbeats 4000000 in
set_option maxRecDepth 100000 in
theorem pdataOf_any (ao : Option Addr) (n c : Nat) (l : List Pa) (bd : Bool) (w : World) (hl : Pas w ao n c l) (hK : ∀ p ∈ l, VaK p.v ∧ p.v.t.size ≤ 3000 ∧ 0 ≤ p.t.t ∧ p.t.t < 256) (hn : n ≤ 60) (hok : plOk l = true) (hsm : psm l ≤ 3000) :
    Calls Try.prog 21 #[.slice ao n c, .bool bd] w fun e w' => OutD w l bd e w' := by
  have hln := hl.len
  have hle := hl.le
  have hmx := hl.max
  by_cases h0 : n = 0
  · subst h0
    have hl0 : l = [] := List.eq_nil_of_length_eq_zero hln
    subst hl0
    clear hl hK hok hsm hln
    go_enter Try.func21, Try.ntmps21
    go_wp2_with fail
    go_ret
    exact ⟨none, 0, 0, [], rfl, isp_nil rfl, Mine.nought _ _, Below.refl _ _⟩
  have g0 : ((n : Int) == 0) = false := by rw [beq_eq_false_iff_ne]; omega
  have hne := nz_len hln h0
  have cN := hide (pnullsOf_any ao n c l w hl hK hn)
  have cT := hide (fun wx (hx : Below w.heap.size w wx) => ptypesOf_any ao n c l wx (hl.later hx) hK hn)
  have cV := hide (fun wx (hx : Below w.heap.size w wx) => pvaluesOf_any ao n c l wx (hl.later hx) hK hn hok hsm)
  have hvl : (pvB l).length ≤ 4200 := by have := pvB_sm l; omega
  have htl := ptB_len l
  obtain ⟨e0, e1⟩ : (∀ nl, paB l false nl = nl ++ [0] ++ pvB l) ∧ (∀ nl, paB l true nl = nl ++ [1] ++ ptB l ++ pvB l) := ⟨fun nl => (paB_some hne nl).1, fun nl => (paB_some hne nl).2⟩
  have E0 := hide e0
  have E1 := hide e1
  have HVL := hide hvl
  have HTL := hide htl
  clear hl hK hok hsm hne h0 e0 e1 hvl htl
  cases bd
  · go_enter Try.func21, Try.ntmps21
    go_wp2_with fail
    refine (unhide cN).mono ?_
    rintro e w1 ⟨no, nn, nc, nl, rfl, hI, hM, b1⟩
    have hnl := hI.len
    have hnn := hM.len
    have q1 := below_alloc w1 (.cells #[.int .u8 0] 5)
    have HB1 := hide b1
    have HM := hide hM.bs
    have HI := hide hI
    have Q1 := hide q1
    have o1 := hide (Bs.one w1 0 (by omega) (by omega))
    have cV1 := hide (unhide cV _ (vbup b1 q1))
    clear b1 hM hI q1 cN cT cV
    go_wp2_with fail
    refine (unhide cV1).mono ?_
    rintro e w2 ⟨vo, vn, vc, rfl, hV, b2⟩
    have hvn := hV.len
    have q2 := below_alloc w2 (.cells #[.slice no nn nc, .slice (some ⟨w1.heap.size, 0, none⟩) 1 1, .slice vo vn vc] 22)
    have b12 := vbup (unhide Q1) b2
    have cC := hide (concat3_any w2.heap.size no nn nc nl (some ⟨w1.heap.size, 0, none⟩) 1 1 [0] vo vn vc (pvB l) (w2.alloc (.cells #[.slice no nn nc, .slice (some ⟨w1.heap.size, 0, none⟩) 1 1, .slice vo vn vc] 22)) (((unhide HM).later b12).later q2) (((unhide o1).later b2).later q2) (hV.bs.later q2) (cell_top w2 _ _ 0 _ rfl) (cell_top w2 _ _ 1 _ rfl) (cell_top w2 _ _ 2 _ rfl) (by omega) (by omega) (by have := unhide HVL; omega))
    have B2 := hide (vbup (vbup (unhide HB1) b12) q2)
    clear b2 hV q2 b12 cV1
    go_wp2_with fail
    refine (unhide cC).mono ?_
    rintro e w3 ⟨xo, xn, xc, rfl, hX, b3⟩
    have X3 := hide (hX.mono (unhide B2).size)
    have B3 := hide (vbup (unhide B2) b3)
    clear hX b3 cC
    go_wp2_with fail
    go_ret
    exact ⟨xo, xn, xc, nl, rfl, unhide HI, by rw [unhide E0]; exact unhide X3, unhide B3⟩
  · go_enter Try.func21, Try.ntmps21
    go_wp2_with fail
    refine (unhide cN).mono ?_
    rintro e w1 ⟨no, nn, nc, nl, rfl, hI, hM, b1⟩
    have hnl := hI.len
    have hnn := hM.len
    have q1 := below_alloc w1 (.cells #[.int .u8 1] 5)
    have HB1 := hide b1
    have HM := hide hM.bs
    have HI := hide hI
    have Q1 := hide q1
    have o1 := hide (Bs.one w1 1 (by omega) (by omega))
    have cT1 := hide (unhide cT _ (vbup b1 q1))
    clear b1 hM hI q1 cN cT
    go_wp2_with fail
    refine (unhide cT1).mono ?_
    rintro e w2 ⟨to_, tn, tc, rfl, hTY, b2⟩
    have htn := hTY.len
    have b12 := vbup (unhide Q1) b2
    have cV1 := hide (unhide cV _ (vbup (unhide HB1) b12))
    have O2 := hide ((unhide o1).later b2)
    have HTY := hide hTY.bs
    have HB12 := hide b12
    clear b2 hTY cT1 cV b12 o1
    go_wp2_with fail
    refine (unhide cV1).mono ?_
    rintro e w3 ⟨vo, vn, vc, rfl, hV, b3⟩
    have hvn := hV.len
    have q3 := below_alloc w3 (.cells #[.slice no nn nc, .slice (some ⟨w1.heap.size, 0, none⟩) 1 1, .slice to_ tn tc, .slice vo vn vc] 22)
    have b13 := vbup (unhide HB12) b3
    have cC := hide (concat4_any w3.heap.size no nn nc nl (some ⟨w1.heap.size, 0, none⟩) 1 1 [1] to_ tn tc (ptB l) vo vn vc (pvB l) (w3.alloc (.cells #[.slice no nn nc, .slice (some ⟨w1.heap.size, 0, none⟩) 1 1, .slice to_ tn tc, .slice vo vn vc] 22)) (((unhide HM).later b13).later q3) (((unhide O2).later b3).later q3) (((unhide HTY).later b3).later q3) (hV.bs.later q3) (cell_top w3 _ _ 0 _ rfl) (cell_top w3 _ _ 1 _ rfl) (cell_top w3 _ _ 2 _ rfl) (cell_top w3 _ _ 3 _ rfl) (by omega) (by omega) (by have := unhide HTL; omega) (by have := unhide HVL; omega))
    have B3 := hide (vbup (vbup (unhide HB1) b13) q3)
    clear b3 hV q3 b13 cV1
    go_wp2_with fail
    refine (unhide cC).mono ?_
    rintro e w4 ⟨xo, xn, xc, rfl, hX, b4⟩
    have X4 := hide (hX.mono (unhide B3).size)
    have B4 := hide (vbup (unhide B3) b4)
    clear hX b4 cC
    go_wp2_with fail
    go_ret
    exact ⟨xo, xn, xc, nl, rfl, unhide HI, by rw [unhide E1]; exact unhide X4, unhide B4⟩

set_option maxHeartbeats 4000000 in
set_option maxRecDepth 100000 in
theorem pappend_any (bo : Option Addr) (bn bc : Nat) (bb : List Int) (ao : Option Addr) (n c : Nat) (l : List Pa) (bd : Bool) (w : World) (hb : Bs w bo bn bc bb) (hl : Pas w ao n c l) (hK : ∀ p ∈ l, VaK p.v ∧ p.v.t.size ≤ 3000 ∧ 0 ≤ p.t.t ∧ p.t.t < 256) (hn : n ≤ 60) (hsm : psm l ≤ 3000) (hbn : bn ≤ 10000) :
    Calls Try.prog 8 #[.slice bo bn bc, .slice ao n c, .bool bd] w fun e w' => OutA w bb l bd e w' := by
  have hle := hl.le
  have hmx := hl.max
  have hbl := hb.len
  have cM := hide (pmayBe_any ao n c l w hl hK)
  have HB := hide hb
  have HL := hide hl
  by_cases hok : plOk l = true
  · have HOK := hide hok
    rw [hok] at cM
    have cD := hide (fun wx (hx : Below w.heap.size w wx) => pdataOf_any ao n c l bd wx (hl.later hx) hK hn hok hsm)
    have hpl : ∀ nl, Isp l nl → (paB l bd nl).length ≤ 5000 := by
      intro nl hI
      have h1 := hI.len
      have h2 := pvB_sm l
      have h3 := ptB_len l
      have h4 := hl.len
      unfold paB
      split
      · simp
      · rw [List.length_append, List.length_append, List.length_append]
        have : (if bd = true then ptB l else []).length ≤ 2 * l.length := by
          split
          · omega
          · simp
        have h6 : ([if bd = true then (1 : Int) else 0] : List Int).length = 1 := rfl
        rw [h6]
        omega
    have HPL := hide hpl
    clear hb hl hK hok hsm hpl
    go_enter Try.func8, Try.ntmps8
    go_wp2_with fail
    refine (unhide cM).mono ?_
    rintro e w1 ⟨rfl, b1⟩
    have B1 := hide b1
    have cD1 := hide (unhide cD _ b1)
    clear b1 cM cD
    go_wp2_with fail
    refine (unhide cD1).mono ?_
    rintro e w2 ⟨xo, xn, xc, nl, rfl, hI, hX, b2⟩
    have hxn := hX.len
    have hpp := unhide HPL nl hI
    have q2 := below_alloc w2 (.cells #[.slice bo bn bc, .slice xo xn xc] 22)
    have cC := hide (concat_any w2.heap.size bo bn bc bb xo xn xc (paB l bd nl) (w2.alloc (.cells #[.slice bo bn bc, .slice xo xn xc] 22)) ((((unhide HB).later (unhide B1)).later b2).later q2) (hX.bs.later q2) (cell_top w2 _ _ 0 _ rfl) (cell_top w2 _ _ 1 _ rfl) (by omega) (by omega))
    have B2 := hide (vbup (vbup (unhide B1) b2) q2)
    have HI := hide hI
    clear hX b2 q2 cD1 hI hpp hxn
    go_wp2_with fail
    refine (unhide cC).mono ?_
    rintro e w3 ⟨yo, yn, yc, rfl, hY, b3⟩
    have Y3 := hide (hY.mono (unhide B2).size)
    have B3 := hide (vbup (unhide B2) b3)
    clear hY b3 cC
    go_wp2_with fail
    go_ret2
    exact OutA.yes (unhide HOK) ⟨yo, yn, yc, nl, rfl, unhide HI, unhide Y3, unhide B3⟩
  · have hok2 : plOk l = false := by simpa using hok
    have HOK := hide hok2
    rw [hok2] at cM
    clear hb hl hK hok hsm hok2
    go_enter Try.func8, Try.ntmps8
    go_wp2_with fail
    refine (unhide cM).mono ?_
    rintro e w1 ⟨rfl, b1⟩
    have B1 := hide b1
    clear b1 cM
    go_wp2_with fail
    go_ret2
    exact OutA.no (unhide HOK) ⟨rfl, unhide B1⟩


end Go.Proofs.Ytfgghgoonfamkaa
