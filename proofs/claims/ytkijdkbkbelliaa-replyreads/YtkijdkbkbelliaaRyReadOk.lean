/-
  What ReadOk returns. It writes nothing that was there. Conditions: the slice can be read; at most 2 to the 40 bytes.
-/
import Derived.Test.YtkijdkbkbelliaaRyReads
import Derived.BigQuiet
import Derived.BigRegion
import Derived.Deep.CutRange
import Derived.Deep.CutBlock
import Derived.Deep.DeepCutAuto
namespace Go.Proofs.Ytkijdkbkbelliaa
open Go.RowKit
set_option linter.unusedVariables false
set_option linter.unusedSimpArgs false

set_option maxHeartbeats 4000000 in
set_option maxRecDepth 100000 in
theorem readOk_any (bo : Option Addr) (bn bc : Nat) (b : List Int) (c : Int) (w : World) (h : Bs w bo bn bc b) (hn : bn ≤ 1099511627776) :
    Calls Try.prog 10 #[.slice bo bn bc, .int .u32 c] w fun e w' => OutOk w (okR b c) e w' := by
  have HR0 := hide (show Rw w 31 #[.int .u64 0, .int .u64 0, .int .u16 0, .int .u16 0, .string ⟨#[]⟩, .slice none 0 0] #[.int .u64 0, .int .u64 0, .int .u16 0, .int .u16 0, .string ⟨#[]⟩, .slice none 0 0] (((w.alloc (.cells #[.int .u64 0, .int .u64 0, .int .u16 0, .int .u16 0, .string ⟨#[]⟩, .slice none 0 0] 31)).alloc (.cells #[.slice bo bn bc, .int .i64 0, .int .i64 0] 105)).alloc (.cells #[.int .u64 0, .int .u64 0, .int .u16 0, .int .u16 0, .string ⟨#[]⟩, .slice none 0 0] 31)) ⟨b, 0⟩ from Rw.new h hn _)
  clear h
  have c1 := hide (fun wx (hx : Fx (w.heap.size + 1) wx ⟨b, 0⟩) => fixed_fx (w.heap.size + 1) wx ⟨b, 0⟩ 1 1 256 rfl (by omega) (by omega) (by decide) hx)
  obtain ⟨s1, hs1⟩ : ∃ z, z = fxS ⟨b, 0⟩ 1 := ⟨_, rfl⟩
  rw [← hs1] at c1
  obtain ⟨v1, hv1⟩ : ∃ z, z = fxA ⟨b, 0⟩ 1 := ⟨_, rfl⟩
  rw [← hv1] at c1
  have c2 := hide (fun wx (hx : Fx (w.heap.size + 1) wx s1) => want_fx (w.heap.size + 1) wx s1 (v1 == 0 || v1 == 254) hx)
  obtain ⟨s2, hs2⟩ : ∃ z, z = waS s1 (v1 == 0 || v1 == 254) := ⟨_, rfl⟩
  rw [← hs2] at c2
  have c3 := hide (fun wx (hx : Fx (w.heap.size + 1) wx s2) => number_fx (w.heap.size + 1) wx s2 hx)
  obtain ⟨s3, hs3⟩ : ∃ z, z = nuS s2 := ⟨_, rfl⟩
  rw [← hs3] at c3
  obtain ⟨v3, hv3⟩ : ∃ z, z = nuA s2 := ⟨_, rfl⟩
  rw [← hv3] at c3
  have c4 := hide (fun wx (hx : Fx (w.heap.size + 1) wx s3) => number_fx (w.heap.size + 1) wx s3 hx)
  obtain ⟨s4, hs4⟩ : ∃ z, z = nuS s3 := ⟨_, rfl⟩
  rw [← hs4] at c4
  obtain ⟨v4, hv4⟩ : ∃ z, z = nuA s3 := ⟨_, rfl⟩
  rw [← hv4] at c4
  have c5 := hide (fun wx (hx : Fx (w.heap.size + 1) wx s4) => fixed_fx (w.heap.size + 1) wx s4 2 2 65536 rfl (by omega) (by omega) (by decide) hx)
  obtain ⟨s5, hs5⟩ : ∃ z, z = fxS s4 2 := ⟨_, rfl⟩
  rw [← hs5] at c5
  obtain ⟨v5, hv5⟩ : ∃ z, z = fxA s4 2 := ⟨_, rfl⟩
  rw [← hv5] at c5
  have c6 := hide (fun wx (hx : Fx (w.heap.size + 1) wx s5) => fixed_fx (w.heap.size + 1) wx s5 2 2 65536 rfl (by omega) (by omega) (by decide) hx)
  obtain ⟨s6, hs6⟩ : ∃ z, z = fxS s5 2 := ⟨_, rfl⟩
  rw [← hs6] at c6
  obtain ⟨v6, hv6⟩ : ∃ z, z = fxA s5 2 := ⟨_, rfl⟩
  rw [← hv6] at c6
  have cR := hide (fun wx (hx : Fx (w.heap.size + 1) wx s6) => rest_fx (w.heap.size + 1) wx s6 hx)
  have cT := hide (fun wx (hx : Fx (w.heap.size + 1) wx s6) => text_fx (w.heap.size + 1) wx s6 hx)
  have cU := hide (fun wx (hx : Fx (w.heap.size + 1) wx (txS s6)) => text_fx (w.heap.size + 1) wx (txS s6) hx)
  have cL := hide (fun wx (hx : Fx (w.heap.size + 1) wx s6) => left_fx (w.heap.size + 1) wx s6 hx)
  have cH := hide (fun wx => hasTrack_any c v5 wx)
  obtain ⟨sT, hsT⟩ : ∃ z, z = tlS s6 c v5 := ⟨_, rfl⟩
  obtain ⟨vI, hvI⟩ : ∃ z, z = tlA s6 c v5 := ⟨_, rfl⟩
  obtain ⟨vT, hvT⟩ : ∃ z, z = tlT s6 c v5 := ⟨_, rfl⟩
  have E1 := hide (fun (q : has c 8388608 = false) => And.intro (show sT = reS s6 by rw [hsT]; unfold tlS; rw [if_pos q]) (And.intro (show vI = strOfNums (reA s6) by rw [hvI]; unfold tlA; rw [if_pos q]) (show vT = [] by rw [hvT]; unfold tlT; rw [if_pos q])))
  have E2 := hide (fun (q : has c 8388608 = true) (q2 : trk c v5 = true) => And.intro (show sT = txS (txS s6) by rw [hsT]; unfold tlS; rw [if_neg (by rw [q]; decide), if_pos q2]) (And.intro (show vI = txA s6 by rw [hvI]; unfold tlA; rw [if_neg (by rw [q]; decide), if_pos q2]) (show vT = nums (txA (txS s6)) by rw [hvT]; unfold tlT; rw [if_neg (by rw [q]; decide), if_pos q2])))
  have E3 := hide (fun (q : has c 8388608 = true) (q2 : trk c v5 = false) (q3 : 0 < s6.b.length) => And.intro (show sT = txS s6 by rw [hsT]; unfold tlS; rw [if_neg (by rw [q]; decide), if_neg (by rw [q2]; decide), if_pos q3]) (And.intro (show vI = txA s6 by rw [hvI]; unfold tlA; rw [if_neg (by rw [q]; decide), if_neg (by rw [q2]; decide), if_pos q3]) (show vT = [] by rw [hvT]; unfold tlT; rw [if_neg (by rw [q]; decide), if_neg (by rw [q2]; decide)])))
  have E4 := hide (fun (q : has c 8388608 = true) (q2 : trk c v5 = false) (q3 : ¬ 0 < s6.b.length) => And.intro (show sT = s6 by rw [hsT]; unfold tlS; rw [if_neg (by rw [q]; decide), if_neg (by rw [q2]; decide), if_neg q3]) (And.intro (show vI = ⟨#[]⟩ by rw [hvI]; unfold tlA; rw [if_neg (by rw [q]; decide), if_neg (by rw [q2]; decide), if_neg q3]) (show vT = [] by rw [hvT]; unfold tlT; rw [if_neg (by rw [q]; decide), if_neg (by rw [q2]; decide)])))
  have c7 := hide (fun wx (hx : Fx (w.heap.size + 1) wx sT) => end_fx (w.heap.size + 1) wx sT hx)
  obtain ⟨s7, hs7⟩ : ∃ z, z = edS sT := ⟨_, rfl⟩
  rw [← hs7] at c7
  have HRES := hide (show okR b c = if s7.e = 0 then (⟨v3, v4, v5, v6, vI, vT⟩, 0) else (⟨0, 0, 0, 0, ⟨#[]⟩, []⟩, s7.e) by subst hs1 hv1 hs2 hs3 hv3 hs4 hv4 hs5 hv5 hs6 hv6 hsT hvI hvT hs7; rfl)
  clear hs1 hv1 hs2 hs3 hv3 hs4 hv4 hs5 hv5 hs6 hv6 hsT hvI hvT hs7
  generalize okR b c = RR at *
  go_enter Try.func10, Try.ntmps10
  go_wp2_with fail
  refine (unhide c1 _ (unhide HR0).fx).mono ?_
  rintro e w1 ⟨⟨rfl, bl1, bh1⟩, ho⟩
  have HR1 := hide ((unhide HR0).call ho)
  clear ho c1 HR0
  go_upto_region 4 with fail
  go_cut [] (fun wx => Rw w 31 #[.int .u64 0, .int .u64 0, .int .u16 0, .int .u16 0, .string ⟨#[]⟩, .slice none 0 0] #[.int .u64 0, .int .u64 0, .int .u16 0, .int .u16 0, .string ⟨#[]⟩, .slice none 0 0] wx s2)
  case first =>
    cases y0 : (v1 == 0)
    · rw [y0, Bool.false_or] at c2
      go_wp2_with fail
      refine (unhide c2 _ (unhide HR1).fx).mono ?_
      rintro e wN ⟨rfl, ho⟩
      have HRN := hide ((unhide HR1).call ho)
      clear ho
      go_wp2_with fail
      go_meet
      exact unhide HRN
    · rw [y0, Bool.true_or] at c2
      go_wp2_with fail
      refine (unhide c2 _ (unhide HR1).fx).mono ?_
      rintro e wN ⟨rfl, ho⟩
      have HRN := hide ((unhide HR1).call ho)
      clear ho
      go_wp2_with fail
      go_meet
      exact unhide HRN
  have HR2 := hide hcut
  clear hcut HR1 c2
  go_wp2_with fail
  refine (unhide c3 _ (unhide HR2).fx).mono ?_
  rintro e w3 ⟨⟨rfl, bl3, bh3⟩, ho⟩
  have HR3 := hide ((unhide HR2).call ho)
  clear ho c3 HR2
  have q4 := (unhide HR3).cell (j := 0) (v := .int .u64 0) rfl
  have qf4 := (unhide HR3).free 0
  have HR4 := hide ((unhide HR3).store 0 (.int .u64 v3) (cs' := #[.int .u64 v3, .int .u64 0, .int .u16 0, .int .u16 0, .string ⟨#[]⟩, .slice none 0 0]) rfl)
  clear HR3
  go_wp2_with fail
  clear q4 qf4
  refine (unhide c4 _ (unhide HR4).fx).mono ?_
  rintro e w5 ⟨⟨rfl, bl4, bh4⟩, ho⟩
  have HR5 := hide ((unhide HR4).call ho)
  clear ho c4 HR4
  have q6 := (unhide HR5).cell (j := 1) (v := .int .u64 0) rfl
  have qf6 := (unhide HR5).free 1
  have HR6 := hide ((unhide HR5).store 1 (.int .u64 v4) (cs' := #[.int .u64 v3, .int .u64 v4, .int .u16 0, .int .u16 0, .string ⟨#[]⟩, .slice none 0 0]) rfl)
  clear HR5
  go_wp2_with fail
  clear q6 qf6
  refine (unhide c5 _ (unhide HR6).fx).mono ?_
  rintro e w7 ⟨⟨rfl, bl5, bh5⟩, ho⟩
  have HR7 := hide ((unhide HR6).call ho)
  clear ho c5 HR6
  have q8 := (unhide HR7).cell (j := 2) (v := .int .u16 0) rfl
  have qf8 := (unhide HR7).free 2
  have HR8 := hide ((unhide HR7).store 2 (.int .u16 v5) (cs' := #[.int .u64 v3, .int .u64 v4, .int .u16 v5, .int .u16 0, .string ⟨#[]⟩, .slice none 0 0]) rfl)
  clear HR7
  go_wp2_with fail
  clear q8 qf8
  refine (unhide c6 _ (unhide HR8).fx).mono ?_
  rintro e w9 ⟨⟨rfl, bl6, bh6⟩, ho⟩
  have HR9 := hide ((unhide HR8).call ho)
  clear ho c6 HR8
  have q10 := (unhide HR9).cell (j := 3) (v := .int .u16 0) rfl
  have qf10 := (unhide HR9).free 3
  have HR10 := hide ((unhide HR9).store 3 (.int .u16 v6) (cs' := #[.int .u64 v3, .int .u64 v4, .int .u16 v5, .int .u16 v6, .string ⟨#[]⟩, .slice none 0 0]) rfl)
  clear HR9
  go_upto_block 0 with fail
  clear q10 qf10
  go_cut [] (fun wx => ∃ xo xn xc, Rw w 31 #[.int .u64 0, .int .u64 0, .int .u16 0, .int .u16 0, .string ⟨#[]⟩, .slice none 0 0] #[.int .u64 v3, .int .u64 v4, .int .u16 v5, .int .u16 v6, .string vI, .slice xo xn xc] wx sT ∧ Bk (w.heap.size + 3) wx xo xn xc vT)
  case first =>
    cases q : has c 8388608
    · have q1 : (bits .and .u32 c 8388608 == 0) = true := by unfold has at q; simpa using q
      have EE := hide (unhide E1 q)
      clear E1 E2 E3 E4 q cT cU cL cH
      go_wp2_with fail
      refine (unhide cR _ (unhide HR10).fx).mono ?_
      rintro e wT ⟨rfl, ho⟩
      rw [← (unhide EE).2.1]
      have HRT := hide ((unhide HR10).call ho)
      have q4 := (unhide HRT).cell (j := 4) (v := .string ⟨#[]⟩) rfl
      have qf4 := (unhide HRT).free 4
      have HRC := hide ((unhide HRT).store 4 (.string vI) (cs' := #[.int .u64 v3, .int .u64 v4, .int .u16 v5, .int .u16 v6, .string vI, .slice none 0 0]) rfl)
      clear HRT ho cR
      go_wp2_with fail
      go_meet
      rw [(unhide EE).1, (unhide EE).2.2]
      exact ⟨_, _, _, unhide HRC, Bk.nought _ _⟩
    · have q1 : (bits .and .u32 c 8388608 == 0) = false := by unfold has at q; simpa using q
      have y2 := (unhide HR10).cell (j := 2) (v := .int .u16 v5) rfl
      clear cR
      go_wp2_with fail
      clear y2
      refine same_world (unhide cH _) ?_
      cases q2 : trk c v5
      · by_cases q3 : 0 < s6.b.length
        · have q3' : (0 : Int) < (s6.b.length : Int) := by omega
          have EE := hide (unhide E3 q q2 q3)
          clear E1 E2 E3 E4 q q2 q3 cU cH
          go_wp2_with fail
          refine (unhide cL _ (unhide HR10).fx).mono ?_
          rintro e wL ⟨rfl, ho⟩
          have HRL := hide ((unhide HR10).call ho)
          clear ho cL
          go_wp2_with fail
          refine (unhide cT _ (unhide HRL).fx).mono ?_
          rintro e wT ⟨⟨rfl, tl⟩, ho⟩
          rw [← (unhide EE).2.1]
          have HRT := hide ((unhide HRL).call ho)
          have q4 := (unhide HRT).cell (j := 4) (v := .string ⟨#[]⟩) rfl
          have qf4 := (unhide HRT).free 4
          have HRC := hide ((unhide HRT).store 4 (.string vI) (cs' := #[.int .u64 v3, .int .u64 v4, .int .u16 v5, .int .u16 v6, .string vI, .slice none 0 0]) rfl)
          clear HRT ho cT HRL q3'
          go_wp2_with fail
          go_meet
          rw [(unhide EE).1, (unhide EE).2.2]
          exact ⟨_, _, _, unhide HRC, Bk.nought _ _⟩
        · have q3' : ¬ ((0 : Int) < (s6.b.length : Int)) := by omega
          have EE := hide (unhide E4 q q2 q3)
          clear E1 E2 E3 E4 q q2 q3 cU cH cT
          go_wp2_with fail
          refine (unhide cL _ (unhide HR10).fx).mono ?_
          rintro e wL ⟨rfl, ho⟩
          have HRL := hide ((unhide HR10).call ho)
          clear ho cL
          go_wp2_with fail
          go_meet
          rw [(unhide EE).1, (unhide EE).2.1, (unhide EE).2.2]
          exact ⟨_, _, _, unhide HRL, Bk.nought _ _⟩
      · have EE := hide (unhide E2 q q2)
        clear E1 E2 E3 E4 q q2 cL cH
        go_wp2_with fail
        refine (unhide cT _ (unhide HR10).fx).mono ?_
        rintro e wT ⟨⟨rfl, tl⟩, ho⟩
        rw [← (unhide EE).2.1]
        have HRT := hide ((unhide HR10).call ho)
        have q4 := (unhide HRT).cell (j := 4) (v := .string ⟨#[]⟩) rfl
        have qf4 := (unhide HRT).free 4
        have HRC := hide ((unhide HRT).store 4 (.string vI) (cs' := #[.int .u64 v3, .int .u64 v4, .int .u16 v5, .int .u16 v6, .string vI, .slice none 0 0]) rfl)
        clear HRT ho cT tl
        go_wp2_with fail
        clear q4 qf4
        refine (unhide cU _ (unhide HRC).fx).mono ?_
        rintro e wU ⟨⟨rfl, tl⟩, ho⟩
        generalize txS (txS s6) = sU at *
        generalize txA (txS s6) = vU at *
        have HRU := hide ((unhide HRC).call ho)
        obtain ⟨wB, hwB⟩ : ∃ z, z = Lib.bytesWorld wU 5 vU := ⟨_, rfl⟩
        obtain ⟨cB, hcB⟩ : ∃ z, z = grownCap wU vU.size 0 5 := ⟨_, rfl⟩
        have hbB := below_bytesWorld wU 5 vU
        have hkB := bk_bytes wU vU (by omega)
        have hconv : (convert 9 22 (.string vU)).run Try.prog wU = .ok (.slice (some ⟨wU.heap.size, 0, none⟩) vU.size cB) wB := by rw [hwB, hcB]; exact run_toBytes vU wU
        rw [← hwB] at hbB hkB
        rw [← hcB] at hkB
        have HRB := hide ((unhide HRU).later hbB)
        have q4 := (unhide HRB).cell (j := 5) (v := .slice none 0 0) rfl
        have qf4 := (unhide HRB).free 5
        have HRD := hide ((unhide HRB).store 5 (.slice (some ⟨wU.heap.size, 0, none⟩) vU.size cB) (cs' := #[.int .u64 v3, .int .u64 v4, .int .u16 v5, .int .u16 v6, .string vI, .slice (some ⟨wU.heap.size, 0, none⟩) vU.size cB]) rfl)
        have HMD := hide ((hkB.mono (B' := w.heap.size + 3) (unhide HRU).lt).set (g := w.heap.size + 2) (by omega) 5 (.slice (some ⟨wU.heap.size, 0, none⟩) vU.size cB))
        clear hwB hcB hbB hkB HRU HRB ho cU tl
        go_wp2_with fail
        go_meet
        rw [(unhide EE).1, (unhide EE).2.2]
        exact ⟨_, _, _, unhide HRD, unhide HMD⟩
  obtain ⟨xo70, xn70, xc70, hr, hm⟩ := hcut
  have HR11 := hide hr
  have HM70_11 := hide hm
  clear hr hm HR10 E1 E2 E3 E4 cR cT cU cL cH
  go_wp2_with fail
  refine (unhide c7 _ (unhide HR11).fx).mono ?_
  rintro e w12 ⟨rfl, ho⟩
  have HR12 := hide ((unhide HR11).call ho)
  have HM70_12 := hide ((unhide HM70_11).gb (g := w.heap.size + 1) (by omega) ho.2)
  clear ho c7 HR11 HM70_11
  have t0 := (unhide HR12).cell (j := 0) (v := .int .u64 v3) rfl
  have t1 := (unhide HR12).cell (j := 1) (v := .int .u64 v4) rfl
  have t2 := (unhide HR12).cell (j := 2) (v := .int .u16 v5) rfl
  have t3 := (unhide HR12).cell (j := 3) (v := .int .u16 v6) rfl
  have t4 := (unhide HR12).cell (j := 4) (v := .string vI) rfl
  have t5 := (unhide HR12).cell (j := 5) (v := .slice xo70 xn70 xc70) rfl
  have u0 := (unhide HR12).rcell (j := 0) (v := .int .u64 0) rfl
  have uf0 := (unhide HR12).rfree 0
  have u1 := (unhide HR12).rcell (j := 1) (v := .int .u64 0) rfl
  have uf1 := (unhide HR12).rfree 1
  have u2 := (unhide HR12).rcell (j := 2) (v := .int .u16 0) rfl
  have uf2 := (unhide HR12).rfree 2
  have u3 := (unhide HR12).rcell (j := 3) (v := .int .u16 0) rfl
  have uf3 := (unhide HR12).rfree 3
  have u4 := (unhide HR12).rcell (j := 4) (v := .string ⟨#[]⟩) rfl
  have uf4 := (unhide HR12).rfree 4
  have u5 := (unhide HR12).rcell (j := 5) (v := .slice none 0 0) rfl
  have uf5 := (unhide HR12).rfree 5
  by_cases he : s7.e = 0
  · have he' : (s7.e != 0) = false := by simpa using he
    have HR' := hide (show RR = (⟨v3, v4, v5, v6, vI, vT⟩, 0) by rw [unhide HRES, if_pos he])
    clear HRES he
    generalize s7.e = E at *
    go_wp2_with fail
    refine bodyPost_ret (results_row_tmp rfl _ _ w.heap.size _ rfl (run_loadVar_row _ w.heap.size _ _ _ _ _ (show _ = some (Obj.cells #[.int .u64 v3, .int .u64 v4, .int .u16 v5, .int .u16 v6, .string vI, .slice xo70 xn70 xc70] 31 (0, 0)) from (heap_setCell_same _ w.heap.size 5 _ _ _ (heap_setCell_same _ w.heap.size 4 _ _ _ (heap_setCell_same _ w.heap.size 3 _ _ _ (heap_setCell_same _ w.heap.size 2 _ _ _ (heap_setCell_same _ w.heap.size 1 _ _ _ (heap_setCell_same _ w.heap.size 0 _ _ _ (unhide HR12).res))))))) Try.underlying31 rfl (by kernel_rfl))) rfl ?_
    rw [unhide HR']
    exact ⟨_, _, _, rfl, (((((((unhide HM70_12).set (g := w.heap.size) (by omega) _ _).set (g := w.heap.size) (by omega) _ _).set (g := w.heap.size) (by omega) _ _).set (g := w.heap.size) (by omega) _ _).set (g := w.heap.size) (by omega) _ _).set (g := w.heap.size) (by omega) _ _).1, (((((((unhide HR12).bel.setCell (Nat.le_refl _) _).setCell (Nat.le_refl _) _).setCell (Nat.le_refl _) _).setCell (Nat.le_refl _) _).setCell (Nat.le_refl _) _).setCell (Nat.le_refl _) _)⟩
  · have he' : (s7.e != 0) = true := by simpa using he
    have HR' := hide (show RR = (⟨0, 0, 0, 0, ⟨#[]⟩, []⟩, s7.e) by rw [unhide HRES, if_neg he])
    clear HRES he
    generalize s7.e = E at *
    go_wp2_with fail
    refine bodyPost_ret (results_row_tmp rfl _ _ w.heap.size _ rfl (run_loadVar_row _ w.heap.size _ _ _ _ _ (show _ = some (Obj.cells #[.int .u64 0, .int .u64 0, .int .u16 0, .int .u16 0, .string ⟨#[]⟩, .slice none 0 0] 31 (0, 0)) from (heap_setCell_same _ w.heap.size 5 _ _ _ (heap_setCell_same _ w.heap.size 4 _ _ _ (heap_setCell_same _ w.heap.size 3 _ _ _ (heap_setCell_same _ w.heap.size 2 _ _ _ (heap_setCell_same _ w.heap.size 1 _ _ _ (heap_setCell_same _ w.heap.size 0 _ _ _ (unhide HR12).res))))))) Try.underlying31 rfl (by kernel_rfl))) rfl ?_
    rw [unhide HR']
    exact ⟨none, 0, 0, rfl, Bs.nought _, (((((((unhide HR12).bel.setCell (Nat.le_refl _) _).setCell (Nat.le_refl _) _).setCell (Nat.le_refl _) _).setCell (Nat.le_refl _) _).setCell (Nat.le_refl _) _).setCell (Nat.le_refl _) _)⟩

end Go.Proofs.Ytkijdkbkbelliaa
