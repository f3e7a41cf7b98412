/-
  GreetBack walked: what logins say, written, is read back as it was; a byte less is too short, a byte more is wrong. Conditions: lengths below 2 to the 39.
-/
import Derived.Test.YtkijdkbkbelliaaGpLives
import Derived.Test.YtkijdkbkbelliaaGpSmall
import Derived.Test.YtkijdkbkbelliaaGpApSw
import Derived.Test.YtkijdkbkbelliaaGpApCu
import Derived.Test.YtkijdkbkbelliaaGpSwitch
import Derived.Test.YtkijdkbkbelliaaGpAnswer
import Derived.Test.YtkijdkbkbelliaaGpChange
import Derived.Test.YtkijdkbkbelliaaGpGreet
import Derived.Test.YtkijdkbkbelliaaGpSame
import Derived.Test.YtkijdkbkbelliaaGpR
import Derived.Test.YtkijdkbkbelliaaGrPart
import Derived.Deep.RegionHeld3
import Derived.Deep.CutRange
import Derived.Deep.DeepCutAuto
namespace Go.Proofs.Ytkijdkbkbelliaa
open Go.RowKit
set_option linter.unusedVariables false
set_option linter.unusedSimpArgs false

set_option maxHeartbeats 16000000 in
set_option maxRecDepth 100000 in
theorem lawGrBack (go : Option Addr) (gn gc : Nat) (G : Gr) (ro : Option Addr) (rn rc : Nat) (tt : Option Addr) (tn tc : Nat) (A : An) (so : Option Addr) (sn sc : Nat) (S : Sw) (uo : Option Addr) (un uc : Nat) (vo : Option Addr) (vn vc : Nat) (U : Cu) (C : Int) (cut more : Int) (w : World) (hG : Bs w go gn gc G.no) (hA : Bs w ro rn rc A.re) (hT : As w tt tn tc A.at') (hS : Bs w so sn sc S.no) (hU : Bs w uo un uc U.re) (hV : As w vo vn vc U.at') (kG : GrK G) (kA : AnK A) (kU : CuK U) (hm0 : 0 ≤ more) (hm1 : more ≤ 255)
    (hz : G.ve.size + gn + G.pl.size + A.us.size + rn + A.sc.size + A.pl.size + S.pl.size + sn + U.us.size + un + U.sc.size + U.pl.size + (aB A.at').length + (aB U.at').length ≤ 549755813888) :
    Calls Try.prog 8 #[.agg #[.string G.ve, .int .u32 G.th, .slice go gn gc, .int .u32 G.ca, .int .u8 G.ch, .int .u16 G.st, .string G.pl, .int .u32 A.ca, .int .u32 A.mo, .int .u8 A.ch, .string A.us, .slice ro rn rc, .string A.sc, .string A.pl, .slice tt tn tc, .string S.pl, .slice so sn sc, .string U.us, .slice uo un uc, .string U.sc, .int .u16 U.ch, .string U.pl, .slice vo vn vc, .int .u32 C], .int .i64 cut, .int .u8 more] w fun e w' => e = .returned (.bool true) ∧ Below w.heap.size w w' := by
  have b0 := below_alloc w (.cells #[.string G.ve, .int .u32 G.th, .slice go gn gc, .int .u32 G.ca, .int .u8 G.ch, .int .u16 G.st, .string G.pl, .int .u32 A.ca, .int .u32 A.mo, .int .u8 A.ch, .string A.us, .slice ro rn rc, .string A.sc, .string A.pl, .slice tt tn tc, .string S.pl, .slice so sn sc, .string U.us, .slice uo un uc, .string U.sc, .int .u16 U.ch, .string U.pl, .slice vo vn vc, .int .u32 C] 73)
  have q0 := heap_alloc_new w (.cells #[.string G.ve, .int .u32 G.th, .slice go gn gc, .int .u32 G.ca, .int .u8 G.ch, .int .u16 G.st, .string G.pl, .int .u32 A.ca, .int .u32 A.mo, .int .u8 A.ch, .string A.us, .slice ro rn rc, .string A.sc, .string A.pl, .slice tt tn tc, .string S.pl, .slice so sn sc, .string U.us, .slice uo un uc, .string U.sc, .int .u16 U.ch, .string U.pl, .slice vo vn vc, .int .u32 C] 73)
  have cL := hide (lives_any (w.alloc (.cells #[.string G.ve, .int .u32 G.th, .slice go gn gc, .int .u32 G.ca, .int .u8 G.ch, .int .u16 G.st, .string G.pl, .int .u32 A.ca, .int .u32 A.mo, .int .u8 A.ch, .string A.us, .slice ro rn rc, .string A.sc, .string A.pl, .slice tt tn tc, .string S.pl, .slice so sn sc, .string U.us, .slice uo un uc, .string U.sc, .int .u16 U.ch, .string U.pl, .slice vo vn vc, .int .u32 C] 73)))
  have B0 := hide b0
  have Q0 := hide q0
  have z0 : (w.alloc (.cells #[.string G.ve, .int .u32 G.th, .slice go gn gc, .int .u32 G.ca, .int .u8 G.ch, .int .u16 G.st, .string G.pl, .int .u32 A.ca, .int .u32 A.mo, .int .u8 A.ch, .string A.us, .slice ro rn rc, .string A.sc, .string A.pl, .slice tt tn tc, .string S.pl, .slice so sn sc, .string U.us, .slice uo un uc, .string U.sc, .int .u16 U.ch, .string U.pl, .slice vo vn vc, .int .u32 C] 73)).heap.size = w.heap.size + 1 := by simp
  have HG := hide hG
  have HA := hide hA
  have HT := hide hT
  have HS := hide hS
  have HU := hide hU
  have HV := hide hV
  have lG := hG.len
  have lA := hA.len
  have lS := hS.len
  have lU := hU.len
  have LEN := hide (And.intro lG (And.intro lA (And.intro lS lU)))
  clear hG hA hT hS hU hV b0 q0 lG lA lS lU
  go_enter Try.func8, Try.ntmps8
  go_wp2_with fail
  refine (unhide cL).mono ?_
  rintro e w1 ⟨rfl, b1⟩
  have HQ := hide ((b1.block w.heap.size (by omega)).trans (unhide Q0))
  have BC := hide ((unhide B0).trans (b1.mono (by omega)))
  have HL := hide (show w.heap.size < w1.heap.size by have := b1.size; omega)
  clear b1 cL B0 Q0
  have SZ := hide (show (Try.prog.info? 73).map (·.size) = some (#[.string G.ve, .int .u32 G.th, .slice go gn gc, .int .u32 G.ca, .int .u8 G.ch, .int .u16 G.st, .string G.pl, .int .u32 A.ca, .int .u32 A.mo, .int .u8 A.ch, .string A.us, .slice ro rn rc, .string A.sc, .string A.pl, .slice tt tn tc, .string S.pl, .slice so sn sc, .string U.us, .slice uo un uc, .string U.sc, .int .u16 U.ch, .string U.pl, .slice vo vn vc, .int .u32 C] : Array Value).size from Try.pkSize)
  have cM := hide (small_any go gn gc G ro rn rc tt tn tc A so sn sc S uo un uc vo vn vc U C w1 ((unhide HG).later (unhide BC)) ((unhide HA).later (unhide BC)) ((unhide HT).later (unhide BC)) ((unhide HS).later (unhide BC)) ((unhide HU).later (unhide BC)) ((unhide HV).later (unhide BC)) (by omega))
  go_wp2_with (with_reducible show wpList Try.prog _ _ (Oper.mk _ (Op.load 73 _) _ _ _ none :: _) _ _; refine wpList_load_row rfl _ (.tmp 3) rfl w.heap.size rfl _ #[.string G.ve, .int .u32 G.th, .slice go gn gc, .int .u32 G.ca, .int .u8 G.ch, .int .u16 G.st, .string G.pl, .int .u32 A.ca, .int .u32 A.mo, .int .u8 A.ch, .string A.us, .slice ro rn rc, .string A.sc, .string A.pl, .slice tt tn tc, .string S.pl, .slice so sn sc, .string U.us, .slice uo un uc, .string U.sc, .int .u16 U.ch, .string U.pl, .slice vo vn vc, .int .u32 C] (0, 0) _ (unhide HQ) Try.underlying73 rfl (unhide SZ) ?_)
  clear SZ
  refine (unhide cM).mono ?_
  rintro e w2 ⟨z, rfl, b2⟩
  have HQ2 := hide ((b2.block w.heap.size (unhide HL)).trans (unhide HQ))
  have BC2 := hide ((unhide BC).trans (b2.mono (unhide BC).size))
  have HL2 := hide (Nat.lt_of_lt_of_le (unhide HL) b2.size)
  clear b2 cM HQ BC HL
  cases z
  · go_wp2_with fail
    go_ret
    exact ⟨rfl, unhide BC2⟩
  have HQ := HQ2
  have BC := BC2
  have HL := HL2
  clear HQ2 BC2 HL2
  have p0 := cell_of_row _ _ 0 _ _ _ (unhide HQ)
  have p1 := cell_of_row _ _ 1 _ _ _ (unhide HQ)
  have p2 := cell_of_row _ _ 2 _ _ _ (unhide HQ)
  have p3 := cell_of_row _ _ 3 _ _ _ (unhide HQ)
  have p4 := cell_of_row _ _ 4 _ _ _ (unhide HQ)
  have p5 := cell_of_row _ _ 5 _ _ _ (unhide HQ)
  have p6 := cell_of_row _ _ 6 _ _ _ (unhide HQ)
  simp only [List.getElem?_toArray, List.getElem?_cons_succ, List.getElem?_cons_zero] at p0 p1 p2 p3 p4 p5 p6
  have cA := hide ((appendGreeting_any none 0 0 [] go gn gc G _ (Bs.nought _) ((unhide HG).later (unhide BC)) kG (by simp only [List.length_nil]; omega)).mono fun _ _ h => OutP.oute h)
  rw [List.nil_append] at cA
  go_wp2_with fail
  refine (unhide cA).mono ?_
  rintro e w3 ⟨ao, an, ac, E, LB, rfl, hm, hok, b3⟩
  have HQ3 := hide ((b3.block w.heap.size (unhide HL)).trans (unhide HQ))
  have BC3 := hide ((unhide BC).trans (b3.mono (unhide BC).size))
  have HL3 := hide (Nat.lt_of_lt_of_le (unhide HL) b3.size)
  have HM := hide hm
  have HOK := hide hok
  clear b3 hm hok cA HQ BC HL p0 p1 p2 p3 p4 p5 p6
  go_upto_if 45 with fail
  go_cut [] (fun wx => Below w.heap.size w wx ∧ wx.heap[w.heap.size]? = some (.cells #[.string G.ve, .int .u32 G.th, .slice go gn gc, .int .u32 G.ca, .int .u8 G.ch, .int .u16 G.st, .string G.pl, .int .u32 A.ca, .int .u32 A.mo, .int .u8 A.ch, .string A.us, .slice ro rn rc, .string A.sc, .string A.pl, .slice tt tn tc, .string S.pl, .slice so sn sc, .string U.us, .slice uo un uc, .string U.sc, .int .u16 U.ch, .string U.pl, .slice vo vn vc, .int .u32 C] 73 (0, 0)))
  case first =>
    by_cases he : E = 0
    · have he' : (E == 0) = true := by simpa using he
      obtain ⟨hk, hB⟩ := unhide HOK he
      have BK := hide (show grR LB = (G, 0) by rw [hB]; exact gr_back hk kG)
      have PT := hide (fun k (h : k < LB.length) => show (grR (LB.take k)).2 = 4 by rw [hB] at h ⊢; exact gr_part hk kG h)
      have MR := hide (show (grR (LB ++ [more])).2 = 5 by rw [hB]; exact gr_more hk kG more)
      have hlb := (unhide HM).len
      have hbig : LB.length ≤ 1099511627000 := by have h := hB; rw [hB]; unfold grB; simp only [List.length_append, enB_len, le_length, List.length_replicate, List.length_take, List.length_drop, List.length_cons, List.length_nil]; have h1 := plB_len G.ca G.pl; have := unhide LEN; omega
      have hpos : 0 < LB.length := by rw [hB]; unfold grB; simp
      rw [hlb] at hbig hpos
      have hale := (unhide HM).le
      have hamx := (unhide HM).max
      have cR := hide (readGreeting_any ao an ac LB w3 (unhide HM) (by omega))
      rw [unhide BK] at cR
      have HLB := hide hlb
      clear he hk hB hlb
      go_wp2_with fail
      refine (unhide cR).mono ?_
      rintro e w4 ⟨xo, xn, xc, rfl, hx, b4⟩
      have b5 := below_alloc w4 (.cells #[.string G.ve, .int .u32 G.th, .slice xo xn xc, .int .u32 G.ca, .int .u8 G.ch, .int .u16 G.st, .string G.pl] 64)
      have b45 := b4.trans (b5.mono b4.size)
      have HM5 := hide ((unhide HM).later b45)
      have HX5 := hide (hx.later b5)
      have BC5 := hide ((unhide BC3).trans (b45.mono (unhide BC3).size))
      have HQ5 := hide ((b45.block w.heap.size (unhide HL3)).trans (unhide HQ3))
      have HK5 := hide (heap_alloc_new w4 (.cells #[.string G.ve, .int .u32 G.th, .slice xo xn xc, .int .u32 G.ca, .int .u8 G.ch, .int .u16 G.st, .string G.pl] 64))
      have z5 : (w4.alloc (.cells #[.string G.ve, .int .u32 G.th, .slice xo xn xc, .int .u32 G.ca, .int .u8 G.ch, .int .u16 G.st, .string G.pl] 64)).heap.size = w4.heap.size + 1 := by simp
      have z4 := b4.size
      have cP := hide (pick_any cut (an : Int) (w4.alloc (.cells #[.string G.ve, .int .u32 G.th, .slice xo xn xc, .int .u32 G.ca, .int .u8 G.ch, .int .u16 G.st, .string G.pl] 64)) (by omega) (by omega))
      clear b4 b5 b45 hx cR
      go_wp2_with fail
      refine (unhide cP).mono ?_
      rintro e w5 ⟨⟨r, rfl, hr0, hr1⟩, hw5⟩
      subst hw5
      obtain ⟨k, rfl⟩ := Int.eq_ofNat_of_zero_le hr0
      obtain ⟨ko, kc, hcut1, hkb⟩ := (unhide HM5).cut_h (hi := k) (by omega) (k : Int) rfl
      obtain ⟨R2, hR2⟩ : ∃ z, z = grR (LB.take k) := ⟨_, rfl⟩
      have e2 : R2.2 = 4 := by rw [hR2]; exact unhide PT k (by rw [unhide HLB]; omega)
      have cR2 := hide (readGreeting_any ko k kc (LB.take k) _ hkb (by omega))
      rw [← hR2] at cR2
      clear hR2 hkb cP
      go_wp2_with fail
      refine (unhide cR2).mono ?_
      rintro e w6 ⟨ao6, an6, ac6, rfl, hx6, b6⟩
      rw [e2]
      have z6 := b6.size
      rw [z5] at z6
      have b7 := below_alloc w6 (.cells #[.string R2.1.ve, .int .u32 R2.1.th, .slice ao6 an6 ac6, .int .u32 R2.1.ca, .int .u8 R2.1.ch, .int .u16 R2.1.st, .string R2.1.pl] 64)
      have b67 := b6.trans (b7.mono b6.size)
      have z7 : (w6.alloc (.cells #[.string R2.1.ve, .int .u32 R2.1.th, .slice ao6 an6 ac6, .int .u32 R2.1.ca, .int .u8 R2.1.ch, .int .u16 R2.1.st, .string R2.1.pl] 64)).heap.size = w6.heap.size + 1 := by simp
      have b8 := below_alloc (w6.alloc (.cells #[.string R2.1.ve, .int .u32 R2.1.th, .slice ao6 an6 ac6, .int .u32 R2.1.ca, .int .u8 R2.1.ch, .int .u16 R2.1.st, .string R2.1.pl] 64)) (.cells #[] 5)
      have b68 := b67.trans (b8.mono (by rw [z5, z7]; omega))
      have m8 := Mine.empty (w6.alloc (.cells #[.string R2.1.ve, .int .u32 R2.1.th, .slice ao6 an6 ac6, .int .u32 R2.1.ca, .int .u8 R2.1.ch, .int .u16 R2.1.st, .string R2.1.pl] 64))
      rw [z7] at m8
      have M8 := hide m8
      have HM8 := hide ((unhide HM5).later b68)
      have B8 := hide b68
      have z8 : ((w6.alloc (.cells #[.string R2.1.ve, .int .u32 R2.1.th, .slice ao6 an6 ac6, .int .u32 R2.1.ca, .int .u8 R2.1.ch, .int .u16 R2.1.st, .string R2.1.pl] 64)).alloc (.cells #[] 5)).heap.size = w6.heap.size + 2 := by simp
      clear b6 b7 b67 b8 b68 m8 hx6 cR2 hcut1
      go_wp2_with (first
        | (at_builtin; refine wpList_appM rfl (.tmp 62) (.tmp 63) rfl (w6.heap.size + 1) _ _ _ _ rfl (unhide M8) _ _ _ _ rfl (unhide HM8) (by omega) (by omega) an (by omega) ?_; intro ao9 c9 w9 m9 b9; rw [List.nil_append] at m9; have M9 := hide (m9.later (below_alloc w9 (.cells #[.int .u8 more] 5))); have z9 := b9.size; have B9 := hide ((unhide B8).trans ((b9.mono (by omega)).trans ((below_alloc w9 (.cells #[.int .u8 more] 5)).mono (by omega)))); have z10 : (w9.alloc (.cells #[.int .u8 more] 5)).heap.size = w9.heap.size + 1 := (by simp); clear m9 b9)
        | (at_builtin; refine wpList_appM rfl (.tmp 64) (.tmp 66) rfl (w6.heap.size + 1) _ _ _ _ rfl (unhide M9) _ _ _ _ rfl (Bs.one w9 more hm0 hm1) (by omega) (by omega) (an + 1) rfl ?_; intro ao11 c11 w11 m11 b11; have HM11 := hide m11.bs; have z11 := b11.size; have B11 := hide ((unhide B9).trans (b11.mono (by omega))); clear m11 b11))
      obtain ⟨R3, hR3⟩ : ∃ z, z = grR (LB ++ [more]) := ⟨_, rfl⟩
      have e3 : R3.2 = 5 := by rw [hR3]; exact unhide MR
      have cR3 := hide (readGreeting_any ao11 (an + 1) c11 (LB ++ [more]) w11 (unhide HM11) (by omega))
      rw [← hR3] at cR3
      clear hR3
      refine (unhide cR3).mono ?_
      rintro e w12 ⟨ao12, an12, ac12, rfl, hx12, b12⟩
      rw [e3]
      have b13 := below_alloc w12 (.cells #[.string R3.1.ve, .int .u32 R3.1.th, .slice ao12 an12 ac12, .int .u32 R3.1.ca, .int .u8 R3.1.ch, .int .u16 R3.1.st, .string R3.1.pl] 64)
      have b113 := b12.trans (b13.mono b12.size)
      have bb := (unhide B11).trans (b113.mono (by omega))
      have HQ13 := hide ((bb.block w.heap.size (by have := unhide HL3; omega)).trans (unhide HQ5))
      have HK13 := hide ((bb.block w4.heap.size (by omega)).trans (unhide HK5))
      have BC13 := hide ((unhide BC5).trans (bb.mono (by have := unhide HL3; omega)))
      have t0 : (w12.alloc (.cells #[.string R3.1.ve, .int .u32 R3.1.th, .slice ao12 an12 ac12, .int .u32 R3.1.ca, .int .u8 R3.1.ch, .int .u16 R3.1.st, .string R3.1.pl] 64)).cell? ⟨w4.heap.size, 0, none⟩ = some (.string G.ve) := by rw [cell_of_row _ _ 0 _ _ _ (unhide HK13)]; rfl
      have t1 : (w12.alloc (.cells #[.string R3.1.ve, .int .u32 R3.1.th, .slice ao12 an12 ac12, .int .u32 R3.1.ca, .int .u8 R3.1.ch, .int .u16 R3.1.st, .string R3.1.pl] 64)).cell? ⟨w4.heap.size, 1, none⟩ = some (.int .u32 G.th) := by rw [cell_of_row _ _ 1 _ _ _ (unhide HK13)]; rfl
      have t2 : (w12.alloc (.cells #[.string R3.1.ve, .int .u32 R3.1.th, .slice ao12 an12 ac12, .int .u32 R3.1.ca, .int .u8 R3.1.ch, .int .u16 R3.1.st, .string R3.1.pl] 64)).cell? ⟨w4.heap.size, 2, none⟩ = some (.slice xo xn xc) := by rw [cell_of_row _ _ 2 _ _ _ (unhide HK13)]; rfl
      have t3 : (w12.alloc (.cells #[.string R3.1.ve, .int .u32 R3.1.th, .slice ao12 an12 ac12, .int .u32 R3.1.ca, .int .u8 R3.1.ch, .int .u16 R3.1.st, .string R3.1.pl] 64)).cell? ⟨w4.heap.size, 3, none⟩ = some (.int .u32 G.ca) := by rw [cell_of_row _ _ 3 _ _ _ (unhide HK13)]; rfl
      have t4 : (w12.alloc (.cells #[.string R3.1.ve, .int .u32 R3.1.th, .slice ao12 an12 ac12, .int .u32 R3.1.ca, .int .u8 R3.1.ch, .int .u16 R3.1.st, .string R3.1.pl] 64)).cell? ⟨w4.heap.size, 4, none⟩ = some (.int .u8 G.ch) := by rw [cell_of_row _ _ 4 _ _ _ (unhide HK13)]; rfl
      have t5 : (w12.alloc (.cells #[.string R3.1.ve, .int .u32 R3.1.th, .slice ao12 an12 ac12, .int .u32 R3.1.ca, .int .u8 R3.1.ch, .int .u16 R3.1.st, .string R3.1.pl] 64)).cell? ⟨w4.heap.size, 5, none⟩ = some (.int .u16 G.st) := by rw [cell_of_row _ _ 5 _ _ _ (unhide HK13)]; rfl
      have t6 : (w12.alloc (.cells #[.string R3.1.ve, .int .u32 R3.1.th, .slice ao12 an12 ac12, .int .u32 R3.1.ca, .int .u8 R3.1.ch, .int .u16 R3.1.st, .string R3.1.pl] 64)).cell? ⟨w4.heap.size, 6, none⟩ = some (.string G.pl) := by rw [cell_of_row _ _ 6 _ _ _ (unhide HK13)]; rfl
      have p0 : (w12.alloc (.cells #[.string R3.1.ve, .int .u32 R3.1.th, .slice ao12 an12 ac12, .int .u32 R3.1.ca, .int .u8 R3.1.ch, .int .u16 R3.1.st, .string R3.1.pl] 64)).cell? ⟨w.heap.size, 0, none⟩ = some (.string G.ve) := by rw [cell_of_row _ _ 0 _ _ _ (unhide HQ13)]; rfl
      have p1 : (w12.alloc (.cells #[.string R3.1.ve, .int .u32 R3.1.th, .slice ao12 an12 ac12, .int .u32 R3.1.ca, .int .u8 R3.1.ch, .int .u16 R3.1.st, .string R3.1.pl] 64)).cell? ⟨w.heap.size, 1, none⟩ = some (.int .u32 G.th) := by rw [cell_of_row _ _ 1 _ _ _ (unhide HQ13)]; rfl
      have p2 : (w12.alloc (.cells #[.string R3.1.ve, .int .u32 R3.1.th, .slice ao12 an12 ac12, .int .u32 R3.1.ca, .int .u8 R3.1.ch, .int .u16 R3.1.st, .string R3.1.pl] 64)).cell? ⟨w.heap.size, 2, none⟩ = some (.slice go gn gc) := by rw [cell_of_row _ _ 2 _ _ _ (unhide HQ13)]; rfl
      have p3 : (w12.alloc (.cells #[.string R3.1.ve, .int .u32 R3.1.th, .slice ao12 an12 ac12, .int .u32 R3.1.ca, .int .u8 R3.1.ch, .int .u16 R3.1.st, .string R3.1.pl] 64)).cell? ⟨w.heap.size, 3, none⟩ = some (.int .u32 G.ca) := by rw [cell_of_row _ _ 3 _ _ _ (unhide HQ13)]; rfl
      have p4 : (w12.alloc (.cells #[.string R3.1.ve, .int .u32 R3.1.th, .slice ao12 an12 ac12, .int .u32 R3.1.ca, .int .u8 R3.1.ch, .int .u16 R3.1.st, .string R3.1.pl] 64)).cell? ⟨w.heap.size, 4, none⟩ = some (.int .u8 G.ch) := by rw [cell_of_row _ _ 4 _ _ _ (unhide HQ13)]; rfl
      have p5 : (w12.alloc (.cells #[.string R3.1.ve, .int .u32 R3.1.th, .slice ao12 an12 ac12, .int .u32 R3.1.ca, .int .u8 R3.1.ch, .int .u16 R3.1.st, .string R3.1.pl] 64)).cell? ⟨w.heap.size, 5, none⟩ = some (.int .u16 G.st) := by rw [cell_of_row _ _ 5 _ _ _ (unhide HQ13)]; rfl
      have p6 : (w12.alloc (.cells #[.string R3.1.ve, .int .u32 R3.1.th, .slice ao12 an12 ac12, .int .u32 R3.1.ca, .int .u8 R3.1.ch, .int .u16 R3.1.st, .string R3.1.pl] 64)).cell? ⟨w.heap.size, 6, none⟩ = some (.string G.pl) := by rw [cell_of_row _ _ 6 _ _ _ (unhide HQ13)]; rfl
      have cS := hide (sameGr_eq xo xn xc go gn gc G _ ((unhide HX5).later bb) ((unhide HG).later (unhide BC13)))
      clear b12 b13 b113 bb cR3 hx12 HM8 HM11 B8 B9 B11
      go_wp2_with fail
      refine (unhide cS).mono ?_
      rintro e w14 ⟨rfl, b14⟩
      have z13 : (w12.alloc (.cells #[.string R3.1.ve, .int .u32 R3.1.th, .slice ao12 an12 ac12, .int .u32 R3.1.ca, .int .u8 R3.1.ch, .int .u16 R3.1.st, .string R3.1.pl] 64)).heap.size = w12.heap.size + 1 := by simp
      have FIN := hide (And.intro ((unhide BC13).trans (b14.mono (unhide BC13).size)) ((b14.block w.heap.size (Array.getElem?_eq_some_iff.1 (unhide HQ13)).1).trans (unhide HQ13)))
      clear b14 cS
      go_wp2_with fail
      go_meet
      exact unhide FIN
    · have he' : (E == 0) = false := by simpa using he
      clear he
      go_wp2_with fail
      go_meet
      exact ⟨unhide BC3, unhide HQ3⟩
  obtain ⟨hc1, hc2⟩ := hcut
  have BC := hide hc1
  have HQ := hide hc2
  have HL := hide (Array.getElem?_eq_some_iff.1 hc2).1
  clear hc1 hc2 HQ3 BC3 HL3 HM HOK
  have p0 := cell_of_row _ _ 7 _ _ _ (unhide HQ)
  have p1 := cell_of_row _ _ 8 _ _ _ (unhide HQ)
  have p2 := cell_of_row _ _ 9 _ _ _ (unhide HQ)
  have p3 := cell_of_row _ _ 10 _ _ _ (unhide HQ)
  have p4 := cell_of_row _ _ 11 _ _ _ (unhide HQ)
  have p5 := cell_of_row _ _ 12 _ _ _ (unhide HQ)
  have p6 := cell_of_row _ _ 13 _ _ _ (unhide HQ)
  have p7 := cell_of_row _ _ 14 _ _ _ (unhide HQ)
  simp only [List.getElem?_toArray, List.getElem?_cons_succ, List.getElem?_cons_zero] at p0 p1 p2 p3 p4 p5 p6 p7
  have cA := hide ((appendAnswer_any none 0 0 [] ro rn rc tt tn tc A _ (Bs.nought _) ((unhide HA).later (unhide BC)) ((unhide HT).later (unhide BC)) kA (by have := unhide LEN; simp only [List.length_nil]; omega)).mono fun _ _ h => OutP.oute h)
  rw [List.nil_append] at cA
  go_wp2_with fail
  refine (unhide cA).mono ?_
  rintro e w3 ⟨ao, an, ac, E, LB, rfl, hm, hok, b3⟩
  have HQ3 := hide ((b3.block w.heap.size (unhide HL)).trans (unhide HQ))
  have BC3 := hide ((unhide BC).trans (b3.mono (unhide BC).size))
  have HL3 := hide (Nat.lt_of_lt_of_le (unhide HL) b3.size)
  have HM := hide hm
  have HOK := hide hok
  clear b3 hm hok cA HQ BC HL p0 p1 p2 p3 p4 p5 p6 p7
  go_upto_if 95 with fail
  go_cut [] (fun wx => Below w.heap.size w wx ∧ wx.heap[w.heap.size]? = some (.cells #[.string G.ve, .int .u32 G.th, .slice go gn gc, .int .u32 G.ca, .int .u8 G.ch, .int .u16 G.st, .string G.pl, .int .u32 A.ca, .int .u32 A.mo, .int .u8 A.ch, .string A.us, .slice ro rn rc, .string A.sc, .string A.pl, .slice tt tn tc, .string S.pl, .slice so sn sc, .string U.us, .slice uo un uc, .string U.sc, .int .u16 U.ch, .string U.pl, .slice vo vn vc, .int .u32 C] 73 (0, 0)))
  case first =>
    by_cases he : E = 0
    · have he' : (E == 0) = true := by simpa using he
      obtain ⟨hk, hB⟩ := unhide HOK he
      have BK := hide (show anR LB = (A, 0) by rw [hB]; exact an_back hk kA (unhide HA).byt (by omega))
      have PT := hide (fun k (h : k < LB.length) => show (anR (LB.take k)).2 = 4 by rw [hB] at h ⊢; exact an_part hk kA (unhide HA).byt (by omega) h)
      have MR := hide (show (anR (LB ++ [more])).2 = 5 by rw [hB]; exact an_more hk kA (unhide HA).byt (by omega) more)
      have hlb := (unhide HM).len
      have hbig : LB.length ≤ 1099511627000 := by rw [hB]; unfold anB; simp only [List.length_append, enB_len, le_length, List.length_replicate]; have h1 := plB_len A.ca A.pl; have h2 := scB_len A.ca A.sc; have h3 := rsB_len A.ca A.re; have h4 := atB_len A.ca A.at'; have := unhide LEN; omega
      have hpos : 0 < LB.length := by rw [hB]; unfold anB; simp only [List.length_append, le_length]; omega
      rw [hlb] at hbig hpos
      have hale := (unhide HM).le
      have hamx := (unhide HM).max
      have cR := hide (readAnswer_any ao an ac LB w3 (unhide HM) (by omega))
      rw [unhide BK] at cR
      have HLB := hide hlb
      clear he hk hB hlb
      go_wp2_with fail
      refine (unhide cR).mono ?_
      rintro e w4 ⟨xo, xn, xc, yo, yn, yc, rfl, hx, hy, b4⟩
      have b5 := below_alloc w4 (.cells #[.int .u32 A.ca, .int .u32 A.mo, .int .u8 A.ch, .string A.us, .slice xo xn xc, .string A.sc, .string A.pl, .slice yo yn yc] 67)
      have b45 := b4.trans (b5.mono b4.size)
      have HM5 := hide ((unhide HM).later b45)
      have HX5 := hide (hx.later b5)
      have HY5 := hide (hy.later b5)
      have BC5 := hide ((unhide BC3).trans (b45.mono (unhide BC3).size))
      have HQ5 := hide ((b45.block w.heap.size (unhide HL3)).trans (unhide HQ3))
      have HK5 := hide (heap_alloc_new w4 (.cells #[.int .u32 A.ca, .int .u32 A.mo, .int .u8 A.ch, .string A.us, .slice xo xn xc, .string A.sc, .string A.pl, .slice yo yn yc] 67))
      have z5 : (w4.alloc (.cells #[.int .u32 A.ca, .int .u32 A.mo, .int .u8 A.ch, .string A.us, .slice xo xn xc, .string A.sc, .string A.pl, .slice yo yn yc] 67)).heap.size = w4.heap.size + 1 := by simp
      have z4 := b4.size
      have cP := hide (pick_any cut (an : Int) (w4.alloc (.cells #[.int .u32 A.ca, .int .u32 A.mo, .int .u8 A.ch, .string A.us, .slice xo xn xc, .string A.sc, .string A.pl, .slice yo yn yc] 67)) (by omega) (by omega))
      clear b4 b5 b45 hx hy cR
      go_wp2_with fail
      refine (unhide cP).mono ?_
      rintro e w5 ⟨⟨r, rfl, hr0, hr1⟩, hw5⟩
      subst hw5
      obtain ⟨k, rfl⟩ := Int.eq_ofNat_of_zero_le hr0
      obtain ⟨ko, kc, hcut1, hkb⟩ := (unhide HM5).cut_h (hi := k) (by omega) (k : Int) rfl
      obtain ⟨R2, hR2⟩ : ∃ z, z = anR (LB.take k) := ⟨_, rfl⟩
      have e2 : R2.2 = 4 := by rw [hR2]; exact unhide PT k (by rw [unhide HLB]; omega)
      have cR2 := hide (readAnswer_any ko k kc (LB.take k) _ hkb (by omega))
      rw [← hR2] at cR2
      clear hR2 hkb cP
      go_wp2_with fail
      refine (unhide cR2).mono ?_
      rintro e w6 ⟨ao6, an6, ac6, yo6, yn6, yc6, rfl, hx6, hy6, b6⟩
      rw [e2]
      have z6 := b6.size
      rw [z5] at z6
      have b7 := below_alloc w6 (.cells #[.int .u32 R2.1.ca, .int .u32 R2.1.mo, .int .u8 R2.1.ch, .string R2.1.us, .slice ao6 an6 ac6, .string R2.1.sc, .string R2.1.pl, .slice yo6 yn6 yc6] 67)
      have b67 := b6.trans (b7.mono b6.size)
      have z7 : (w6.alloc (.cells #[.int .u32 R2.1.ca, .int .u32 R2.1.mo, .int .u8 R2.1.ch, .string R2.1.us, .slice ao6 an6 ac6, .string R2.1.sc, .string R2.1.pl, .slice yo6 yn6 yc6] 67)).heap.size = w6.heap.size + 1 := by simp
      have b8 := below_alloc (w6.alloc (.cells #[.int .u32 R2.1.ca, .int .u32 R2.1.mo, .int .u8 R2.1.ch, .string R2.1.us, .slice ao6 an6 ac6, .string R2.1.sc, .string R2.1.pl, .slice yo6 yn6 yc6] 67)) (.cells #[] 5)
      have b68 := b67.trans (b8.mono (by rw [z5, z7]; omega))
      have m8 := Mine.empty (w6.alloc (.cells #[.int .u32 R2.1.ca, .int .u32 R2.1.mo, .int .u8 R2.1.ch, .string R2.1.us, .slice ao6 an6 ac6, .string R2.1.sc, .string R2.1.pl, .slice yo6 yn6 yc6] 67))
      rw [z7] at m8
      have M8 := hide m8
      have HM8 := hide ((unhide HM5).later b68)
      have B8 := hide b68
      have z8 : ((w6.alloc (.cells #[.int .u32 R2.1.ca, .int .u32 R2.1.mo, .int .u8 R2.1.ch, .string R2.1.us, .slice ao6 an6 ac6, .string R2.1.sc, .string R2.1.pl, .slice yo6 yn6 yc6] 67)).alloc (.cells #[] 5)).heap.size = w6.heap.size + 2 := by simp
      clear b6 b7 b67 b8 b68 m8 hx6 hy6 cR2 hcut1
      go_wp2_with (first
        | (at_builtin; refine wpList_appM rfl (.tmp 112) (.tmp 113) rfl (w6.heap.size + 1) _ _ _ _ rfl (unhide M8) _ _ _ _ rfl (unhide HM8) (by omega) (by omega) an (by omega) ?_; intro ao9 c9 w9 m9 b9; rw [List.nil_append] at m9; have M9 := hide (m9.later (below_alloc w9 (.cells #[.int .u8 more] 5))); have z9 := b9.size; have B9 := hide ((unhide B8).trans ((b9.mono (by omega)).trans ((below_alloc w9 (.cells #[.int .u8 more] 5)).mono (by omega)))); have z10 : (w9.alloc (.cells #[.int .u8 more] 5)).heap.size = w9.heap.size + 1 := (by simp); clear m9 b9)
        | (at_builtin; refine wpList_appM rfl (.tmp 114) (.tmp 116) rfl (w6.heap.size + 1) _ _ _ _ rfl (unhide M9) _ _ _ _ rfl (Bs.one w9 more hm0 hm1) (by omega) (by omega) (an + 1) rfl ?_; intro ao11 c11 w11 m11 b11; have HM11 := hide m11.bs; have z11 := b11.size; have B11 := hide ((unhide B9).trans (b11.mono (by omega))); clear m11 b11))
      obtain ⟨R3, hR3⟩ : ∃ z, z = anR (LB ++ [more]) := ⟨_, rfl⟩
      have e3 : R3.2 = 5 := by rw [hR3]; exact unhide MR
      have cR3 := hide (readAnswer_any ao11 (an + 1) c11 (LB ++ [more]) w11 (unhide HM11) (by omega))
      rw [← hR3] at cR3
      clear hR3
      refine (unhide cR3).mono ?_
      rintro e w12 ⟨ao12, an12, ac12, yo12, yn12, yc12, rfl, hx12, hy12, b12⟩
      rw [e3]
      have b13 := below_alloc w12 (.cells #[.int .u32 R3.1.ca, .int .u32 R3.1.mo, .int .u8 R3.1.ch, .string R3.1.us, .slice ao12 an12 ac12, .string R3.1.sc, .string R3.1.pl, .slice yo12 yn12 yc12] 67)
      have b113 := b12.trans (b13.mono b12.size)
      have bb := (unhide B11).trans (b113.mono (by omega))
      have HQ13 := hide ((bb.block w.heap.size (by have := unhide HL3; omega)).trans (unhide HQ5))
      have HK13 := hide ((bb.block w4.heap.size (by omega)).trans (unhide HK5))
      have BC13 := hide ((unhide BC5).trans (bb.mono (by have := unhide HL3; omega)))
      have t0 : (w12.alloc (.cells #[.int .u32 R3.1.ca, .int .u32 R3.1.mo, .int .u8 R3.1.ch, .string R3.1.us, .slice ao12 an12 ac12, .string R3.1.sc, .string R3.1.pl, .slice yo12 yn12 yc12] 67)).cell? ⟨w4.heap.size, 0, none⟩ = some (.int .u32 A.ca) := by rw [cell_of_row _ _ 0 _ _ _ (unhide HK13)]; rfl
      have t1 : (w12.alloc (.cells #[.int .u32 R3.1.ca, .int .u32 R3.1.mo, .int .u8 R3.1.ch, .string R3.1.us, .slice ao12 an12 ac12, .string R3.1.sc, .string R3.1.pl, .slice yo12 yn12 yc12] 67)).cell? ⟨w4.heap.size, 1, none⟩ = some (.int .u32 A.mo) := by rw [cell_of_row _ _ 1 _ _ _ (unhide HK13)]; rfl
      have t2 : (w12.alloc (.cells #[.int .u32 R3.1.ca, .int .u32 R3.1.mo, .int .u8 R3.1.ch, .string R3.1.us, .slice ao12 an12 ac12, .string R3.1.sc, .string R3.1.pl, .slice yo12 yn12 yc12] 67)).cell? ⟨w4.heap.size, 2, none⟩ = some (.int .u8 A.ch) := by rw [cell_of_row _ _ 2 _ _ _ (unhide HK13)]; rfl
      have t3 : (w12.alloc (.cells #[.int .u32 R3.1.ca, .int .u32 R3.1.mo, .int .u8 R3.1.ch, .string R3.1.us, .slice ao12 an12 ac12, .string R3.1.sc, .string R3.1.pl, .slice yo12 yn12 yc12] 67)).cell? ⟨w4.heap.size, 3, none⟩ = some (.string A.us) := by rw [cell_of_row _ _ 3 _ _ _ (unhide HK13)]; rfl
      have t4 : (w12.alloc (.cells #[.int .u32 R3.1.ca, .int .u32 R3.1.mo, .int .u8 R3.1.ch, .string R3.1.us, .slice ao12 an12 ac12, .string R3.1.sc, .string R3.1.pl, .slice yo12 yn12 yc12] 67)).cell? ⟨w4.heap.size, 4, none⟩ = some (.slice xo xn xc) := by rw [cell_of_row _ _ 4 _ _ _ (unhide HK13)]; rfl
      have t5 : (w12.alloc (.cells #[.int .u32 R3.1.ca, .int .u32 R3.1.mo, .int .u8 R3.1.ch, .string R3.1.us, .slice ao12 an12 ac12, .string R3.1.sc, .string R3.1.pl, .slice yo12 yn12 yc12] 67)).cell? ⟨w4.heap.size, 5, none⟩ = some (.string A.sc) := by rw [cell_of_row _ _ 5 _ _ _ (unhide HK13)]; rfl
      have t6 : (w12.alloc (.cells #[.int .u32 R3.1.ca, .int .u32 R3.1.mo, .int .u8 R3.1.ch, .string R3.1.us, .slice ao12 an12 ac12, .string R3.1.sc, .string R3.1.pl, .slice yo12 yn12 yc12] 67)).cell? ⟨w4.heap.size, 6, none⟩ = some (.string A.pl) := by rw [cell_of_row _ _ 6 _ _ _ (unhide HK13)]; rfl
      have t7 : (w12.alloc (.cells #[.int .u32 R3.1.ca, .int .u32 R3.1.mo, .int .u8 R3.1.ch, .string R3.1.us, .slice ao12 an12 ac12, .string R3.1.sc, .string R3.1.pl, .slice yo12 yn12 yc12] 67)).cell? ⟨w4.heap.size, 7, none⟩ = some (.slice yo yn yc) := by rw [cell_of_row _ _ 7 _ _ _ (unhide HK13)]; rfl
      have p0 : (w12.alloc (.cells #[.int .u32 R3.1.ca, .int .u32 R3.1.mo, .int .u8 R3.1.ch, .string R3.1.us, .slice ao12 an12 ac12, .string R3.1.sc, .string R3.1.pl, .slice yo12 yn12 yc12] 67)).cell? ⟨w.heap.size, 7, none⟩ = some (.int .u32 A.ca) := by rw [cell_of_row _ _ 7 _ _ _ (unhide HQ13)]; rfl
      have p1 : (w12.alloc (.cells #[.int .u32 R3.1.ca, .int .u32 R3.1.mo, .int .u8 R3.1.ch, .string R3.1.us, .slice ao12 an12 ac12, .string R3.1.sc, .string R3.1.pl, .slice yo12 yn12 yc12] 67)).cell? ⟨w.heap.size, 8, none⟩ = some (.int .u32 A.mo) := by rw [cell_of_row _ _ 8 _ _ _ (unhide HQ13)]; rfl
      have p2 : (w12.alloc (.cells #[.int .u32 R3.1.ca, .int .u32 R3.1.mo, .int .u8 R3.1.ch, .string R3.1.us, .slice ao12 an12 ac12, .string R3.1.sc, .string R3.1.pl, .slice yo12 yn12 yc12] 67)).cell? ⟨w.heap.size, 9, none⟩ = some (.int .u8 A.ch) := by rw [cell_of_row _ _ 9 _ _ _ (unhide HQ13)]; rfl
      have p3 : (w12.alloc (.cells #[.int .u32 R3.1.ca, .int .u32 R3.1.mo, .int .u8 R3.1.ch, .string R3.1.us, .slice ao12 an12 ac12, .string R3.1.sc, .string R3.1.pl, .slice yo12 yn12 yc12] 67)).cell? ⟨w.heap.size, 10, none⟩ = some (.string A.us) := by rw [cell_of_row _ _ 10 _ _ _ (unhide HQ13)]; rfl
      have p4 : (w12.alloc (.cells #[.int .u32 R3.1.ca, .int .u32 R3.1.mo, .int .u8 R3.1.ch, .string R3.1.us, .slice ao12 an12 ac12, .string R3.1.sc, .string R3.1.pl, .slice yo12 yn12 yc12] 67)).cell? ⟨w.heap.size, 11, none⟩ = some (.slice ro rn rc) := by rw [cell_of_row _ _ 11 _ _ _ (unhide HQ13)]; rfl
      have p5 : (w12.alloc (.cells #[.int .u32 R3.1.ca, .int .u32 R3.1.mo, .int .u8 R3.1.ch, .string R3.1.us, .slice ao12 an12 ac12, .string R3.1.sc, .string R3.1.pl, .slice yo12 yn12 yc12] 67)).cell? ⟨w.heap.size, 12, none⟩ = some (.string A.sc) := by rw [cell_of_row _ _ 12 _ _ _ (unhide HQ13)]; rfl
      have p6 : (w12.alloc (.cells #[.int .u32 R3.1.ca, .int .u32 R3.1.mo, .int .u8 R3.1.ch, .string R3.1.us, .slice ao12 an12 ac12, .string R3.1.sc, .string R3.1.pl, .slice yo12 yn12 yc12] 67)).cell? ⟨w.heap.size, 13, none⟩ = some (.string A.pl) := by rw [cell_of_row _ _ 13 _ _ _ (unhide HQ13)]; rfl
      have p7 : (w12.alloc (.cells #[.int .u32 R3.1.ca, .int .u32 R3.1.mo, .int .u8 R3.1.ch, .string R3.1.us, .slice ao12 an12 ac12, .string R3.1.sc, .string R3.1.pl, .slice yo12 yn12 yc12] 67)).cell? ⟨w.heap.size, 14, none⟩ = some (.slice tt tn tc) := by rw [cell_of_row _ _ 14 _ _ _ (unhide HQ13)]; rfl
      have cS := hide (sameAn_eq xo xn xc ro rn rc yo yn yc tt tn tc A _ ((unhide HX5).later bb) ((unhide HA).later (unhide BC13)) ((unhide HY5).later bb) ((unhide HT).later (unhide BC13)))
      clear b12 b13 b113 bb cR3 hx12 hy12 HM8 HM11 B8 B9 B11
      go_wp2_with fail
      refine (unhide cS).mono ?_
      rintro e w14 ⟨rfl, b14⟩
      have z13 : (w12.alloc (.cells #[.int .u32 R3.1.ca, .int .u32 R3.1.mo, .int .u8 R3.1.ch, .string R3.1.us, .slice ao12 an12 ac12, .string R3.1.sc, .string R3.1.pl, .slice yo12 yn12 yc12] 67)).heap.size = w12.heap.size + 1 := by simp
      have FIN := hide (And.intro ((unhide BC13).trans (b14.mono (unhide BC13).size)) ((b14.block w.heap.size (Array.getElem?_eq_some_iff.1 (unhide HQ13)).1).trans (unhide HQ13)))
      clear b14 cS
      go_wp2_with fail
      go_meet
      exact unhide FIN
    · have he' : (E == 0) = false := by simpa using he
      clear he
      go_wp2_with fail
      go_meet
      exact ⟨unhide BC3, unhide HQ3⟩
  obtain ⟨hc1, hc2⟩ := hcut
  have BC := hide hc1
  have HQ := hide hc2
  have HL := hide (Array.getElem?_eq_some_iff.1 hc2).1
  clear hc1 hc2 HQ3 BC3 HL3 HM HOK
  have p0 := cell_of_row _ _ 15 _ _ _ (unhide HQ)
  have p1 := cell_of_row _ _ 16 _ _ _ (unhide HQ)
  simp only [List.getElem?_toArray, List.getElem?_cons_succ, List.getElem?_cons_zero] at p0 p1
  have cA := hide ((appendSwitch_any none 0 0 [] so sn sc S _ (Bs.nought _) ((unhide HS).later (unhide BC)) (by have := unhide LEN; simp only [List.length_nil]; omega)).mono fun _ _ h => OutP.oute h)
  rw [List.nil_append] at cA
  go_wp2_with fail
  refine (unhide cA).mono ?_
  rintro e w3 ⟨ao, an, ac, E, LB, rfl, hm, hok, b3⟩
  have HQ3 := hide ((b3.block w.heap.size (unhide HL)).trans (unhide HQ))
  have BC3 := hide ((unhide BC).trans (b3.mono (unhide BC).size))
  have HL3 := hide (Nat.lt_of_lt_of_le (unhide HL) b3.size)
  have HM := hide hm
  have HOK := hide hok
  clear b3 hm hok cA HQ BC HL p0 p1
  go_upto_if 145 with fail
  go_cut [] (fun wx => Below w.heap.size w wx ∧ wx.heap[w.heap.size]? = some (.cells #[.string G.ve, .int .u32 G.th, .slice go gn gc, .int .u32 G.ca, .int .u8 G.ch, .int .u16 G.st, .string G.pl, .int .u32 A.ca, .int .u32 A.mo, .int .u8 A.ch, .string A.us, .slice ro rn rc, .string A.sc, .string A.pl, .slice tt tn tc, .string S.pl, .slice so sn sc, .string U.us, .slice uo un uc, .string U.sc, .int .u16 U.ch, .string U.pl, .slice vo vn vc, .int .u32 C] 73 (0, 0)))
  case first =>
    by_cases he : E = 0
    · have he' : (E == 0) = true := by simpa using he
      obtain ⟨hk, hB⟩ := unhide HOK he
      have BK := hide (show swR LB = (S, 0) by rw [hB]; exact sw_back hk)
      have PT := hide (fun k (h : k < LB.length) => show (swR (LB.take k)).2 = 4 by rw [hB] at h ⊢; exact sw_part hk h)
      have MR := hide (show (swR (LB ++ [more])).2 = 5 by rw [hB]; exact sw_more hk more)
      have hlb := (unhide HM).len
      have hbig : LB.length ≤ 1099511627000 := by rw [hB]; unfold swB; simp only [List.length_append, enB_len, List.length_replicate, List.length_cons, List.length_nil]; have := unhide LEN; omega
      have hpos : 0 < LB.length := by rw [hB]; unfold swB; simp
      rw [hlb] at hbig hpos
      have hale := (unhide HM).le
      have hamx := (unhide HM).max
      have cR := hide (readSwitch_any ao an ac LB w3 (unhide HM) (by omega))
      rw [unhide BK] at cR
      have HLB := hide hlb
      clear he hk hB hlb
      go_wp2_with fail
      refine (unhide cR).mono ?_
      rintro e w4 ⟨xo, xn, xc, rfl, hx, b4⟩
      have b5 := below_alloc w4 (.cells #[.string S.pl, .slice xo xn xc] 69)
      have b45 := b4.trans (b5.mono b4.size)
      have HM5 := hide ((unhide HM).later b45)
      have HX5 := hide (hx.later b5)
      have BC5 := hide ((unhide BC3).trans (b45.mono (unhide BC3).size))
      have HQ5 := hide ((b45.block w.heap.size (unhide HL3)).trans (unhide HQ3))
      have HK5 := hide (heap_alloc_new w4 (.cells #[.string S.pl, .slice xo xn xc] 69))
      have z5 : (w4.alloc (.cells #[.string S.pl, .slice xo xn xc] 69)).heap.size = w4.heap.size + 1 := by simp
      have z4 := b4.size
      have cP := hide (pick_any cut (an : Int) (w4.alloc (.cells #[.string S.pl, .slice xo xn xc] 69)) (by omega) (by omega))
      clear b4 b5 b45 hx cR
      go_wp2_with fail
      refine (unhide cP).mono ?_
      rintro e w5 ⟨⟨r, rfl, hr0, hr1⟩, hw5⟩
      subst hw5
      obtain ⟨k, rfl⟩ := Int.eq_ofNat_of_zero_le hr0
      obtain ⟨ko, kc, hcut1, hkb⟩ := (unhide HM5).cut_h (hi := k) (by omega) (k : Int) rfl
      obtain ⟨R2, hR2⟩ : ∃ z, z = swR (LB.take k) := ⟨_, rfl⟩
      have e2 : R2.2 = 4 := by rw [hR2]; exact unhide PT k (by rw [unhide HLB]; omega)
      have cR2 := hide (readSwitch_any ko k kc (LB.take k) _ hkb (by omega))
      rw [← hR2] at cR2
      clear hR2 hkb cP
      go_wp2_with fail
      refine (unhide cR2).mono ?_
      rintro e w6 ⟨ao6, an6, ac6, rfl, hx6, b6⟩
      rw [e2]
      have z6 := b6.size
      rw [z5] at z6
      have b7 := below_alloc w6 (.cells #[.string R2.1.pl, .slice ao6 an6 ac6] 69)
      have b67 := b6.trans (b7.mono b6.size)
      have z7 : (w6.alloc (.cells #[.string R2.1.pl, .slice ao6 an6 ac6] 69)).heap.size = w6.heap.size + 1 := by simp
      have b8 := below_alloc (w6.alloc (.cells #[.string R2.1.pl, .slice ao6 an6 ac6] 69)) (.cells #[] 5)
      have b68 := b67.trans (b8.mono (by rw [z5, z7]; omega))
      have m8 := Mine.empty (w6.alloc (.cells #[.string R2.1.pl, .slice ao6 an6 ac6] 69))
      rw [z7] at m8
      have M8 := hide m8
      have HM8 := hide ((unhide HM5).later b68)
      have B8 := hide b68
      have z8 : ((w6.alloc (.cells #[.string R2.1.pl, .slice ao6 an6 ac6] 69)).alloc (.cells #[] 5)).heap.size = w6.heap.size + 2 := by simp
      clear b6 b7 b67 b8 b68 m8 hx6 cR2 hcut1
      go_wp2_with (first
        | (at_builtin; refine wpList_appM rfl (.tmp 162) (.tmp 163) rfl (w6.heap.size + 1) _ _ _ _ rfl (unhide M8) _ _ _ _ rfl (unhide HM8) (by omega) (by omega) an (by omega) ?_; intro ao9 c9 w9 m9 b9; rw [List.nil_append] at m9; have M9 := hide (m9.later (below_alloc w9 (.cells #[.int .u8 more] 5))); have z9 := b9.size; have B9 := hide ((unhide B8).trans ((b9.mono (by omega)).trans ((below_alloc w9 (.cells #[.int .u8 more] 5)).mono (by omega)))); have z10 : (w9.alloc (.cells #[.int .u8 more] 5)).heap.size = w9.heap.size + 1 := (by simp); clear m9 b9)
        | (at_builtin; refine wpList_appM rfl (.tmp 164) (.tmp 166) rfl (w6.heap.size + 1) _ _ _ _ rfl (unhide M9) _ _ _ _ rfl (Bs.one w9 more hm0 hm1) (by omega) (by omega) (an + 1) rfl ?_; intro ao11 c11 w11 m11 b11; have HM11 := hide m11.bs; have z11 := b11.size; have B11 := hide ((unhide B9).trans (b11.mono (by omega))); clear m11 b11))
      obtain ⟨R3, hR3⟩ : ∃ z, z = swR (LB ++ [more]) := ⟨_, rfl⟩
      have e3 : R3.2 = 5 := by rw [hR3]; exact unhide MR
      have cR3 := hide (readSwitch_any ao11 (an + 1) c11 (LB ++ [more]) w11 (unhide HM11) (by omega))
      rw [← hR3] at cR3
      clear hR3
      refine (unhide cR3).mono ?_
      rintro e w12 ⟨ao12, an12, ac12, rfl, hx12, b12⟩
      rw [e3]
      have b13 := below_alloc w12 (.cells #[.string R3.1.pl, .slice ao12 an12 ac12] 69)
      have b113 := b12.trans (b13.mono b12.size)
      have bb := (unhide B11).trans (b113.mono (by omega))
      have HQ13 := hide ((bb.block w.heap.size (by have := unhide HL3; omega)).trans (unhide HQ5))
      have HK13 := hide ((bb.block w4.heap.size (by omega)).trans (unhide HK5))
      have BC13 := hide ((unhide BC5).trans (bb.mono (by have := unhide HL3; omega)))
      have t0 : (w12.alloc (.cells #[.string R3.1.pl, .slice ao12 an12 ac12] 69)).cell? ⟨w4.heap.size, 0, none⟩ = some (.string S.pl) := by rw [cell_of_row _ _ 0 _ _ _ (unhide HK13)]; rfl
      have t1 : (w12.alloc (.cells #[.string R3.1.pl, .slice ao12 an12 ac12] 69)).cell? ⟨w4.heap.size, 1, none⟩ = some (.slice xo xn xc) := by rw [cell_of_row _ _ 1 _ _ _ (unhide HK13)]; rfl
      have p0 : (w12.alloc (.cells #[.string R3.1.pl, .slice ao12 an12 ac12] 69)).cell? ⟨w.heap.size, 15, none⟩ = some (.string S.pl) := by rw [cell_of_row _ _ 15 _ _ _ (unhide HQ13)]; rfl
      have p1 : (w12.alloc (.cells #[.string R3.1.pl, .slice ao12 an12 ac12] 69)).cell? ⟨w.heap.size, 16, none⟩ = some (.slice so sn sc) := by rw [cell_of_row _ _ 16 _ _ _ (unhide HQ13)]; rfl
      have cS := hide (sameSw_eq xo xn xc so sn sc S _ ((unhide HX5).later bb) ((unhide HS).later (unhide BC13)))
      clear b12 b13 b113 bb cR3 hx12 HM8 HM11 B8 B9 B11
      go_wp2_with fail
      refine (unhide cS).mono ?_
      rintro e w14 ⟨rfl, b14⟩
      have z13 : (w12.alloc (.cells #[.string R3.1.pl, .slice ao12 an12 ac12] 69)).heap.size = w12.heap.size + 1 := by simp
      have FIN := hide (And.intro ((unhide BC13).trans (b14.mono (unhide BC13).size)) ((b14.block w.heap.size (Array.getElem?_eq_some_iff.1 (unhide HQ13)).1).trans (unhide HQ13)))
      clear b14 cS
      go_wp2_with fail
      go_meet
      exact unhide FIN
    · have he' : (E == 0) = false := by simpa using he
      clear he
      go_wp2_with fail
      go_meet
      exact ⟨unhide BC3, unhide HQ3⟩
  obtain ⟨hc1, hc2⟩ := hcut
  have BC := hide hc1
  have HQ := hide hc2
  have HL := hide (Array.getElem?_eq_some_iff.1 hc2).1
  clear hc1 hc2 HQ3 BC3 HL3 HM HOK
  have PART := hide (fun (x y : Code) hcode K hK => chg_part go gn gc G ro rn rc tt tn tc A so sn sc S uo un uc vo vn vc U C cut more w wc (unhide HG) (unhide HA) (unhide HT) (unhide HS) (unhide HU) (unhide HV) kU hm0 hm1 hz (unhide BC) (unhide HQ) x y hcode K hK)
  clear BC HQ HL
  go_upto_region 26 with fail
  exact unhide PART _ _ (by kernel_rfl) _ (by assumption) _ _ _ _ _ _ _ _ _ _ _ _ _ _ _ _ _ _ _ _ _ _ _ _ _ _ _ _ _ _ _ _ _ _ _ _ _ _ _ _ _ _ _ _ _ _ _ _ _ _ _ _ _ _ _ _ _ _ _ _ _ _ _ _ _ _ _ _ _ _ _ _ _ _ _ _ _ _ _ _ _ _ _ _ _ _ _ _ _ _ _ _ _ _ _ _ _ _ _ _ _ _ _ _ _ _ _ _ _ _ _ _ _ _ _ _ _ _ _ _ _ _ _ _ _ _ _ _ _ _ _ _ _ _ _ _ _ _ _ _ _ _ _ _ _ _ _ _ _ _ _ _ _ _ _ _ _ _ _ _ _ _ _ _ _ _ _ _ _ _ _ _ _ _ _ _ _ _ _ _ _ _ _ _ _ _ _ _ _ _ _ _ _ _ _ _ _ _ _ _ _ _ _ _ _ _ _ _ _ _ _ _ _ _ _ _ _ _ _ _ _ _ _ _ _ _ _ _ _ _ _ _ _ _ _ _ _ _ _ _ _ _

end Go.Proofs.Ytkijdkbkbelliaa
