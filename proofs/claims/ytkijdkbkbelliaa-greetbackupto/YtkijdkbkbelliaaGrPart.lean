/-
  The last part of GreetBack, over a frame of letters: a change of user that can be written is read as it was; a part of it is short, a byte more is wrong. Conditions: the slices can be read; lengths below 2 to the 39.
-/
import Derived.Test.YtkijdkbkbelliaaGpLives
import Derived.Test.YtkijdkbkbelliaaGpSmall
import Derived.Test.YtkijdkbkbelliaaGpApSw
import Derived.Test.YtkijdkbkbelliaaGpApCu
import Derived.Test.YtkijdkbkbelliaaGpSwitch
import Derived.Test.YtkijdkbkbelliaaGpAnswer
import Derived.Test.YtkijdkbkbelliaaGpChange
import Derived.Test.YtkijdkbkbelliaaGpGreet
import Derived.Test.YtkijdkbkbelliaaGpSame
import Derived.Test.YtkijdkbkbelliaaGpR
import Derived.Test.YtkijdkbkbelliaaGrTail
import Derived.Deep.RegionHeld3
import Derived.Deep.CutRange
import Derived.Deep.DeepCutAuto
namespace Go.Proofs.Ytkijdkbkbelliaa
open Go.RowKit
set_option linter.unusedVariables false
set_option linter.unusedSimpArgs false

/-- 'append(out, xs...)', out of the call's own: with the new length told ahead. -/
theorem wpList_appM {ops : Array Oper} {rest : List Oper} {o : Oper} {a : Act} {w : World} {Q : Exit → Act → World → Prop} (hgd : o.guard = none) (s x : Operand)
    (ho : o.op = .call { callee := .builtin .append, args := #[s, x], argTypes := #[22, 22] })
    (B : Nat) (ao : Option Addr) (n c : Nat) (bs : List Int) (hs : a.eval s = .slice ao n c) (hm : Mine B w ao n c bs)
    (ao' : Option Addr) (m c' : Nat) (cs : List Int) (hx : a.eval x = .slice ao' m c') (hb : Bs w ao' m c' cs) (hbound : n + m ≤ 140737488355328) (hB : B ≤ w.heap.size) (N : Nat) (hN : n + m = N)
    (h : ∀ ao1 c1 w1, Mine B w1 ao1 N c1 (bs ++ cs) → Below B w w1 → wpList Try.prog ops Q rest (a.put o.dst (.slice ao1 N c1)) w1) :
    wpList Try.prog ops Q (o :: rest) a w := by
  subst hN
  exact wpList_app hgd s x ho B ao n c bs hs hm ao' m c' cs hx hb hbound hB h
theorem Try.pkSize : (Try.prog.info? 73).map (·.size) = some 24 := by kernel_rfl

/-- What a writer leaves, whether the packet may be or not. -/
def OutE (w : World) (ok : Bool) (l : List Int) (e : Ending) (w' : World) : Prop :=
  ∃ ao n c E L, e = .returned (.tuple #[.slice ao n c, .int .i64 E]) ∧ Bs w' ao n c L ∧ (E = 0 → ok = true ∧ L = l) ∧ Below w.heap.size w w'
theorem OutP.oute {w w' : World} {ok : Bool} {l : List Int} {e : Ending} (h : OutP w (if ok = true then some l else none) e w') : OutE w ok l e w' := by
  cases ok
  · rw [if_neg (by decide)] at h
    exact ⟨_, _, _, 2, [], h.1, Bs.nought _, fun q => absurd q (by decide), h.2⟩
  · rw [if_pos rfl] at h
    obtain ⟨ao, n, c, e1, hm, hb⟩ := h
    exact ⟨_, _, _, 0, _, e1, hm.bs, fun _ => ⟨rfl, rfl⟩, hb⟩

set_option maxHeartbeats 16000000 in
set_option maxRecDepth 100000 in
theorem chg_part (go : Option Addr) (gn gc : Nat) (G : Gr) (ro : Option Addr) (rn rc : Nat) (tt : Option Addr) (tn tc : Nat) (A : An) (so : Option Addr) (sn sc : Nat) (S : Sw) (uo : Option Addr) (un uc : Nat) (vo : Option Addr) (vn vc : Nat) (U : Cu) (C : Int) (cut more : Int) (w wc : World) (hG : Bs w go gn gc G.no) (hA : Bs w ro rn rc A.re) (hT : As w tt tn tc A.at') (hS : Bs w so sn sc S.no) (hU : Bs w uo un uc U.re) (hV : As w vo vn vc U.at') (kU : CuK U) (hm0 : 0 ≤ more) (hm1 : more ≤ 255)
    (hz : G.ve.size + gn + G.pl.size + A.us.size + rn + A.sc.size + A.pl.size + S.pl.size + sn + U.us.size + un + U.sc.size + U.pl.size + (aB A.at').length + (aB U.at').length ≤ 549755813888) (hc1 : Below w.heap.size w wc) (hc2 : wc.heap[w.heap.size]? = some (.cells #[.string G.ve, .int .u32 G.th, .slice go gn gc, .int .u32 G.ca, .int .u8 G.ch, .int .u16 G.st, .string G.pl, .int .u32 A.ca, .int .u32 A.mo, .int .u8 A.ch, .string A.us, .slice ro rn rc, .string A.sc, .string A.pl, .slice tt tn tc, .string S.pl, .slice so sn sc, .string U.us, .slice uo un uc, .string U.sc, .int .u16 U.ch, .string U.pl, .slice vo vn vc, .int .u32 C] 73 (0, 0)))
    (x y : Code) (hcode : (Try.f8.body.bind (tl 9)) = some (.seq x y)) (K : Act → World → Prop) (hK : ∀ a w', Code.wp Try.prog y (bodyPost Try.prog Try.f8 (fun e w' => e = .returned (.bool true) ∧ Below w.heap.size w w')) a w' → K a w') (c0 c4 c5 c6 c7 c8 c9 c10 c11 c12 c13 c14 c15 c16 c17 c18 c19 c20 c21 c22 c23 c24 c25 c26 c27 c28 c29 c30 c31 c32 c33 c34 c35 c36 c37 c38 c39 c40 c41 c42 c43 c44 c45 c46 c47 c48 c49 c50 c51 c52 c53 c54 c55 c56 c57 c58 c59 c60 c61 c62 c63 c64 c65 c66 c67 c68 c69 c70 c71 c72 c73 c74 c75 c76 c77 c78 c79 c80 c81 c82 c83 c84 c85 c86 c87 c88 c89 c90 c91 c92 c93 c94 c95 c96 c97 c98 c99 c100 c101 c102 c103 c104 c105 c106 c107 c108 c109 c110 c111 c112 c113 c114 c115 c116 c117 c118 c119 c120 c121 c122 c123 c124 c125 c126 c127 c128 c129 c130 c131 c132 c133 c134 c135 c136 c137 c138 c139 c140 c141 c142 c143 c144 c145 c146 c147 c148 c149 c150 c151 c152 c153 c154 c155 c156 c157 c158 c159 c160 c161 c162 c163 c164 c165 c166 c167 c168 c169 c170 c171 c172 c173 c174 c175 c176 c177 c178 c179 c180 c181 c182 c183 c184 c185 c186 c187 c188 c189 c190 c191 c192 c193 c194 c195 c196 c197 c198 c199 c200 c201 c202 c203 c204 c205 c206 c207 c208 c209 c210 c211 c212 c213 c214 c215 c216 c217 c218 c219 c220 c221 c222 c223 c224 c225 c226 c227 c228 c229 c230 c231 c232 c233 c234 c235 c236 c237 c238 c239 c240 c241 c242 c243 c244 : Value) :
    Code.wp Try.prog x (Exit.then K (bodyPost Try.prog Try.f8 (fun e w' => e = .returned (.bool true) ∧ Below w.heap.size w w'))) ⟨List.toArray (c0 :: .int .i64 cut :: .int .u8 more :: .pointer (some ⟨w.heap.size, 0, none⟩) :: c4 :: c5 :: c6 :: c7 :: c8 :: c9 :: c10 :: c11 :: c12 :: c13 :: c14 :: c15 :: c16 :: c17 :: c18 :: c19 :: c20 :: c21 :: c22 :: c23 :: c24 :: c25 :: c26 :: c27 :: c28 :: c29 :: c30 :: c31 :: c32 :: c33 :: c34 :: c35 :: c36 :: c37 :: c38 :: c39 :: c40 :: c41 :: c42 :: c43 :: c44 :: c45 :: c46 :: c47 :: c48 :: c49 :: c50 :: c51 :: c52 :: c53 :: c54 :: c55 :: c56 :: c57 :: c58 :: c59 :: c60 :: c61 :: c62 :: c63 :: c64 :: c65 :: c66 :: c67 :: c68 :: c69 :: c70 :: c71 :: c72 :: c73 :: c74 :: c75 :: c76 :: c77 :: c78 :: c79 :: c80 :: c81 :: c82 :: c83 :: c84 :: c85 :: c86 :: c87 :: c88 :: c89 :: c90 :: c91 :: c92 :: c93 :: c94 :: c95 :: c96 :: c97 :: c98 :: c99 :: c100 :: c101 :: c102 :: c103 :: c104 :: c105 :: c106 :: c107 :: c108 :: c109 :: c110 :: c111 :: c112 :: c113 :: c114 :: c115 :: c116 :: c117 :: c118 :: c119 :: c120 :: c121 :: c122 :: c123 :: c124 :: c125 :: c126 :: c127 :: c128 :: c129 :: c130 :: c131 :: c132 :: c133 :: c134 :: c135 :: c136 :: c137 :: c138 :: c139 :: c140 :: c141 :: c142 :: c143 :: c144 :: c145 :: c146 :: c147 :: c148 :: c149 :: c150 :: c151 :: c152 :: c153 :: c154 :: c155 :: c156 :: c157 :: c158 :: c159 :: c160 :: c161 :: c162 :: c163 :: c164 :: c165 :: c166 :: c167 :: c168 :: c169 :: c170 :: c171 :: c172 :: c173 :: c174 :: c175 :: c176 :: c177 :: c178 :: c179 :: c180 :: c181 :: c182 :: c183 :: c184 :: c185 :: c186 :: c187 :: c188 :: c189 :: c190 :: c191 :: c192 :: c193 :: c194 :: c195 :: c196 :: c197 :: c198 :: c199 :: c200 :: c201 :: c202 :: c203 :: c204 :: c205 :: c206 :: c207 :: c208 :: c209 :: c210 :: c211 :: c212 :: c213 :: c214 :: c215 :: c216 :: c217 :: c218 :: c219 :: c220 :: c221 :: c222 :: c223 :: c224 :: c225 :: c226 :: c227 :: c228 :: c229 :: c230 :: c231 :: c232 :: c233 :: c234 :: c235 :: c236 :: c237 :: c238 :: c239 :: c240 :: c241 :: c242 :: c243 :: c244 :: []), []⟩ wc := by
  have HG := hide hG
  have HA := hide hA
  have HT := hide hT
  have HS := hide hS
  have HU := hide hU
  have HV := hide hV
  have lG := hG.len
  have lA := hA.len
  have lS := hS.len
  have lU := hU.len
  have LEN := hide (And.intro lG (And.intro lA (And.intro lS lU)))
  clear hG hA hT hS hU hV lG lA lS lU
  change some _ = some _ at hcode
  obtain ⟨rfl, rfl⟩ := Code.seq.inj (Option.some.inj hcode)
  clear hcode
  have BC := hide hc1
  have HQ := hide hc2
  have HL := hide (Array.getElem?_eq_some_iff.1 hc2).1
  clear hc1 hc2
  have p0 := cell_of_row _ _ 17 _ _ _ (unhide HQ)
  have p1 := cell_of_row _ _ 18 _ _ _ (unhide HQ)
  have p2 := cell_of_row _ _ 19 _ _ _ (unhide HQ)
  have p3 := cell_of_row _ _ 20 _ _ _ (unhide HQ)
  have p4 := cell_of_row _ _ 21 _ _ _ (unhide HQ)
  have p5 := cell_of_row _ _ 22 _ _ _ (unhide HQ)
  have pC := cell_of_row _ _ 23 _ _ _ (unhide HQ)
  simp only [List.getElem?_toArray, List.getElem?_cons_succ, List.getElem?_cons_zero] at p0 p1 p2 p3 p4 p5 pC
  have cA := hide ((appendChange_any none 0 0 [] C uo un uc vo vn vc U _ (Bs.nought _) ((unhide HU).later (unhide BC)) ((unhide HV).later (unhide BC)) kU (by have := unhide LEN; simp only [List.length_nil]; omega)).mono fun _ _ h => OutP.oute h)
  rw [List.nil_append] at cA
  go_wp2_with fail
  refine (unhide cA).mono ?_
  rintro e w3 ⟨ao, an, ac, E, LB, rfl, hm, hok, b3⟩
  have HQ3 := hide ((b3.block w.heap.size (unhide HL)).trans (unhide HQ))
  have BC3 := hide ((unhide BC).trans (b3.mono (unhide BC).size))
  have HL3 := hide (Nat.lt_of_lt_of_le (unhide HL) b3.size)
  have HM := hide hm
  have HOK := hide hok
  clear b3 hm hok cA HQ BC HL p0 p1 p2 p3 p4 p5 pC
  by_cases he : E = 0
  · have he' : (E == 0) = true := by simpa using he
    have he2 : (E != 0) = false := by simpa using he
    obtain ⟨hk, hB⟩ := unhide HOK he
    have BK := hide (show cuR LB C = (U, 0) by rw [hB]; exact cu_back C hk kU (by omega))
    have PT := hide (fun k (h : k < LB.length) => show (cuR (LB.take k) C).2 = 4 by rw [hB] at h ⊢; exact cu_part C hk kU (by omega) h)
    have MR := hide (show (cuR (LB ++ [more]) C).2 = 5 by rw [hB]; exact cu_more C hk kU (by omega) more)
    have hlb := (unhide HM).len
    have hbig : LB.length ≤ 1099511627000 := by rw [hB]; unfold cuB; simp only [List.length_append, enB_len, le_length, List.length_cons, List.length_nil]; have h1 := plB_len C U.pl; have h4 := atB_len C U.at'; have := unhide LEN; omega
    have hpos : 0 < LB.length := by rw [hB]; unfold cuB; simp
    rw [hlb] at hbig hpos
    have hale := (unhide HM).le
    have hamx := (unhide HM).max
    have cR := hide (readChange_any ao an ac LB C w3 (unhide HM) (by omega))
    rw [unhide BK] at cR
    have HLB := hide hlb
    clear he hk hB hlb
    have pC := cell_of_row _ _ 23 _ _ _ (unhide HQ3)
    simp only [List.getElem?_toArray, List.getElem?_cons_succ, List.getElem?_cons_zero] at pC
    go_wp2_with fail
    refine (unhide cR).mono ?_
    rintro e w4 ⟨xo, xn, xc, yo, yn, yc, rfl, hx, hy, b4⟩
    have b5 := below_alloc w4 (.cells #[.string U.us, .slice xo xn xc, .string U.sc, .int .u16 U.ch, .string U.pl, .slice yo yn yc] 71)
    have b45 := b4.trans (b5.mono b4.size)
    have HM5 := hide ((unhide HM).later b45)
    have HX5 := hide (hx.later b5)
    have HY5 := hide (hy.later b5)
    have BC5 := hide ((unhide BC3).trans (b45.mono (unhide BC3).size))
    have HQ5 := hide ((b45.block w.heap.size (unhide HL3)).trans (unhide HQ3))
    have HK5 := hide (heap_alloc_new w4 (.cells #[.string U.us, .slice xo xn xc, .string U.sc, .int .u16 U.ch, .string U.pl, .slice yo yn yc] 71))
    have z5 : (w4.alloc (.cells #[.string U.us, .slice xo xn xc, .string U.sc, .int .u16 U.ch, .string U.pl, .slice yo yn yc] 71)).heap.size = w4.heap.size + 1 := by simp
    have z4 := b4.size
    have cP := hide (pick_any cut (an : Int) (w4.alloc (.cells #[.string U.us, .slice xo xn xc, .string U.sc, .int .u16 U.ch, .string U.pl, .slice yo yn yc] 71)) (by omega) (by omega))
    clear b4 b5 b45 hx hy cR pC
    have KC := hide (fun (wx : World) (bx : Below (w4.heap.size + 1) (w4.alloc (.cells #[.string U.us, .slice xo xn xc, .string U.sc, .int .u16 U.ch, .string U.pl, .slice yo yn yc] 71)) wx) => show wx.cell? ⟨w.heap.size, 23, none⟩ = some (.int .u32 C) by rw [cell_of_row _ _ 23 _ _ _ ((bx.block w.heap.size (by have := unhide HL3; omega)).trans (unhide HQ5))]; rfl)
    have kc0 := unhide KC _ (Below.refl _ _)
    have cPP := hide (fun wx => pick_any cut (an : Int) wx (by omega) (by omega))
    have cRR := hide (fun (wx : World) (xo : Option Addr) (xn xc : Nat) (l : List Int) (h : Bs wx xo xn xc l) (hn : xn ≤ 1099511627776) => readChange_any xo xn xc l C wx h hn)
    have HZZ := hide (fun (o : Obj) => show ((w4.alloc (.cells #[.string U.us, .slice xo xn xc, .string U.sc, .int .u16 U.ch, .string U.pl, .slice yo yn yc] 71)).alloc o).drew.heap[w4.heap.size + 1]? = some o by have q := heap_alloc_new (w4.alloc (.cells #[.string U.us, .slice xo xn xc, .string U.sc, .int .u16 U.ch, .string U.pl, .slice yo yn yc] 71)) o; rw [z5] at q; exact q)
    go_upto_region 30 with fail
    go_cut [30] from 400 (fun v wx => v = .int .i64 4 ∧ Below (w4.heap.size + 1) (w4.alloc (.cells #[.string U.us, .slice xo xn xc, .string U.sc, .int .u16 U.ch, .string U.pl, .slice yo yn yc] 71)) wx)
    case first =>
      go_region_held3 (fun w' => w'.cell? ⟨w.heap.size, 23, none⟩ = some (.int .u32 C)) (first | (refine unhide KC _ ?_; (repeat' (first | with_reducible exact unhide BQ | with_reducible exact Below.refl _ _ | with_reducible refine Below.drew ?_ | with_reducible refine Below.alloc ?_ ?_ _ | with_reducible refine Below.setCell ?_ ?_ _ | exact Nat.le_refl _ | (rw [z5]; done) | (have := (unhide BQ).size; omega))); done) | go_keep) (first | (go_at_call 43; refine (unhide cPP _).mono ?_; rintro e wP ⟨⟨r, rfl, hr0, hr1⟩, hwP⟩; subst hwP; obtain ⟨k, rfl⟩ := Int.eq_ofNat_of_zero_le hr0; obtain ⟨ko, kc, hcut1, hkb⟩ := (unhide HM5).cut_h (hi := k) (by omega) (k : Int) rfl) | (go_at_call 52; refine (unhide cRR _ ko k kc (LB.take k) (hkb.later (below_drew1 _)) (by omega)).mono ?_; rintro e w6 ⟨ao6, an6, ac6, yo6, yn6, yc6, rfl, hx6, hy6, b6⟩; rw [unhide PT k (by rw [unhide HLB]; omega)]; have BQ := hide (show Below (w4.heap.size + 1) (w4.alloc (.cells #[.string U.us, .slice xo xn xc, .string U.sc, .int .u16 U.ch, .string U.pl, .slice yo yn yc] 71)) w6 from ((Below.refl (w4.heap.size + 1) (w4.alloc (.cells #[.string U.us, .slice xo xn xc, .string U.sc, .int .u16 U.ch, .string U.pl, .slice yo yn yc] 71))).drew).trans (b6.mono (Nat.le_of_eq z5.symm))); clear hx6 hy6 b6) | (go_at_call 52; refine (unhide cRR _ ko k kc (LB.take k) (hkb.later ((below_alloc _ _).drew)) (by omega)).mono ?_; rintro e w6 ⟨ao6, an6, ac6, yo6, yn6, yc6, rfl, hx6, hy6, b6⟩; rw [unhide PT k (by rw [unhide HLB]; omega)]; have BQ := hide (show Below (w4.heap.size + 1) (w4.alloc (.cells #[.string U.us, .slice xo xn xc, .string U.sc, .int .u16 U.ch, .string U.pl, .slice yo yn yc] 71)) w6 from (((Below.refl (w4.heap.size + 1) (w4.alloc (.cells #[.string U.us, .slice xo xn xc, .string U.sc, .int .u16 U.ch, .string U.pl, .slice yo yn yc] 71))).alloc (Nat.le_of_eq z5.symm) _).drew).trans (b6.mono (by simp))); have HZ := (b6.block (w4.heap.size + 1) (by simp)).trans (unhide HZZ _); have q0 := cell_of_row w6 _ 0 _ _ _ HZ; have f0 := frozen_of_row w6 _ 0 _ _ HZ; have q1 := cell_of_row w6 _ 1 _ _ _ HZ; have f1 := frozen_of_row w6 _ 1 _ _ HZ; have q2 := cell_of_row w6 _ 2 _ _ _ HZ; have f2 := frozen_of_row w6 _ 2 _ _ HZ; have q3 := cell_of_row w6 _ 3 _ _ _ HZ; have f3 := frozen_of_row w6 _ 3 _ _ HZ; have q4 := cell_of_row w6 _ 4 _ _ _ HZ; have f4 := frozen_of_row w6 _ 4 _ _ HZ; have q5 := cell_of_row w6 _ 5 _ _ _ HZ; have f5 := frozen_of_row w6 _ 5 _ _ HZ; simp only [List.getElem?_toArray, List.getElem?_cons_succ, List.getElem?_cons_zero] at q0 q1 q2 q3 q4 q5; clear HZ hx6 hy6 b6))
      all_goals go_wp2_with fail
      all_goals go_meet
      all_goals (refine ⟨rfl, ?_⟩; (repeat' (first | with_reducible exact unhide BQ | with_reducible exact Below.refl _ _ | with_reducible refine Below.drew ?_ | with_reducible refine Below.alloc ?_ ?_ _ | with_reducible refine Below.setCell ?_ ?_ _ | exact Nat.le_refl _ | (rw [z5]; done) | (have := (unhide BQ).size; omega))); done)
    obtain ⟨rfl, hb6⟩ := hcut
    obtain ⟨w6, hw6⟩ : ∃ z, z = wc := ⟨_, rfl⟩
    rw [← hw6] at hb6 ⊢
    have z6 := hb6.size
    rw [z5] at z6
    have B6 := hide hb6
    have kc6 := unhide KC _ hb6
    have HM6 := hide ((unhide HM5).later (hb6.mono (Nat.le_of_eq z5)))
    have HQ6 := (hb6.block w.heap.size (by have := unhide HL3; omega)).trans (unhide HQ5)
    have HK6 := (hb6.block w4.heap.size (by omega)).trans (unhide HK5)
    have hb7 := hb6.mono (Nat.le_of_eq z5)
    have BC6 := (unhide BC5).trans (hb6.mono (by have := unhide HL3; omega))
    have tt0 : w6.cell? ⟨w4.heap.size, 0, none⟩ = some (.string U.us) := by rw [cell_of_row _ _ 0 _ _ _ HK6]; rfl
    have tt1 : w6.cell? ⟨w4.heap.size, 1, none⟩ = some (.slice xo xn xc) := by rw [cell_of_row _ _ 1 _ _ _ HK6]; rfl
    have tt2 : w6.cell? ⟨w4.heap.size, 2, none⟩ = some (.string U.sc) := by rw [cell_of_row _ _ 2 _ _ _ HK6]; rfl
    have tt3 : w6.cell? ⟨w4.heap.size, 3, none⟩ = some (.int .u16 U.ch) := by rw [cell_of_row _ _ 3 _ _ _ HK6]; rfl
    have tt4 : w6.cell? ⟨w4.heap.size, 4, none⟩ = some (.string U.pl) := by rw [cell_of_row _ _ 4 _ _ _ HK6]; rfl
    have tt5 : w6.cell? ⟨w4.heap.size, 5, none⟩ = some (.slice yo yn yc) := by rw [cell_of_row _ _ 5 _ _ _ HK6]; rfl
    have pp0 : w6.cell? ⟨w.heap.size, 17, none⟩ = some (.string U.us) := by rw [cell_of_row _ _ 17 _ _ _ HQ6]; rfl
    have pp1 : w6.cell? ⟨w.heap.size, 18, none⟩ = some (.slice uo un uc) := by rw [cell_of_row _ _ 18 _ _ _ HQ6]; rfl
    have pp2 : w6.cell? ⟨w.heap.size, 19, none⟩ = some (.string U.sc) := by rw [cell_of_row _ _ 19 _ _ _ HQ6]; rfl
    have pp3 : w6.cell? ⟨w.heap.size, 20, none⟩ = some (.int .u16 U.ch) := by rw [cell_of_row _ _ 20 _ _ _ HQ6]; rfl
    have pp4 : w6.cell? ⟨w.heap.size, 21, none⟩ = some (.string U.pl) := by rw [cell_of_row _ _ 21 _ _ _ HQ6]; rfl
    have pp5 : w6.cell? ⟨w.heap.size, 22, none⟩ = some (.slice vo vn vc) := by rw [cell_of_row _ _ 22 _ _ _ HQ6]; rfl
    have TAIL := hide (fun (x y : Code) hcode K hK => chg_tail w w6 x y hcode K hK w.heap.size w4.heap.size more C ao an ac LB U xo xn xc yo yn yc uo un uc vo vn vc hm0 hm1 (unhide HM6) (by omega) (unhide MR) (Array.getElem?_eq_some_iff.1 HQ6).1 (Array.getElem?_eq_some_iff.1 HK6).1 kc6 pp0 pp1 pp2 pp3 pp4 pp5 tt0 tt1 tt2 tt3 tt4 tt5 ((unhide HX5).later hb7) ((unhide HU).later BC6) ((unhide HY5).later hb7) ((unhide HV).later BC6) BC6)
    clear hb6 hw6 kc0 hb7 HQ6 HK6 BC6 pp0 pp1 pp2 pp3 pp4 pp5 tt0 tt1 tt2 tt3 tt4 tt5 HX5 HY5 HM6 KC cRR cPP HZZ BK PT MR kc6
    go_upto_region 31 with fail
    exact unhide TAIL _ _ (by kernel_rfl) _ (by assumption) _ _ _ _ _ _ _ _ _ _ _ _ _ _ _ _ _ _ _ _ _ _ _ _ _ _ _ _ _ _ _ _ _ _ _ _ _ _ _ _ _ _ _ _ _ _ _ _ _ _ _ _ _ _ _ _ _ _ _ _ _ _ _ _ _ _ _ _ _ _ _ _ _ _ _ _ _ _ _ _ _ _ _ _ _ _ _ _ _ _ _ _ _ _ _ _ _ _ _ _ _ _ _ _ _ _ _ _ _ _ _ _ _ _ _ _ _ _ _ _ _ _ _ _ _ _ _ _ _ _ _ _ _ _ _ _ _ _ _ _ _ _ _ _ _ _ _ _ _ _ _ _ _ _ _ _ _ _ _ _ _ _ _ _ _ _ _ _ _ _ _ _ _ _ _ _ _ _ _ _ _ _ _ _ _ _ _ _ _ _ _ _ _ _ _ _ _ _ _ _ _ _ _ _ _ _ _ _ _ _ _ _ _ _ _ _ _ _ _ _ _ _ _ _ _ _ _ _ _ _ _ _ _ _ _ _ _ _ _
  · have he' : (E == 0) = false := by simpa using he
    have he2 : (E != 0) = true := by simpa using he
    clear he
    go_wp2_with fail
    go_ret
    exact ⟨rfl, unhide BC3⟩

end Go.Proofs.Ytkijdkbkbelliaa
