/-
  What Fixed of the document's own answer returns for any pieces: the same stream, the same error. It writes nothing that was there. Conditions: at most 2,000 pieces.
-/
import Derived.Test.YtbolaljlhmakeaaRefStr
import Derived.Test.YtbolaljlhmakeaaRefLen
import Derived.Test.YtbolaljlhmakeaaRefFixL
import Derived.Test.YtbolaljlhmakeaaRefExp
import Derived.Test.YtbolaljlhmakeaaMDef3
namespace Go.Proofs.Ytbolaljlhmakeaa
open Go.RowKit
set_option linter.unusedVariables false
set_option linter.unusedSimpArgs false

/-- The two codes in memory: the lengths, the codes. -/
structure Cd4 (lo : Option Addr) (lc : Nat) (d : Option Addr) (dc : Nat) (a1 : Option Addr) (n1 c1 : Nat) (a3 : Option Addr) (n3 c3 : Nat) (w : World) : Prop where
  l : Is w lo 288 lc fixL
  d : Is w d 32 dc fixD
  c : Is w a1 n1 c1 (cds fixL)
  e : Is w a3 n3 c3 (cds fixD)
/-- What is looked up of a symbol. -/
theorem look_sym {w : World} {L : List Int} {lo : Option Addr} {nl lc : Nat} {a1 : Option Addr} {n1 c1 : Nat} (hl : Is w lo nl lc L) (hc : Is w a1 n1 c1 (cds L)) {s : Nat} (hs : s < L.length) (S : Int) (hS : S = (s : Int)) :
    ∃ b1 o1 b0 o0, (∀ wx, (Instr.indexAt 52 (.slice a1 n1 c1) (.int .i64 S)).run Try.prog wx = .ok (.pointer (some ⟨b1, o1, none⟩)) wx) ∧ w.cell? ⟨b1, o1, none⟩ = some (.int .i64 (code L s)) ∧
      (∀ wx, (Instr.indexAt 52 (.slice lo nl lc) (.int .i64 S)).run Try.prog wx = .ok (.pointer (some ⟨b0, o0, none⟩)) wx) ∧ w.cell? ⟨b0, o0, none⟩ = some (.int .i64 (ln L s)) := by
  have h0 := hl.len
  have h1 := hc.len
  rw [cds_len] at h1
  obtain ⟨b1, o1, i1, x1⟩ := hc.idx (show s < n1 by omega) S hS
  obtain ⟨b0, o0, i0, x0⟩ := hl.idx (show s < nl by omega) S hS
  rw [cds_at L hs] at x1
  exact ⟨b1, o1, b0, o0, i1, x1, i0, x0⟩

section
variable {g : Nat} {oo : Option Addr} {oc : Nat} {b : List Int} {N : Nat}
theorem code_sym (w : World) (L : List Int) (s : Nat) (h1 : 1 ≤ ln L s) (h2 : ln L s ≤ 15) (h : Sq g w oo oc b N) (hN : N + 20 ≤ 1000000) :
    Calls Try.prog 36 #[.pointer (some ⟨g, 0, none⟩), .int .i64 (code L s), .int .i64 (ln L s)] w fun e w' => e = .returned (.tuple #[]) ∧ OutS g w (pkF b N (sbits L (s : Int))) (N + (sbits L (s : Int)).length) w' := by
  rw [sbits_n]
  have e : sbits L (s : Int) = bto (code L s) (ln L s).toNat := by unfold sbits; simp
  rw [e]
  exact code_ref w (code L s) (ln L s).toNat h (by omega) (by omega) (ln L s) (by omega)
end

theorem ptx_split {N D : Nat} (h : 3 ≤ N) (b : Int) : ptx ⟨(N : Int), (D : Int), b⟩ = sbits fixL ((257 + lix N : Nat) : Int) ++ (fto ((N : Int) - (lb (lix N) : Int)) 0 (lx (lix N)) ++ (sbits fixD ((dix D : Nat) : Int) ++ fto ((D : Int) - (db (dix D) : Int)) 0 (dx (dix D)))) := by
  unfold ptx
  simp only
  rw [if_neg (by omega)]
  simp
theorem pk4 (b : List Int) (n : Nat) (A B C D : List Int) : pkF b n (A ++ (B ++ (C ++ D))) = pkF (pkF (pkF (pkF b n A) (n + A.length) B) (n + A.length + B.length) C) (n + A.length + B.length + C.length) D := by rw [pkF_app, pkF_app, pkF_app]
theorem lb_le' : ∀ k, k ≤ 28 → lb k ≤ 258 := by decide

set_option maxHeartbeats 8000000 in
set_option maxRecDepth 20000 in
theorem fixed_ref (w : World) (ao : Option Addr) (n c : Nat) (l : List Pc) (h : Ps w ao n c l) (hn : n ≤ 2000) :
    Calls Try.prog 21 #[.slice ao n c] w fun e w' => ∃ bo bn bc, e = .returned (.tuple #[.slice bo bn bc, .int .i64 (fxq l).2]) ∧ Mine w.heap.size w' bo bn bc (fxq l).1 ∧ Below w.heap.size w w' := by
  have hle := h.le
  have hmx := h.max
  have hlen := hide h.len
  have H := hide h
  have xc := hide (expand_ref w ao n c l h hn)
  clear h
  by_cases he : chk 0 l = 0
  · have hr := hide (show fxq l = (fxs l, 0) from if_pos he)
    have hq : exq l = (xpd [] l, 0) := if_pos he
    rw [hq] at xc
    rw [unhide hr]
    simp only
    have HM := hide (chk_may l 0 he)
    obtain ⟨R, hR⟩ : ∃ R, R = fxs l := ⟨_, rfl⟩
    rw [← hR]
    have HR := hide hR
    clear he hr hq hR
    generalize xpd [] l = XX at *
    go_enter Try.func21, Try.ntmps21
    go_wp2_with fail
    refine (unhide xc).mono ?_
    rintro e w1 ⟨xo, xn, xcc, rfl, _, b1⟩
    have z1 := b1.size
    have fc := hide (fixedL_ref w1)
    go_wp2_with fail
    refine (unhide fc).mono ?_
    rintro e w2 ⟨lo, lc, d, dc, rfl, il, idd, b2⟩
    have z2 := b2.size
    have c1 := hide (codes_ref lo 288 lc fixL w2 il)
    have e1 : cdd fixL = cds fixL := by unfold cdd; rw [cer_fixL]; rfl
    rw [cer_fixL, e1] at c1
    have IL := hide il
    have ID := hide idd
    clear il idd e1 fc
    go_wp2_with fail
    refine (unhide c1).mono ?_
    rintro e w3 ⟨⟨a1, n1, cc1, rfl, i1⟩, b3⟩
    have z3 := b3.size
    have c2 := hide (codes_ref d 32 dc fixD w3 ((unhide ID).later b3))
    have e2 : cdd fixD = cds fixD := by unfold cdd; rw [cer_fixD]; rfl
    rw [cer_fixD, e2] at c2
    have I1 := hide i1
    clear i1 e2 c1
    go_wp2_with fail
    refine (unhide c2).mono ?_
    rintro e w4 ⟨⟨a3, n3, cc3, rfl, i3⟩, b4⟩
    have z4 := b4.size
    have bw4 : Below w.heap.size w w4 := ((b1.trans (b2.mono z1)).trans (b3.mono (by omega))).trans (b4.mono (by omega))
    have cd : Cd4 lo lc d dc a1 n1 cc1 a3 n3 cc3 w4 := ⟨((unhide IL).later b3).later b4, ((unhide ID).later b3).later b4, (unhide I1).later b4, i3⟩
    have CD := hide (fun w' (f : Below w4.heap.size w4 w') => show Cd4 lo lc d dc a1 n1 cc1 a3 n3 cc3 w' from ⟨cd.l.later f, cd.d.later f, cd.c.later f, cd.e.later f⟩)
    have bb := below_alloc w4 (.cells #[.slice none 0 0, .int .i64 0] 59)
    have s5 : Sq w4.heap.size (w4.alloc (.cells #[.slice none 0 0, .int .i64 0] 59)) none 0 [] 0 := ⟨heap_alloc_new w4 _, Mine.nought _ _, Wst.nought⟩
    have f1 := hide (field_ref _ 1 1 s5 (by omega) (by omega) 1 rfl)
    have BW4 := hide bw4
    have BB := hide bb
    have zz : w.heap.size ≤ w4.heap.size := bw4.size
    clear cd i3 IL ID I1 b1 b2 b3 b4 bw4 bb s5 c2 xc z1 z2 z3 z4
    go_wp2_with fail
    refine (unhide f1).mono ?_
    rintro e w5 ⟨rfl, o5, oc5, s5, b5⟩
    have f2 := hide (field_ref w5 1 2 s5 (by omega) (by omega) 2 rfl)
    have B5 := hide ((unhide BB).trans b5)
    clear s5 b5 f1
    go_wp2_with fail
    refine (unhide f2).mono ?_
    rintro e w6 ⟨rfl, o6, oc6, s6, b6⟩
    have e6 : pkF (pkF [] 0 (fto 1 0 1)) (0 + 1) (fto 1 0 2) = pkF [] 0 (head3 ++ ptxs (l.take 0)) := by
      rw [show head3 ++ ptxs (l.take 0) = fto 1 0 1 ++ fto 1 0 2 by simp [ptxs, head3], pkF_app]
      rfl
    rw [e6] at s6
    have B6 := hide ((unhide B5).trans b6)
    have S6 := hide (show Sq w4.heap.size w6 o6 oc6 (pkF [] 0 (head3 ++ ptxs (l.take 0))) (head3 ++ ptxs (l.take 0)).length from s6)
    have hbits := hide (ptxs_le (unhide HM) (fun p hp => ⟨((unhide H).fit p hp).b0, ((unhide H).fit p hp).b1⟩))
    clear s6 b6 e6 f2 B5 BB
    go_wp2_with fail
    go_loopw [13] (fun i wr => ∃ (k : Nat) (o' : Option Addr) (c' : Nat), k ≤ n ∧ i = .int .i64 (k : Int) ∧ Sq w4.heap.size wr o' c' (pkF [] 0 (head3 ++ ptxs (l.take k))) (head3 ++ ptxs (l.take k)).length ∧ Below w4.heap.size w4 wr) (fun i _ => n - (intOf i).toNat)
    case atStart => exact ⟨0, o6, oc6, by omega, rfl, unhide S6, unhide B6⟩
    case round =>
      clear S6 B6
      obtain ⟨k, o', c', hk, rfl, hs, bw⟩ := hrel
      have hNb : (head3 ++ ptxs (l.take k)).length ≤ 3 + 40 * k := by rw [List.length_append, head3_len]; have := unhide hbits k; omega
      have BW := hide bw
      have BT := hide ((unhide BW4).trans (bw.mono zz))
      by_cases hlt : k < n
      · have hlt' : (k : Int) < (n : Int) := by omega
        obtain ⟨⟨pl, pd, pb⟩, hp⟩ : ∃ p, l[k]? = some p := ⟨_, List.getElem?_eq_getElem (show k < l.length by rw [unhide hlen]; exact hlt)⟩
        obtain ⟨ib, io, hix, y0, y1, y2⟩ := (unhide H).idx hp (k : Int) rfl
        simp only at y0 y1 y2
        have hok := (unhide H).fit _ (List.mem_of_getElem? hp)
        have hmay := (unhide HM) _ (List.mem_of_getElem? hp)
        have b0 := hok.b0
        have bb1 := hok.b1
        simp only at b0 bb1
        obtain ⟨st1, st2⟩ := fx_step hp
        obtain ⟨BN, hBN⟩ : ∃ BN, BN = (head3 ++ ptxs (l.take k)).length := ⟨_, rfl⟩
        obtain ⟨BY, hBY⟩ : ∃ BY, BY = pkF [] 0 (head3 ++ ptxs (l.take k)) := ⟨_, rfl⟩
        rw [← hBN, ← hBY] at st1
        rw [← hBN] at st2 hNb
        rw [← hBN, ← hBY] at hs
        clear hp hok bw hBN hBY
        by_cases h0 : pl = 0
        · have hd0 := may_byte hmay h0
          simp only at hd0
          subst h0 hd0
          obtain ⟨P, rfl⟩ := Int.eq_ofNat_of_zero_le b0
          have hptx : ptx ⟨0, 0, (P : Int)⟩ = sbits fixL (P : Int) := by unfold ptx; simp
          rw [hptx] at st1 st2
          have hln := ln_fixL P (by omega)
          have cs := hide (code_sym wr.drew fixL P (by omega) (by omega) (hs.later (below_drew wr)) (by omega))
          rw [st1, st2] at cs
          obtain ⟨cb1, co1, cb0, co0, ii1, xx1, ii0, xx0⟩ := look_sym ((unhide CD) wr (unhide BW)).l ((unhide CD) wr (unhide BW)).c (show P < fixL.length by rw [fixL_len]; omega) (P : Int) rfl
          have x0 := cell_later (unhide BT) y0
          have x2 := cell_later (unhide BT) y2
          generalize code fixL P = CO at *
          generalize ln fixL P = LN at *
          have BD := hide (show Below w4.heap.size wr wr.drew from ⟨rfl, rfl, rfl, Nat.le_refl _, fun _ _ => rfl⟩)
          clear y0 y1 y2 hs hmay st1 st2 hptx hln
          go_wp2_with fail
          go_region_with (go_at_call 36; refine (unhide cs).mono ?_; rintro e w7 ⟨rfl, o7, c7, s7, b7⟩)
          all_goals have S7 := hide s7
          all_goals have B7 := hide (((unhide BW).trans (unhide BD)).trans b7)
          all_goals clear s7 b7
          all_goals go_wp2_with fail
          all_goals go_roundw
          all_goals first
            | exact ⟨k + 1, o7, c7, by omega, by go_num, unhide S7, unhide B7⟩
            | (simp [intOf]; omega)
        · have hcp := may_copy hmay h0
          simp only at hcp
          obtain ⟨NN, rfl⟩ : ∃ NN : Nat, pl = (NN : Int) := ⟨pl.toNat, by omega⟩
          obtain ⟨DD, rfl⟩ : ∃ DD : Nat, pd = (DD : Int) := ⟨pd.toNat, by omega⟩
          have hNN : 3 ≤ NN ∧ NN ≤ 258 := by omega
          have hDD : 1 ≤ DD ∧ DD ≤ 32768 := by omega
          have h0' : ((NN : Int) == 0) = false := by simp; omega
          rw [ptx_split hNN.1] at st1 st2
          have hLI := lix_le NN
          have hDI := dix_le DD
          have l1 := hide (lengthOf_ref wr NN hNN.1 hNN.2 (NN : Int) rfl)
          obtain ⟨LI, hLIe⟩ : ∃ LI, LI = lix NN := ⟨_, rfl⟩
          rw [← hLIe] at st1 st2 hLI l1
          have d1 := hide (fun W => distanceOf_ref W DD hDD.2 (DD : Int) rfl)
          obtain ⟨DI, hDIe⟩ : ∃ DI, DI = dix DD := ⟨_, rfl⟩
          rw [← hDIe] at st1 st2 hDI d1
          clear hLIe hDIe
          have l2 := hide (length_ref wr LI hLI ((257 + LI : Nat) : Int) (by omega))
          have d2 := hide (fun W => distance_ref W DI hDI (DI : Int) rfl)
          have hLB := lb_le' LI hLI
          have hLX := lx_le LI hLI
          have hDB := db_le DI (by omega)
          have hDX := dx_le DI hDI
          have hlnl := ln_fixL (257 + LI) (by omega)
          have hlnd := ln_fixD DI (by omega)
          obtain ⟨LB, hLBe⟩ : ∃ LB, LB = lb LI := ⟨_, rfl⟩
          obtain ⟨LX, hLXe⟩ : ∃ LX, LX = lx LI := ⟨_, rfl⟩
          obtain ⟨DB, hDBe⟩ : ∃ DB, DB = db DI := ⟨_, rfl⟩
          obtain ⟨DX, hDXe⟩ : ∃ DX, DX = dx DI := ⟨_, rfl⟩
          rw [← hLBe, ← hLXe] at l2
          rw [← hDBe, ← hDXe] at d2
          rw [← hLBe] at hLB
          rw [← hLXe] at hLX
          rw [← hDBe] at hDB
          rw [← hDXe] at hDX
          rw [← hLBe, ← hLXe, ← hDBe, ← hDXe] at st1 st2
          clear hLBe hLXe hDBe hDXe
          rw [pk4] at st1
          rw [List.length_append, List.length_append, List.length_append, fto_len, fto_len] at st2
          rw [fto_len] at st1
          obtain ⟨SN, hSN⟩ : ∃ SN : Nat, SN = 257 + LI := ⟨_, rfl⟩
          rw [← hSN] at st1 st2 l1 l2 hlnl
          have hSNb : 257 ≤ SN ∧ SN ≤ 285 := by omega
          have hA1 : (sbits fixL (SN : Int)).length ≤ 15 := by rw [sbits_n]; omega
          have hA2 : (sbits fixD (DI : Int)).length ≤ 15 := by rw [sbits_n]; omega
          have cs := hide (code_sym wr.drew fixL SN (by omega) (by omega) (hs.later (below_drew wr)) (by omega))
          have cs2 := hide (fun W oo oc b N (q : Sq w4.heap.size W oo oc b N) (hN : N + 20 ≤ 1000000) => code_sym W fixD DI (by omega) (by omega) q hN)
          obtain ⟨cb1, co1, cb0, co0, ii1, xx1, ii0, xx0⟩ := look_sym ((unhide CD) wr (unhide BW)).l ((unhide CD) wr (unhide BW)).c (show SN < fixL.length by rw [fixL_len]; omega) (SN : Int) rfl
          have lk2 := hide (fun W (f : Below w4.heap.size w4 W) => look_sym ((unhide CD) W f).d ((unhide CD) W f).e (show DI < fixD.length by rw [fixD_len]; omega) (DI : Int) rfl)
          generalize code fixL SN = CO at *
          generalize ln fixL SN = LN at *
          generalize code fixD DI = CO2 at *
          generalize ln fixD DI = LN2 at *
          generalize sbits fixL (SN : Int) = A1 at *
          generalize sbits fixD (DI : Int) = A2 at *
          have x0 := cell_later (unhide BT) y0
          have BD := hide (show Below w4.heap.size wr wr.drew from ⟨rfl, rfl, rfl, Nat.le_refl _, fun _ _ => rfl⟩)
          have YY := hide (And.intro y0 y1)
          have ST := hide (And.intro st1 st2)
          have HS := hide hSN
          clear y0 y1 y2 hs hmay st1 st2 hlnl hlnd h0 hcp hSN
          go_wp2_with fail
          refine (unhide l1).mono ?_
          rintro e w7 ⟨rfl, rfl⟩
          go_wp2_with fail
          refine (unhide l2).mono ?_
          rintro e w7 ⟨rfl, rfl⟩
          go_wp2_with fail
          go_region_with (go_at_call 36; refine (unhide cs).mono ?_; rintro e w8 ⟨rfl, o8, c8, s8, b8⟩)
          all_goals have B8 := hide (((unhide BW).trans (unhide BD)).trans b8)
          all_goals have x0' := cell_later ((unhide BW4).trans ((unhide B8).mono zz)) (unhide YY).1
          all_goals have fl := hide (field_ref w8 ((NN : Int) - (LB : Int)) LX s8 (by omega) (by omega) (LX : Int) rfl)
          all_goals clear s8 b8 x0 ii1 xx1 ii0 xx0 cs l1 l2 BD
          all_goals go_wp2_with fail
          all_goals refine (unhide fl).mono ?_
          all_goals rintro e w9 ⟨rfl, o9, c9, s9, b9⟩
          all_goals have B9 := hide ((unhide B8).trans b9)
          all_goals have x1' := cell_later ((unhide BW4).trans ((unhide B9).mono zz)) (unhide YY).2
          all_goals obtain ⟨db1, do1, db0, do0, jj1, yy1, jj0, yy0⟩ := unhide lk2 w9 (unhide B9)
          all_goals have cs3 := hide ((unhide cs2) w9.drew _ _ _ _ (s9.later (below_drew w9)) (by omega))
          all_goals have d1' := hide (unhide d1 w9)
          all_goals have d2' := hide (unhide d2 w9)
          all_goals have BD9 := hide (show Below w4.heap.size w9 w9.drew from ⟨rfl, rfl, rfl, Nat.le_refl _, fun _ _ => rfl⟩)
          all_goals clear s9 b9 x0' cs2 lk2 fl d1 d2
          all_goals go_wp2_with fail
          all_goals refine (unhide d1').mono ?_
          all_goals rintro e wa ⟨rfl, rfl⟩
          all_goals go_wp2_with fail
          all_goals refine (unhide d2').mono ?_
          all_goals rintro e wa ⟨rfl, rfl⟩
          all_goals go_wp2_with fail
          all_goals go_region_with (go_at_call 36; refine (unhide cs3).mono ?_; rintro e w10 ⟨rfl, o10, c10, s10, b10⟩)
          all_goals have B10 := hide (((unhide B9).trans (unhide BD9)).trans b10)
          all_goals have x1'' := cell_later ((unhide BW4).trans ((unhide B10).mono zz)) (unhide YY).2
          all_goals have fl2 := hide (field_ref w10 ((DD : Int) - (DB : Int)) DX s10 (by omega) (by omega) (DX : Int) rfl)
          all_goals clear s10 b10 x1' jj1 yy1 jj0 yy0 cs3 BD9 d1' d2'
          all_goals go_wp2_with fail
          all_goals refine (unhide fl2).mono ?_
          all_goals rintro e w11 ⟨rfl, o11, c11, s11, b11⟩
          all_goals have B11 := hide ((unhide B10).trans b11)
          all_goals have S11 := hide (show Sq w4.heap.size w11 o11 c11 (pkF [] 0 (head3 ++ ptxs (l.take (k + 1)))) (head3 ++ ptxs (l.take (k + 1))).length by
            rw [← (unhide ST).2, show BN + (A1.length + (LX + (A2.length + DX))) = BN + A1.length + LX + A2.length + DX by omega, ← (unhide ST).1]
            exact s11)
          all_goals clear s11 b11 x1''
          all_goals go_wp2_with fail
          all_goals go_roundw
          all_goals first
            | exact ⟨k + 1, o11, c11, by omega, by go_num, unhide S11, unhide B11⟩
            | (simp [intOf]; omega)
      · have hlt' : ¬ (k : Int) < (n : Int) := by omega
        have hkl : l.take k = l := List.take_of_length_le (by rw [unhide hlen]; omega)
        rw [hkl] at hs hNb
        have hln := ln_fixL 256 (by omega)
        have cs := hide (code_sym wr.drew fixL 256 (by omega) (by omega) (hs.later (below_drew wr)) (by omega))
        have hfin := hide (show pkF (pkF [] 0 (head3 ++ ptxs l)) (head3 ++ ptxs l).length (sbits fixL ((256 : Nat) : Int)) = R by rw [unhide HR]; exact fx_end l)
        rw [unhide hfin] at cs
        obtain ⟨cb1, co1, cb0, co0, ii1, xx1, ii0, xx0⟩ := look_sym ((unhide CD) wr (unhide BW)).l ((unhide CD) wr (unhide BW)).c (show 256 < fixL.length by rw [fixL_len]; omega) 256 rfl
        generalize (head3 ++ ptxs l).length + (sbits fixL ((256 : Nat) : Int)).length = NX at *
        generalize code fixL 256 = CO at *
        generalize ln fixL 256 = LN at *
        have BD := hide (show Below w4.heap.size wr wr.drew from ⟨rfl, rfl, rfl, Nat.le_refl _, fun _ _ => rfl⟩)
        clear hs hkl hNb hfin bw hln
        go_wp2_with fail
        go_region_with (go_at_call 36; refine (unhide cs).mono ?_; rintro e w8 ⟨rfl, o8, c8, s8, b8⟩)
        all_goals have j0 := s8.k0
        all_goals have S8 := hide s8
        all_goals have B8 := hide ((unhide BW4).trans ((((unhide BW).trans (unhide BD)).trans b8).mono zz))
        all_goals clear s8 b8
        all_goals go_wp2_with fail
        all_goals go_ret2
        all_goals exact ⟨o8, _, c8, rfl, (unhide S8).out.mono (by omega), unhide B8⟩
  · have he' : (chk 0 l != 0) = true := by simpa using he
    have hr := hide (show fxq l = ([], chk 0 l) from if_neg he)
    have hq : exq l = ([], chk 0 l) := if_neg he
    rw [hq] at xc
    rw [unhide hr]
    simp only
    clear hq hr he
    generalize chk 0 l = R at *
    go_enter Try.func21, Try.ntmps21
    go_wp2_with fail
    refine (unhide xc).mono ?_
    rintro e w1 ⟨xo, xn, xcc, rfl, _, b1⟩
    go_wp2_with fail
    go_ret2
    exact ⟨none, 0, 0, rfl, Mine.nought _ _, b1⟩
end Go.Proofs.Ytbolaljlhmakeaa
