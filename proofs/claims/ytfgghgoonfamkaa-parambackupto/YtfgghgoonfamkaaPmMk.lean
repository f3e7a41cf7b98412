/-
  What readMarks of package param returns: the marks, what is left behind their bits, the error. It writes nothing that was there. Conditions: the slices can be read; at most 10 to the 5 parameters.
-/
import Derived.Test.YtfgghgoonfamkaaPmRv
import Derived.BigRegion
namespace Go.Proofs.Ytfgghgoonfamkaa
open Go.RowKit
set_option linter.unusedVariables false
set_option linter.unusedSimpArgs false

/-- May the marks be? -/
def mkP (nl : List Int) (n : Nat) (lg : List Bool) (i : Nat) : Bool := !(bit nl i && (decide (n ≤ i) || lg.getD i false))
def mkOk (nl : List Int) (n : Nat) (lg : List Bool) : Bool := (List.range (8 * nl.length)).all (mkP nl n lg)
def mkE (b : List Int) (n : Nat) (lg : List Bool) : Int := if b.length < (n + 7) / 8 then 4 else if mkOk (b.take ((n + 7) / 8)) n lg = false then 5 else 0
theorem mk_next {nl : List Int} {n : Nat} {lg : List Bool} {j : Nat} : (List.range (j + 1)).all (mkP nl n lg) = ((List.range j).all (mkP nl n lg) && mkP nl n lg j) := by
  rw [List.range_succ, List.all_append]
  simp
theorem mk_no {nl : List Int} {n : Nat} {lg : List Bool} {j m : Nat} (h : mkP nl n lg j = false) (hj : j < m) : (List.range m).all (mkP nl n lg) = false := by
  rw [List.all_eq_false]
  exact ⟨j, List.mem_range.2 hj, by rw [h]; decide⟩
def OutMk (w : World) (bo : Option Addr) (bn bc : Nat) (b : List Int) (n : Nat) (go : Option Addr) (gn gc : Nat) (lg : List Bool) (e : Ending) (w' : World) : Prop :=
  if mkE b n lg = 0 then ∃ no nn nc lo ln lc, e = .returned (.tuple #[.agg #[.slice no nn nc, .slice go gn gc], .slice lo ln lc, .int .i64 0]) ∧ Cut bo bn bc b no nn nc (b.take ((n + 7) / 8)) ∧ Cut bo bn bc b lo ln lc (b.drop ((n + 7) / 8)) ∧ Below w.heap.size w w'
  else e = .returned (.tuple #[.agg #[.slice none 0 0, .slice none 0 0], .slice none 0 0, .int .i64 (mkE b n lg)]) ∧ Below w.heap.size w w'
theorem OutMk.mk0 {w : World} {bo : Option Addr} {bn bc : Nat} {b : List Int} {n : Nat} {go : Option Addr} {gn gc : Nat} {lg : List Bool} {e : Ending} {w' : World} (h : mkE b n lg = 0) (q : ∃ no nn nc lo ln lc, e = .returned (.tuple #[.agg #[.slice no nn nc, .slice go gn gc], .slice lo ln lc, .int .i64 0]) ∧ Cut bo bn bc b no nn nc (b.take ((n + 7) / 8)) ∧ Cut bo bn bc b lo ln lc (b.drop ((n + 7) / 8)) ∧ Below w.heap.size w w') : OutMk w bo bn bc b n go gn gc lg e w' := by
  unfold OutMk
  rwa [if_pos h]
theorem OutMk.mkN {w : World} {bo : Option Addr} {bn bc : Nat} {b : List Int} {n : Nat} {go : Option Addr} {gn gc : Nat} {lg : List Bool} {e : Ending} {w' : World} {E : Int} (h : mkE b n lg = E) (h0 : E ≠ 0) (q : e = .returned (.tuple #[.agg #[.slice none 0 0, .slice none 0 0], .slice none 0 0, .int .i64 E]) ∧ Below w.heap.size w w') : OutMk w bo bn bc b n go gn gc lg e w' := by
  unfold OutMk
  rw [h]
  rwa [if_neg h0]
theorem OutMk.is0 {w : World} {bo : Option Addr} {bn bc : Nat} {b : List Int} {n : Nat} {go : Option Addr} {gn gc : Nat} {lg : List Bool} {e : Ending} {w' : World} (q : OutMk w bo bn bc b n go gn gc lg e w') (h : mkE b n lg = 0) : ∃ no nn nc lo ln lc, e = .returned (.tuple #[.agg #[.slice no nn nc, .slice go gn gc], .slice lo ln lc, .int .i64 0]) ∧ Cut bo bn bc b no nn nc (b.take ((n + 7) / 8)) ∧ Cut bo bn bc b lo ln lc (b.drop ((n + 7) / 8)) ∧ Below w.heap.size w w' := by
  unfold OutMk at q
  rwa [if_pos h] at q
theorem OutMk.isN {w : World} {bo : Option Addr} {bn bc : Nat} {b : List Int} {n : Nat} {go : Option Addr} {gn gc : Nat} {lg : List Bool} {e : Ending} {w' : World} {E : Int} (q : OutMk w bo bn bc b n go gn gc lg e w') (h : mkE b n lg = E) (h0 : E ≠ 0) : e = .returned (.tuple #[.agg #[.slice none 0 0, .slice none 0 0], .slice none 0 0, .int .i64 E]) ∧ Below w.heap.size w w' := by
  unfold OutMk at q
  rw [h] at q
  rwa [if_neg h0] at q
theorem rsets2 {w : World} {g : Nat} {T : TypeId} {z0 z1 v0 v1 : Value} (h : w.heap[g]? = some (.cells #[z0, z1] T (0, 0))) : ((w.setCell ⟨g, 0, none⟩ v0).setCell ⟨g, 1, none⟩ v1).heap[g]? = some (.cells #[v0, v1] T (0, 0)) := by
  have h0 : (w.setCell ⟨g, 0, none⟩ v0).heap[g]? = some (.cells #[v0, z1] T (0, 0)) := heap_setCell_same _ g 0 _ _ _ h
  exact heap_setCell_same _ g 1 _ _ _ h0
theorem below_s2 {w0 w : World} {B g : Nat} {v0 v1 : Value} (h : Below B w0 w) (hg : B ≤ g) : Below B w0 ((w.setCell ⟨g, 0, none⟩ v0).setCell ⟨g, 1, none⟩ v1) :=
  ⟨h.os, h.tape, h.output, Nat.le_trans h.size (by simp), fun k hk => ((heap_setCell_other _ _ _ _ (by show k ≠ g; omega)).trans (heap_setCell_other _ _ _ _ (by show k ≠ g; omega))).trans (h.block k hk)⟩

set_option maxHeartbeats 4000000 in
set_option maxRecDepth 100000 in
theorem preadMarks_any (bo : Option Addr) (bn bc : Nat) (b : List Int) (n : Nat) (go : Option Addr) (gn gc : Nat) (lg : List Bool) (w : World) (hb : Bs w bo bn bc b) (hg : Bls w go gn gc lg) (hn : n ≤ 90000) :
    Calls Try.prog 23 #[.slice bo bn bc, .int .i64 (n : Int), .slice go gn gc] w fun e w' => OutMk w bo bn bc b n go gn gc lg e w' := by
  have hbl := hb.len
  have hle := hb.le
  have hmx := hb.max
  have hgl := hg.le
  have hgx := hg.max
  obtain ⟨SZ, hSZ⟩ : ∃ z, z = (n + 7) / 8 := ⟨_, rfl⟩
  have cNB := hide (fun wx => pnullBytes_any n wx (by omega))
  rw [← hSZ] at cNB
  have HSZ := hide hSZ
  have hs2 : 8 * SZ ≤ 90010 := by omega
  have SM := hide (fun (x y : Value) => show (Try.prog.info? 54).map (·.size) = some (#[x, y] : Array Value).size from (by rw [show (#[x, y] : Array Value).size = 2 from rfl]; kernel_rfl))
  have q1 := below_alloc w (.cells #[.slice none 0 0, .slice none 0 0] 54)
  have r1 := heap_alloc_new w (.cells #[.slice none 0 0, .slice none 0 0] 54)
  by_cases hlt : bn < SZ
  · have g1 : (bn : Int) < (SZ : Int) := by omega
    have HE := hide (show mkE b n lg = 4 by unfold mkE; rw [if_pos (by omega)])
    have Q1 := hide q1
    have R1 := hide r1
    clear hb hg hSZ hbl q1 r1
    go_enter Try.func23, Try.ntmps23
    go_wp2_with (first | (go_at_call 43; (with_reducible refine same_world (unhide cNB _) ?_)) | (with_reducible show wpList Try.prog _ _ (Oper.mk _ (Op.store 54 _ _) _ _ _ none :: _) _ _; refine wpList_stN rfl _ (.tmp 6) (.tmp 17) rfl #[.slice none 0 0, .slice none 0 0] (by simp [Act.eval, Act.put]) (by simp [Act.eval, Act.put]) (unhide SM _ _) rfl (by simp [Value.oneCell']) ?_; intro w2 r2 b2 l2; have R2 := hide r2; have B2 := hide b2; clear r2 b2))
    refine bodyPost_ret (results_row_tmp2 rfl _ _ w.heap.size _ rfl (run_loadVar_row _ w.heap.size _ _ _ _ _ (unhide R2) Try.underlying54 rfl (unhide SM _ _))) rfl ?_
    exact OutMk.mkN (unhide HE) (by decide) ⟨rfl, unhide B2⟩
  have g1 : ¬ (bn : Int) < (SZ : Int) := by omega
  obtain ⟨no, nc, hs1, hc1⟩ := Bs.cuth2 bo bn bc b (hi := SZ) (by omega) hle (SZ : Int) rfl
  obtain ⟨lo, lc, hs3, hc3⟩ := Bs.cutl2 bo bn bc b (lo := SZ) (by omega) (SZ : Int) rfl
  have hx1 := hc1 w hb
  have HX1 := hide hx1
  have hnl := hx1.len
  obtain ⟨NL, hNL⟩ : ∃ z, z = b.take SZ := ⟨_, rfl⟩
  rw [← hNL] at hx1 hnl
  have HE := hide (show mkE b n lg = if mkOk NL n lg = false then 5 else 0 by unfold mkE; rw [if_neg (by omega), ← hSZ, ← hNL])
  have HOKD := hide (show mkOk NL n lg = (List.range (8 * SZ)).all (mkP NL n lg) by unfold mkOk; rw [hnl])
  have HC1 := hide hc1
  have HC3 := hide hc3
  have HG := hide hg
  have HNLB := hide hx1
  obtain ⟨N8, hN8⟩ : ∃ z, z = 8 * SZ := ⟨_, rfl⟩
  have e8 : (8 : Int) * (SZ : Int) = (N8 : Int) := by omega
  have HN8 := hide hN8
  rw [← hN8] at HOKD
  clear hb hg hSZ hbl q1 r1 hx1 hc1 hc3 hnl hN8 hNL HX1
  go_enter Try.func23, Try.ntmps23
  go_wp2_with (first | (go_at_call 43; (with_reducible refine same_world (unhide cNB _) ?_)) | (with_reducible show wpList Try.prog _ _ (Oper.mk _ (Op.store 54 _ _) _ _ _ none :: _) _ _; refine wpList_stN rfl _ (.tmp 6) (.tmp 22) rfl #[.slice no SZ nc, .slice go gn gc] (by simp [Act.eval, Act.put]) (by simp [Act.eval, Act.put]) (unhide SM _ _) rfl (by simp [Value.oneCell']) ?_; intro w2 r2 b2 l2; have R2 := hide r2; have B2 := hide b2; clear r2 b2))
  go_loopw [25] (fun iv ws => ∃ (j : Nat), j ≤ N8 ∧ iv = .int .i64 (j : Int) ∧ ws.heap[w.heap.size]? = some (.cells #[.slice no SZ nc, .slice go gn gc] 54 (0, 0)) ∧ (List.range j).all (mkP NL n lg) = true ∧ Below w.heap.size w ws) (fun iv _ => N8 - (intOf iv).toNat)
  case atStart => exact ⟨0, by omega, rfl, unhide R2, rfl, unhide B2⟩
  case round =>
    clear R2 B2 cNB
    obtain ⟨j, hj, rfl, hR, hQ, hB⟩ := hrel
    have hob := hB.size
    have hgs : w.heap.size < wr.heap.size := (Array.getElem?_eq_some_iff.1 hR).1
    have k0 := vrow_cell hR (j := 0) (v := .slice no SZ nc) rfl
    have k1 := vrow_cell hR (j := 1) (v := .slice go gn gc) rfl
    have HB := hide hB
    have HQ := hide hQ
    have HRW := hide hR
    clear hB hQ hR
    by_cases hlt2 : j < N8
    · have hlj : ((j : Nat) : Int) < (N8 : Int) := by omega
      have hj8 : j / 8 < SZ := by have := unhide HN8; omega
      have hj9 : j ≤ 100000 := by have := unhide HN8; omega
      have cI := hide (mkNull_any go gn gc no SZ nc NL j wr ((unhide HNLB).later (unhide HB)) hj8 hj9)
      have HNX := hide (mk_next (nl := NL) (n := n) (lg := lg) (j := j))
      have HNO := hide (fun (h : mkP NL n lg j = false) => mk_no h hlt2)
      have HP : Hid (mkP NL n lg j = !(bit NL j && (decide (n ≤ j) || lg.getD j false))) := hide rfl
      generalize mkP NL n lg j = PJ at *
      generalize bit NL j = BT at *
      cases BT
      · have HQ2 := hide (show (List.range (j + 1)).all (mkP NL n lg) = true by rw [unhide HNX, unhide HQ, unhide HP]; rfl)
        clear HNX HNO HP
        go_wp2_with (go_at_call 44; (with_reducible refine (unhide cI).mono ?_); rintro e w3 ⟨rfl, b3⟩; have B3 := hide (vbup (unhide HB) b3); have R3 := hide (vrow_later (unhide HRW) b3); clear b3)
        go_roundw
        case rel => exact ⟨j + 1, by omega, by go_num, unhide R3, unhide HQ2, unhide B3⟩
        case measure => simp [intOf]; omega
      · by_cases hnj : n ≤ j
        · have gn1 : ((j : Nat) : Int) ≥ (n : Int) := by omega
          have HE2 := hide (show mkE b n lg = 5 by rw [unhide HE, unhide HOKD, unhide HNO (by rw [unhide HP, decide_eq_true hnj]; rfl)]; rfl)
          clear HNX HNO HP HE HOKD
          go_wp2_with (first | (go_at_call 44; (with_reducible refine (unhide cI).mono ?_); rintro e w3 ⟨rfl, b3⟩; have B3 := hide (vbup (unhide HB) b3); have R3 := hide (vrow_later (unhide HRW) b3); clear b3) | (with_reducible show wpList Try.prog _ _ (Oper.mk _ (Op.store 54 _ _) _ _ _ none :: _) _ _; refine wpList_stG rfl _ (.tmp 6) (.tmp 41) rfl w.heap.size #[.slice none 0 0, .slice none 0 0] #[.slice no SZ nc, .slice go gn gc] (by simp [Act.eval, Act.put]) (by simp [Act.eval, Act.put]) (unhide R3) (unhide SM _ _) rfl (by simp [Value.oneCell']) ?_; intro w4 r4 g4 s4; have R4 := hide r4; have B4 := hide (below_gb' (unhide B3) g4 (unhide B3).size); clear r4 g4 s4))
          refine bodyPost_ret (results_row_tmp2 rfl _ _ w.heap.size _ rfl (run_loadVar_row _ w.heap.size _ _ _ _ _ (unhide R4) Try.underlying54 rfl (unhide SM _ _))) rfl ?_
          exact OutMk.mkN (unhide HE2) (by decide) ⟨rfl, unhide B4⟩
        · have gn1 : ¬ ((j : Nat) : Int) ≥ (n : Int) := by omega
          have cL := hide (fun wx (hx : Below w.heap.size w wx) => mkLong_any go gn gc lg no SZ nc j wx ((unhide HG).later hx) (by omega))
          have HP2 := hide (show PJ = !(lg.getD j false) by rw [unhide HP, decide_eq_false hnj]; simp)
          generalize lg.getD j false = LB at *
          cases LB
          · have HQ2 := hide (show (List.range (j + 1)).all (mkP NL n lg) = true by rw [unhide HNX, unhide HQ, unhide HP2]; rfl)
            clear HNX HNO HP HP2
            go_wp2_with (first | (go_at_call 44; (with_reducible refine (unhide cI).mono ?_); rintro e w3 ⟨rfl, b3⟩; have B3 := hide (vbup (unhide HB) b3); have R3 := hide (vrow_later (unhide HRW) b3); have k2 := vrow_cell (unhide R3) (j := 0) (v := .slice no SZ nc) rfl; have k3 := vrow_cell (unhide R3) (j := 1) (v := .slice go gn gc) rfl; clear b3) | (go_at_call 45; (with_reducible refine (unhide cL _ (unhide B3)).mono ?_); rintro e w4 ⟨rfl, b4⟩; have B4 := hide (vbup (unhide B3) b4); have R4 := hide (vrow_later (unhide R3) b4); clear b4))
            go_roundw
            case rel => exact ⟨j + 1, by omega, by go_num, unhide R4, unhide HQ2, unhide B4⟩
            case measure => simp [intOf]; omega
          · have HE2 := hide (show mkE b n lg = 5 by rw [unhide HE, unhide HOKD, unhide HNO (unhide HP2)]; rfl)
            clear HNX HNO HP HE HOKD HP2
            go_wp2_with (first | (go_at_call 44; (with_reducible refine (unhide cI).mono ?_); rintro e w3 ⟨rfl, b3⟩; have B3 := hide (vbup (unhide HB) b3); have R3 := hide (vrow_later (unhide HRW) b3); have k2 := vrow_cell (unhide R3) (j := 0) (v := .slice no SZ nc) rfl; have k3 := vrow_cell (unhide R3) (j := 1) (v := .slice go gn gc) rfl; clear b3) | (go_at_call 45; (with_reducible refine (unhide cL _ (unhide B3)).mono ?_); rintro e w4 ⟨rfl, b4⟩; have B4 := hide (vbup (unhide B3) b4); have R4 := hide (vrow_later (unhide R3) b4); clear b4) | (with_reducible show wpList Try.prog _ _ (Oper.mk _ (Op.store 54 _ _) _ _ _ none :: _) _ _; refine wpList_stG rfl _ (.tmp 6) (.tmp 41) rfl w.heap.size #[.slice none 0 0, .slice none 0 0] #[.slice no SZ nc, .slice go gn gc] (by simp [Act.eval, Act.put]) (by simp [Act.eval, Act.put]) (unhide R4) (unhide SM _ _) rfl (by simp [Value.oneCell']) ?_; intro w5 r5 g5 s5; have R5 := hide r5; have B5 := hide (below_gb' (unhide B4) g5 (unhide B4).size); clear r5 g5 s5))
            refine bodyPost_ret (results_row_tmp2 rfl _ _ w.heap.size _ rfl (run_loadVar_row _ w.heap.size _ _ _ _ _ (unhide R5) Try.underlying54 rfl (unhide SM _ _))) rfl ?_
            exact OutMk.mkN (unhide HE2) (by decide) ⟨rfl, unhide B5⟩
    · have hjn : j = N8 := by omega
      subst hjn
      have hlj : ¬ ((j : Nat) : Int) < (j : Int) := by omega
      have HE2 := hide (show mkE b n lg = 0 by rw [unhide HE, unhide HOKD, unhide HQ]; rfl)
      have f0 := frozen_of_row _ _ 0 _ _ (unhide HRW)
      have f1 := frozen_of_row _ _ 1 _ _ (unhide HRW)
      clear HE HOKD HQ HN8 e8
      go_wp2_with fail
      go_region
      all_goals go_wp2_with fail
      all_goals
        refine bodyPost_ret (results_row_tmp2 rfl _ _ w.heap.size _ rfl (run_loadVar_row _ w.heap.size _ _ _ _ _ (drew_row1 (rsets2 (unhide HRW))) Try.underlying54 rfl (unhide SM _ _))) rfl ?_
        exact OutMk.mk0 (unhide HE2) ⟨no, SZ, nc, lo, bn - SZ, lc, rfl, by rw [← unhide HSZ]; exact unhide HC1, by rw [← unhide HSZ]; exact unhide HC3, (below_s2 (unhide HB) (Nat.le_refl _)).trans ((below_drew _).mono (by simp; omega))⟩


end Go.Proofs.Ytfgghgoonfamkaa
