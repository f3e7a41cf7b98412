/-
  What firstCodes and Codes of package huffman return for any lengths. They write nothing that was there. Conditions: the slice can be read.
-/
import Derived.Test.YtalkeooejobjhaaDoorHufLeaf
import Derived.Deep.RegionWith
namespace Go.Proofs.YtalkeooejobjhaaDoor
open Go.RowKit
set_option linter.unusedVariables false
set_option linter.unusedSimpArgs false

/-- The first codes of the lengths below m. -/
def fcl (L : List Int) (m : Nat) : List Int := (List.range 16).map fun k => if k < m then fc L k else 0
theorem fcl_len (L : List Int) (m : Nat) : (fcl L m).length = 16 := by simp [fcl]
theorem fcl_at (L : List Int) (m : Nat) {k : Nat} (h : k < 16) : (fcl L m)[k]?.getD 0 = if k < m then fc L k else 0 := by simp [fcl, h]
theorem fcl_one (L : List Int) : fcl L 1 = zero16 := by
  refine list_ext16 (fcl_len _ _) zero16_len fun k hk => ?_
  rw [fcl_at L 1 hk]
  by_cases h : k < 1
  · rw [if_pos h, show k = 0 by omega]; rfl
  · rw [if_neg h]; unfold zero16; rw [List.getElem?_replicate]; simp [hk]
theorem fcl_step (L : List Int) (m : Nat) (hm : m < 16) : (fcl L m).set m (fc L m) = fcl L (m + 1) := by
  refine list_ext16 (by simp [fcl_len]) (fcl_len _ _) fun k hk => ?_
  rw [getD_set _ _ _ _ (by rw [fcl_len]; exact hm), fcl_at L m hk, fcl_at L _ hk]
  by_cases h : k = m
  · subst h; simp
  · rw [if_neg h]
    by_cases h2 : k < m
    · rw [if_pos h2, if_pos (by omega)]
    · rw [if_neg h2, if_neg (by omega)]

set_option maxHeartbeats 1000000 in
theorem firstCodes_any (L : List Int) (w : World) (hG : Good L) :
    Calls Tryd.prog 70 #[.agg (vs (cts L))] w fun e w' => e = .returned (.agg (vs (fcl L 16))) ∧ Below w.heap.size w w' := by
  have HG := hide hG
  clear hG
  go_enter Tryd.func70, Tryd.ntmps70
  go_wp2_with (first
    | (with_reducible show wpList Tryd.prog _ _ (Oper.mk _ (Op.box 111 _) _ _ _ none :: _) _ _; refine wpList_arrBox rfl (.tmp 0) rfl (cts L) rfl ?_; intro w1 a1 b1 s1)
    | (with_reducible show wpList Tryd.prog _ _ (Oper.mk _ (Op.alloc 111) _ _ _ none :: _) _ _; refine wpList_arrAlloc rfl rfl ?_; first | (intro w3 a3 b3 s3; have a2' := a2; clear a2) | (intro w2 a2 b2 s2; have a1' := a1; clear a1)))
  rw [s1] at a2'
  rw [s2, s1] at a3
  have A1 : Arr w3 w.heap.size (cts L) := (a1'.later b2).later b3
  have A2 : Arr w3 (w.heap.size + 1) zero16 := a2'.later b3
  have A3 : Arr w3 (w.heap.size + 2) (fcl L 1) := by rw [fcl_one]; exact a3
  have bb : Below w.heap.size w w3 := (b1.trans (b2.mono (by omega))).trans (b3.mono (by omega))
  have ss : w3.heap.size = w.heap.size + 3 := by omega
  clear a1' a2' a3 b1 b2 b3 s1 s2 s3
  clear w1 w2
  go_loopw [4] (fun i wr => ∃ m : Nat, 1 ≤ m ∧ m ≤ 16 ∧ i = .int .i64 m ∧ Arr wr w.heap.size (cts L) ∧ Arr wr (w.heap.size + 1) zero16 ∧ Arr wr (w.heap.size + 2) (fcl L m) ∧ Below w.heap.size w wr ∧ wr.heap.size = w.heap.size + 3) (fun i _ => 16 - (intOf i).toNat)
  case atStart => exact ⟨1, by omega, by omega, rfl, A1, A2, A3, bb, ss⟩
  case round =>
    clear A1 A2 A3 bb ss
    obtain ⟨m, hm1, hm, rfl, ha, hz, hf, hbel, hsz⟩ := hrel
    by_cases hlt : m < 16
    · obtain ⟨k, rfl⟩ : ∃ k, m = k + 1 := ⟨m - 1, by omega⟩
      have c1 := ha.cell (i := k) (by rw [cts_len]; omega)
      rw [cts_at L (by omega)] at c1
      have c2 := hf.cell (i := k) (by rw [fcl_len]; omega)
      rw [fcl_at L (k + 1) (by omega), if_pos (by omega)] at c2
      have c3 := hf.cell (i := k + 1) (by rw [fcl_len]; omega)
      have fr := hf.free (k + 1)
      have b1 := fc_nonneg L k
      have b2 := cz_nonneg L k
      have b3 := (unhide HG).small (show k ≤ 15 by omega)
      have hst := hide (fc_step L k)
      rw [Fl_eq] at b3
      have HA := hide ha
      have HZ := hide hz
      have HF := hide hf
      clear ha hz hf
      have hk16 : (k : Int) < 15 := by omega
      generalize hX : fc L k = X at *
      generalize hY : cz L k = Y at *
      have cb := hide (fun w => behind_any X Y w b1 (by omega) b2 (by omega))
      have e1 : wrap64 (k : Int) = (k : Int) := IntWalk.wrap64_in _ (by omega)
      have e2 : IntKind.i64.wrap (k : Int) = (k : Int) := by rw [IntWalk.i64_left]; exact e1
      have i1 : 0 ≤ (k : Int) ∧ (k : Int) < 16 := by omega
      have i2 : 0 ≤ (k : Int) + 1 ∧ (k : Int) + 1 < 16 := by omega
      clear hlt hm hm1
      go_wp2_with fail
      go_region_with (go_at_call 76; refine same_world (unhide cb _) ?_)
      all_goals go_wp2_with fail
      all_goals go_roundw
      all_goals first
        | (refine ⟨k + 1 + 1, by omega, by omega, by go_num, (unhide HA).other _ _ (by simp <;> omega), (unhide HZ).other _ _ (by simp), ?_, (hbel.setCell (by simp <;> omega) _).drew, by simpa using hsz⟩
           rw [← fcl_step L (k + 1) (by omega), unhide hst]
           exact (unhide HF).stored (k + 1) _)
        | (simp [intOf]; omega)
    · have hm16 : m = 16 := by omega
      have HF := hide (show Arr wr (w.heap.size + 2) (fcl L 16) by rw [← hm16]; exact hf)
      have HZ := hide hz
      clear hf hz ha
      go_wp2_with (first
        | (with_reducible show wpList Tryd.prog _ _ (Oper.mk _ (Op.load 111 _) _ _ _ none :: _) _ _; refine wpList_arrLoad rfl (.tmp 3) rfl (w.heap.size + 2) rfl (fcl L 16) (unhide HF) (fcl_len L 16) ?_)
        | (with_reducible show wpList Tryd.prog _ _ (Oper.mk _ (Op.store 111 _ _) _ _ _ none :: _) _ _; refine wpList_arrStore rfl (.tmp 2) (.tmp 20) rfl (w.heap.size + 1) (fcl L 16) zero16 rfl rfl (unhide HZ) (fcl_len L 16) zero16_len ?_; intro w5 a5 o5 s5 b5))
      refine bodyPost_ret (results_arr1 rfl _ _ (w.heap.size + 1) (fcl L 16) (fcl_len L 16) rfl a5) rfl ?_
      exact ⟨rfl, hbel.trans (b5.mono (by omega))⟩

/-- The next code of each length, behind m symbols. -/
def nxt (L : List Int) (m : Nat) : List Int := (List.range 16).map fun k => if k = 0 then 0 else fc L k + ((L.take m).count (k : Int) : Int)
theorem nxt_len (L : List Int) (m : Nat) : (nxt L m).length = 16 := by simp [nxt]
theorem nxt_at (L : List Int) (m : Nat) {k : Nat} (h : k < 16) (h0 : k ≠ 0) : (nxt L m)[k]?.getD 0 = fc L k + ((L.take m).count (k : Int) : Int) := by simp [nxt, h, h0]
theorem nxt_at' (L : List Int) (m : Nat) {k : Nat} (h : k < 16) : (nxt L m)[k]?.getD 0 = if k = 0 then 0 else fc L k + ((L.take m).count (k : Int) : Int) := by simp [nxt, h]
theorem nxt_zero (L : List Int) : fcl L 16 = nxt L 0 := by
  refine list_ext16 (fcl_len _ _) (nxt_len _ _) fun k hk => ?_
  rw [fcl_at L 16 hk, nxt_at' L 0 hk, if_pos hk]
  by_cases h : k = 0
  · subst h; rfl
  · simp [h]
theorem nxt_step (L : List Int) {m : Nat} (hm : m < L.length) (k : Nat) (hk : k < 16) (h0 : k ≠ 0) (hl : ln L m = (k : Int)) (v : Int) (hv : v = fc L k + ((L.take m).count (k : Int) : Int) + 1) : (nxt L m).set k v = nxt L (m + 1) := by
  refine list_ext16 (by simp [nxt_len]) (nxt_len _ _) fun j hj => ?_
  rw [getD_set _ _ _ _ (by rw [nxt_len]; exact hk), nxt_at' L m hj, nxt_at' L (m + 1) hj, count_take_succ L hm, hl]
  by_cases h : j = k
  · subst h; simp [hv, h0]; omega
  · rw [if_neg h, if_neg (show ¬ (k : Int) = (j : Int) by omega)]
    simp
theorem nxt_skip (L : List Int) {m : Nat} (hm : m < L.length) (hl : ln L m = 0) : nxt L (m + 1) = nxt L m := by
  refine list_ext16 (nxt_len _ _) (nxt_len _ _) fun j hj => ?_
  rw [nxt_at' L m hj, nxt_at' L (m + 1) hj, count_take_succ L hm, hl]
  by_cases h : j = 0
  · simp [h]
  · rw [if_neg h, if_neg h, if_neg (show ¬ (0 : Int) = (j : Int) by omega)]
    simp

/-- The codes of all symbols. -/
def cds (L : List Int) : List Int := (List.range L.length).map (code L)
def cdu (L : List Int) (m : Nat) : List Int := (List.range L.length).map fun i => if i < m then code L i else 0
theorem cdu_zero (L : List Int) : cdu L 0 = List.replicate L.length 0 := by
  apply List.ext_getElem (by simp [cdu])
  intro i h1 h2
  simp [cdu]
theorem cdu_end (L : List Int) : cdu L L.length = cds L := by
  apply List.ext_getElem (by simp [cdu, cds])
  intro i h1 h2
  have hi : i < L.length := by simpa [cds] using h2
  simp [cdu, cds, hi]
theorem cdu_step (L : List Int) {m : Nat} (hm : m < L.length) : (cdu L m).set m (code L m) = cdu L (m + 1) := by
  apply List.ext_getElem (by simp [cdu])
  intro i h1 h2
  simp [cdu] at h2
  rw [List.getElem_set]
  by_cases h : m = i
  · subst h; simp [cdu]
  · rw [if_neg h]
    simp only [cdu, List.getElem_map, List.getElem_range]
    by_cases h3 : i < m
    · rw [if_pos h3, if_pos (by omega)]
    · rw [if_neg h3, if_neg (by omega)]
theorem cds_len (L : List Int) : (cds L).length = L.length := by simp [cds]
theorem cds_at (L : List Int) {i : Nat} (h : i < L.length) : (cds L)[i]?.getD 0 = code L i := by simp [cds, h]
theorem code_bd {L : List Int} (hG : Good L) {i : Nat} (hi : i < L.length) : -1 ≤ code L i ∧ code L i < 32768 := by
  have hf := hG.fit _ (ln_mem hi)
  by_cases h0 : ln L i = 0
  · unfold code; rw [if_pos h0]; omega
  · obtain ⟨k, hk⟩ : ∃ k : Nat, ln L i = (k : Int) := ⟨(ln L i).toNat, by omega⟩
    have h1 := code_lt L hi k hk (by omega)
    have h2 := fc_nonneg L k
    have h3 := hG.small (k := k) (by omega)
    omega

/-- What Codes answers. -/
def cdd (L : List Int) : List Int := if cer L = 0 then cds L else []

set_option maxHeartbeats 2000000 in
theorem codes_any (ao : Option Addr) (n c : Nat) (L : List Int) (w : World) (h : Is w ao n c L) :
    Calls Tryd.prog 56 #[.slice ao n c] w fun e w' => (∃ ao1 n1 c1, e = .returned (.tuple #[.slice ao1 n1 c1, .int .i64 (cer L)]) ∧ IMine w.heap.size w' ao1 n1 c1 (cdd L)) ∧ Below w.heap.size w w' := by
  have hlen := hide h.len
  have hmax := h.max
  have hle := h.le
  have H := hide h
  clear h
  go_enter Tryd.func56, Tryd.ntmps56
  go_wp2_with fail
  refine (counted_any _ _ _ _ _ (unhide H)).mono ?_
  rintro e w1 ⟨rfl, b1⟩
  have z1 := b1.size
  by_cases he : cer L = 0
  · have hc := hide (show ctd L = cts L by unfold ctd; rw [he]; rfl)
    have hg := hide (good_of he)
    have hn : n ≤ 320 := by have := (unhide hg).len; rw [unhide hlen] at this; exact this
    rw [unhide hc]
    go_wp2_with (first
      | (with_reducible show wpList Tryd.prog _ _ (Oper.mk _ (Op.store 111 _ _) _ _ _ none :: _) _ _; refine wpList_arrStore rfl (.tmp 4) (.tmp 13) rfl w1.heap.size (cts L) zero16 rfl rfl a2 (cts_len L) zero16_len ?_; intro w3 a3 o3 s3 b3)
      | (with_reducible show wpList Tryd.prog _ _ (Oper.mk _ (Op.alloc 111) _ _ _ none :: _) _ _; refine wpList_arrAlloc rfl rfl ?_; intro w2 a2 b2 s2)
      | (with_reducible show wpList Tryd.prog _ _ (Oper.mk _ (Op.load 111 _) _ _ _ none :: _) _ _; refine wpList_arrLoad rfl (.tmp 4) rfl w1.heap.size rfl (cts L) a3 (cts_len L) ?_))
    refine (firstCodes_any L _ (unhide hg)).mono ?_
    rintro e w4 ⟨rfl, b4⟩
    have z4 := b4.size
    have bb4 : Below w.heap.size w w4 := ((b1.trans (b2.mono z1)).trans (b3.mono z1)).trans (b4.mono (by omega))
    have zz4 := bb4.size
    clear a2 a3 o3 b2 b3 b4 s2 s3 z4 b1 z1
    go_wp2_with (first
      | (with_reducible show wpList Tryd.prog _ _ (Oper.mk _ (Op.store 111 _ _) _ _ _ none :: _) _ _; refine wpList_arrStore rfl (.tmp 6) (.tmp 19) rfl w4.heap.size (fcl L 16) zero16 rfl rfl a5 (fcl_len L 16) zero16_len ?_; intro w6 a6 o6 s6 b6)
      | (with_reducible show wpList Tryd.prog _ _ (Oper.mk _ (Op.alloc 111) _ _ _ none :: _) _ _; refine wpList_arrAlloc rfl rfl ?_; intro w5 a5 b5 s5)
      | (at_make; refine wpList_imkFull rfl _ _ rfl _ _ _ _ n rfl rfl rfl rfl (by omega) ?_; intro w7 m7 b7 z7))
    have bb7 : Below w.heap.size w w7 := ((bb4.trans (b5.mono zz4)).trans (b6.mono zz4)).trans (b7.mono (by omega))
    have a7 : Arr w7 w4.heap.size (nxt L 0) := by rw [← nxt_zero]; exact a6.later b7
    have hN : w4.heap.size < w6.heap.size := by omega
    have m7' : IMine w6.heap.size w7 (some ⟨w6.heap.size, 0, none⟩) n n (cdu L 0) := by rw [cdu_zero, unhide hlen]; exact m7
    have e6 : w6.heap.size = w4.heap.size + 1 := by omega
    rw [e6] at m7' hN z7
    clear a5 a6 o6 b5 b6 b7 m7 s5 s6 e6
    go_loopw [25] (fun i wr => ∃ m : Nat, m ≤ n ∧ i = .int .i64 m ∧ Arr wr w4.heap.size (nxt L m) ∧ IMine (w4.heap.size + 1) wr (some ⟨w4.heap.size + 1, 0, none⟩) n n (cdu L m) ∧ Below w.heap.size w wr) (fun i _ => n - (intOf i).toNat)
    case atStart => exact ⟨0, by omega, rfl, a7, m7', bb7⟩
    case round =>
      clear a7 m7' bb7
      obtain ⟨m, hm, rfl, ha, hm2, hbel⟩ := hrel
      by_cases hlt : m < n
      · obtain ⟨b, o, hix, hcx⟩ := ((unhide H).later hbel).idx hlt (m : Int) rfl
        have hmL := hide (show m < L.length by rw [unhide hlen]; exact hlt)
        obtain ⟨x, hx⟩ : ∃ x, x = ln L m := ⟨_, rfl⟩
        have hx2 := hide (show x = L[m]?.getD 0 from hx)
        have hxf := (unhide hg).fit _ (ln_mem (unhide hmL))
        rw [← hx] at hxf
        have HX := hide hx
        clear hx
        rw [← unhide hx2] at hcx
        obtain ⟨k, hk⟩ : ∃ k : Nat, x = (k : Int) := ⟨x.toNat, by omega⟩
        have hk16 : k < 16 := by omega
        subst hk
        have cf := hm2.free m
        have HM := hide hm2
        have HA := hide ha
        have hcl := hm2.is
        have hcc : wr.cell? ⟨w4.heap.size + 1, m, none⟩ = some (.int .i64 ((cdu L m)[m]?.getD 0)) := by
          rcases hcl.at' with q | ⟨b', o', e', c'⟩
          · omega
          · simp only [Option.some.injEq, Addr.mk.injEq, and_true] at e'
            obtain ⟨rfl, rfl⟩ := e'
            have := c' m hlt
            rwa [Nat.zero_add] at this
        have fa := ha.free k
        by_cases h0 : k = 0
        · subst h0
          have hcode := hide (show code L m = -1 by unfold code; rw [← unhide HX]; rfl)
          clear ha hm2 hcl
          go_wp2_with fail
          go_roundw
          case rel =>
            refine ⟨m + 1, by omega, by go_num, ?_, ?_, hbel.setCell (by simp <;> omega) _⟩
            · rw [nxt_skip L (unhide hmL) (unhide HX).symm]
              exact (unhide HA).other _ _ (by simp <;> omega)
            · rw [← cdu_step L (unhide hmL), unhide hcode]
              exact (unhide HM).stored m (-1) (by omega) (by omega)
          case measure => simp [intOf]; omega
        · have cn := ha.cell (i := k) (by rw [nxt_len]; exact hk16)
          rw [nxt_at L m hk16 h0] at cn
          have hcode := hide (show code L m = fc L k + ((L.take m).count (k : Int) : Int) by
            rw [code_eq L m k (unhide HX).symm h0]
            unfold rk
            rw [← unhide HX])
          have hstep := hide (nxt_step L (unhide hmL) k hk16 h0 (unhide HX).symm _ rfl)
          have f1 := fc_nonneg L k
          have f2 := (unhide hg).small (show k ≤ 15 by omega)
          rw [Fl_eq] at f2
          have f3 := cz_nonneg L k
          have f4 : (L.take m).count (k : Int) ≤ 320 := Nat.le_trans List.count_le_length (by simp <;> omega)
          generalize hV : fc L k + ((L.take m).count (k : Int) : Int) = V at cn hcode hstep
          have v0 : 0 ≤ V := by omega
          have v1 : V ≤ 40000 := by omega
          clear hV f1 f2 f3 f4 ha hm2 hcl
          have k0 : 0 < (k : Int) := by omega
          go_wp2_with fail
          go_roundw
          case rel =>
            refine ⟨m + 1, by omega, by go_num, ?_, ?_, (hbel.setCell (by simp <;> omega) _).setCell (by simp <;> omega) _⟩
            · rw [← unhide hstep]
              exact ((unhide HA).other _ _ (by simp <;> omega)).stored k _
            · rw [← cdu_step L (unhide hmL), unhide hcode]
              exact ((unhide HM).stored m V (by omega) (by omega)).below (by simp <;> omega) _
          case measure => simp [intOf]; omega
      · have hmn := hide (show m = L.length by rw [unhide hlen]; omega)
        have HM := hide (hm2.mono (show w.heap.size ≤ w4.heap.size + 1 by omega))
        clear hm2 ha
        have hE := hide he
        clear he
        go_wp2_with fail
        go_ret2
        refine ⟨⟨_, _, _, by rw [unhide hE]; rfl, ?_⟩, hbel⟩
        have := unhide HM
        rw [unhide hmn, cdu_end] at this
        unfold cdd
        rw [unhide hE]
        exact this
  · have he' : (cer L != 0) = true := by simpa using he
    have hE := hide he
    clear he
    go_wp2_with (first
      | (with_reducible show wpList Tryd.prog _ _ (Oper.mk _ (Op.store 111 _ _) _ _ _ none :: _) _ _; refine wpList_arrStore rfl (.tmp 4) (.tmp 13) rfl w1.heap.size (ctd L) zero16 rfl rfl a2 (ctd_len L) zero16_len ?_; intro w3 a3 o3 s3 b3)
      | (with_reducible show wpList Tryd.prog _ _ (Oper.mk _ (Op.alloc 111) _ _ _ none :: _) _ _; refine wpList_arrAlloc rfl rfl ?_; intro w2 a2 b2 s2))
    go_ret2
    exact ⟨⟨none, 0, 0, rfl, by unfold cdd; rw [if_neg (unhide hE)]; exact IMine.nought _ _⟩, (b1.trans (b2.mono z1)).trans (b3.mono z1)⟩

end Go.Proofs.YtalkeooejobjhaaDoor
