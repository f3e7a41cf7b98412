/-
  What decoderOf, bitsFrom, the closure that it answers, and the decoder's method read, of package huffman, return. Conditions: the slices can be read, the lengths are a code.
-/
import Derived.Test.YtalkeooejobjhaaDoorHufCodes
import Derived.Test.YtalkeooejobjhaaDoorMPlain
import Derived.BigQuiet
namespace Go.Proofs.YtalkeooejobjhaaDoor
open Go.RowKit
set_option linter.unusedVariables false
set_option linter.unusedSimpArgs false

/-- Block g is a decoder that holds these numbers. -/
def Dcr (w : World) (g : Nat) (l : List Int) : Prop := w.heap[g]? = some (.cells (vs l) 125 (0, 0))

theorem Dcr.lt {w : World} {g : Nat} {l : List Int} (h : Dcr w g l) : g < w.heap.size := (Array.getElem?_eq_some_iff.1 h).1
theorem Dcr.later {w w' : World} {g : Nat} {l : List Int} (h : Dcr w g l) (hb : Below w.heap.size w w') : Dcr w' g l := by
  unfold Dcr
  rw [hb.block g h.lt]
  exact h
theorem Dcr.cell {w : World} {g : Nat} {l : List Int} (h : Dcr w g l) {i : Nat} (hi : i < l.length) : w.cell? ⟨g, i, none⟩ = some (.int .i64 (l[i]?.getD 0)) := by
  rw [cell_of_row w g i _ _ _ h, vs_at l hi]
theorem Dcr.free {w : World} {g : Nat} {l : List Int} (h : Dcr w g l) (i : Nat) : w.frozen? ⟨g, i, none⟩ = false := frozen_of_row w g i _ _ h
theorem Dcr.stored {w : World} {g : Nat} {l : List Int} (h : Dcr w g l) (i : Nat) (v : Int) : Dcr (w.setCell ⟨g, i, none⟩ (.int .i64 v)) g (l.set i v) := by
  unfold Dcr
  rw [heap_setCell_same w g i _ _ _ h, vs_set]
theorem Dcr.other {w : World} {g : Nat} {l : List Int} (h : Dcr w g l) (a : Addr) (v : Value) (hne : g ≠ a.block) : Dcr (w.setCell a v) g l := by
  unfold Dcr
  rw [heap_setCell_other w a g v hne]
  exact h

/-- What a decoder holds. -/
def dcl (L o : List Int) (lg : Int) : List Int := cts L ++ (o ++ [lg])
theorem dcl_len (L o : List Int) (lg : Int) (h : o.length = 320) : (dcl L o lg).length = 337 := by simp [dcl, cts_len, h]
theorem dcl_cts (L o : List Int) (lg : Int) {k : Nat} (hk : k < 16) : (dcl L o lg)[k]?.getD 0 = cz L k := by
  unfold dcl
  rw [List.getElem?_append_left (by rw [cts_len]; exact hk), cts_at L hk]
theorem dcl_ord (L o : List Int) (lg : Int) (h : o.length = 320) {p : Nat} (hp : p < 320) : (dcl L o lg)[16 + p]?.getD 0 = o[p]?.getD 0 := by
  unfold dcl
  rw [List.getElem?_append_right (by rw [cts_len]; omega), cts_len, List.getElem?_append_left (by omega), show 16 + p - 16 = p by omega]
theorem dcl_lng (L o : List Int) (lg : Int) (h : o.length = 320) : (dcl L o lg)[336]?.getD 0 = lg := by
  unfold dcl
  rw [List.getElem?_append_right (by rw [cts_len]; omega), cts_len, List.getElem?_append_right (by omega), h]
  rfl
theorem dcl_setO (L o : List Int) (lg : Int) (h : o.length = 320) {p : Nat} (hp : p < 320) (v : Int) : (dcl L o lg).set (16 + p) v = dcl L (o.set p v) lg := by
  unfold dcl
  rw [List.set_append_right _ _ (by rw [cts_len]; omega), cts_len, List.set_append_left _ _ (by omega), show 16 + p - 16 = p by omega]
theorem dcl_setL (L o : List Int) (lg : Int) (h : o.length = 320) (v : Int) : (dcl L o lg).set 336 v = dcl L o v := by
  unfold dcl
  rw [List.set_append_right _ _ (by rw [cts_len]; omega), cts_len, List.set_append_right _ _ (by omega), h]
  rfl

theorem built16 (a0 a1 a2 a3 a4 a5 a6 a7 a8 a9 a10 a11 a12 a13 a14 a15 : Int) :
    Tryd.prog.built 125 [(0, .agg (vs [a0, a1, a2, a3, a4, a5, a6, a7, a8, a9, a10, a11, a12, a13, a14, a15]))] = some (vs ([a0, a1, a2, a3, a4, a5, a6, a7, a8, a9, a10, a11, a12, a13, a14, a15] ++ List.replicate 321 0)) := by
  kernel_rfl
theorem list16 {l : List Int} (h : l.length = 16) : ∃ a0 a1 a2 a3 a4 a5 a6 a7 a8 a9 a10 a11 a12 a13 a14 a15, l = [a0, a1, a2, a3, a4, a5, a6, a7, a8, a9, a10, a11, a12, a13, a14, a15] := by
  match l, h with
  | [a0, a1, a2, a3, a4, a5, a6, a7, a8, a9, a10, a11, a12, a13, a14, a15], _ => exact ⟨a0, a1, a2, a3, a4, a5, a6, a7, a8, a9, a10, a11, a12, a13, a14, a15, rfl⟩
theorem built_dec (l : List Int) (h : l.length = 16) : Tryd.prog.built 125 [(0, .agg (vs l))] = some (vs (l ++ List.replicate 321 0)) := by
  obtain ⟨a0, a1, a2, a3, a4, a5, a6, a7, a8, a9, a10, a11, a12, a13, a14, a15, rfl⟩ := list16 h
  exact built16 a0 a1 a2 a3 a4 a5 a6 a7 a8 a9 a10 a11 a12 a13 a14 a15

def zeros320 : List Int := List.replicate 320 0
theorem zeros320_len : zeros320.length = 320 := List.length_replicate
theorem dcl_new (L : List Int) : cts L ++ List.replicate 321 0 = dcl L zeros320 0 := by
  unfold dcl zeros320
  rw [show (List.replicate 321 (0 : Int)) = List.replicate 320 0 ++ [0] from List.replicate_succ' ..]

theorem wpList_decBuild {ops : Array Oper} {rest : List Oper} {o : Oper} {a : Act} {w : World} {Q : Exit → Act → World → Prop} (hgd : o.guard = none) (x : Operand) (ho : o.op = .build 125 #[(0, x)])
    (L : List Int) (hx : a.eval x = .agg (vs (cts L)))
    (h : wpList Tryd.prog ops Q rest (a.put o.dst (.agg (vs (dcl L zeros320 0)))) w) : wpList Tryd.prog ops Q (o :: rest) a w := by
  have hb : Tryd.prog.built 125 (#[(0, x)].map fun (i, x) => (i, a.eval x)).toList = some (vs (dcl L zeros320 0)) := by
    simp only [List.map_toArray, List.map_cons, List.map_nil, hx]
    rw [← dcl_new]
    exact built_dec (cts L) (cts_len L)
  refine wpList_build hgd _ _ ho (by rw [hb]; rfl) ?_
  rw [hb]
  exact h
theorem wpList_decBox {ops : Array Oper} {rest : List Oper} {o : Oper} {a : Act} {w : World} {Q : Exit → Act → World → Prop} (hgd : o.guard = none) (x : Operand) (ho : o.op = .box 125 x)
    (l : List Int) (hx : a.eval x = .agg (vs l))
    (h : ∀ w1, Dcr w1 w.heap.size l → Below w.heap.size w w1 → w1.heap.size = w.heap.size + 1 → wpList Tryd.prog ops Q rest (a.put o.dst (.pointer (some ⟨w.heap.size, 0, none⟩))) w1) : wpList Tryd.prog ops Q (o :: rest) a w := by
  refine wpList_plain hgd fun K hK' => ?_
  unfold Oper.wp
  simp [execOp, ho, Instr.box, hx, Result.andThen]
  exact hK' _ _ (h _ (heap_alloc_new w _) (below_alloc w _) (by simp))

/-- The places of the lengths below m. -/
def plu (L : List Int) (m : Nat) : List Int := (List.range 16).map fun k => if k < m then pl L k else 0
theorem plu_len (L : List Int) (m : Nat) : (plu L m).length = 16 := by simp [plu]
theorem plu_at (L : List Int) (m : Nat) {k : Nat} (h : k < 16) : (plu L m)[k]?.getD 0 = if k < m then pl L k else 0 := by simp [plu, h]
theorem plu_zero (L : List Int) : plu L 0 = zero16 := by
  refine list_ext16 (plu_len _ _) zero16_len fun k hk => ?_
  rw [plu_at L 0 hk]
  unfold zero16; rw [List.getElem?_replicate]; simp [hk]
theorem plu_step (L : List Int) (m : Nat) (hm : m < 16) : (plu L m).set m (pl L m) = plu L (m + 1) := by
  refine list_ext16 (by simp [plu_len]) (plu_len _ _) fun k hk => ?_
  rw [getD_set _ _ _ _ (by rw [plu_len]; exact hm), plu_at L m hk, plu_at L _ hk]
  by_cases h : k = m
  · subst h; simp
  · rw [if_neg h]
    by_cases h2 : k < m
    · rw [if_pos h2, if_pos (by omega)]
    · rw [if_neg h2, if_neg (by omega)]
/-- The places of each length's next symbol, behind m symbols. -/
def plm (L : List Int) (m : Nat) : List Int := (List.range 16).map fun k => if k = 0 then 0 else pl L k + ((L.take m).count (k : Int) : Int)
theorem plm_len (L : List Int) (m : Nat) : (plm L m).length = 16 := by simp [plm]
theorem plm_at (L : List Int) (m : Nat) {k : Nat} (h : k < 16) : (plm L m)[k]?.getD 0 = if k = 0 then 0 else pl L k + ((L.take m).count (k : Int) : Int) := by simp [plm, h]
theorem plm_zero (L : List Int) : plu L 16 = plm L 0 := by
  refine list_ext16 (plu_len _ _) (plm_len _ _) fun k hk => ?_
  rw [plu_at L 16 hk, plm_at L 0 hk, if_pos hk]
  by_cases h : k = 0
  · subst h; rfl
  · simp [h]
theorem plm_step (L : List Int) {m : Nat} (hm : m < L.length) (k : Nat) (hk : k < 16) (h0 : k ≠ 0) (hl : ln L m = (k : Int)) (v : Int) (hv : v = pl L k + ((L.take m).count (k : Int) : Int) + 1) : (plm L m).set k v = plm L (m + 1) := by
  refine list_ext16 (by simp [plm_len]) (plm_len _ _) fun j hj => ?_
  rw [getD_set _ _ _ _ (by rw [plm_len]; exact hk), plm_at L m hj, plm_at L (m + 1) hj, count_take_succ L hm, hl]
  by_cases h : j = k
  · subst h; simp [hv, h0]; omega
  · rw [if_neg h, if_neg (show ¬ (k : Int) = (j : Int) by omega)]
    simp
theorem plm_skip (L : List Int) {m : Nat} (hm : m < L.length) (hl : ln L m = 0) : plm L (m + 1) = plm L m := by
  refine list_ext16 (plm_len _ _) (plm_len _ _) fun j hj => ?_
  rw [plm_at L m hj, plm_at L (m + 1) hj, count_take_succ L hm, hl]
  by_cases h : j = 0
  · simp [h]
  · rw [if_neg h, if_neg h, if_neg (show ¬ (0 : Int) = (j : Int) by omega)]
    simp

set_option maxHeartbeats 2000000 in
theorem decoderOf_any (ao : Option Addr) (n c : Nat) (L : List Int) (w : World) (h : Is w ao n c L) (hG : Good L) :
    Calls Tryd.prog 71 #[.slice ao n c, .agg (vs (cts L))] w fun e w' => ∃ g o, e = .returned (.pointer (some ⟨g, 0, none⟩)) ∧ w.heap.size ≤ g ∧ Dcr w' g (dcl L o (lng L 16 : Nat)) ∧ Ord L o L.length ∧ Below w.heap.size w w' := by
  have hlen := hide h.len
  have hmax := h.max
  have hle := h.le
  have hn : n ≤ 320 := by have := hG.len; rw [unhide hlen] at this; exact this
  have H := hide h
  have HG := hide hG
  clear h hG
  go_enter Tryd.func71, Tryd.ntmps71
  go_wp2_with (first
    | (with_reducible show wpList Tryd.prog _ _ (Oper.mk _ (Op.box 111 _) _ _ _ none :: _) _ _; refine wpList_arrBox rfl (.tmp 1) rfl (cts L) rfl ?_; intro w1 a1 b1 s1)
    | (with_reducible show wpList Tryd.prog _ _ (Oper.mk _ (Op.load 111 _) _ _ _ none :: _) _ _; refine wpList_arrLoad rfl (.tmp 3) rfl w.heap.size rfl (cts L) a1 (cts_len L) ?_)
    | (with_reducible show wpList Tryd.prog _ _ (Oper.mk _ (Op.build 125 _) _ _ _ none :: _) _ _; refine wpList_decBuild rfl (.tmp 12) rfl L rfl ?_)
    | (with_reducible show wpList Tryd.prog _ _ (Oper.mk _ (Op.box 125 _) _ _ _ none :: _) _ _; refine wpList_decBox rfl (.tmp 13) rfl _ rfl ?_; intro w2 d2 b2 s2; have a1' := a1; replace a1 := a1'.later b2)
    | (with_reducible show wpList Tryd.prog _ _ (Oper.mk _ (Op.alloc 111) _ _ _ none :: _) _ _; refine wpList_arrAlloc rfl rfl ?_; intro w3 a3 b3 s3; have a1'' := a1; replace a1 := a1''.later b3))
  rw [s1] at d2
  rw [s2, s1] at a3
  have D3 : Dcr w3 (w.heap.size + 1) (dcl L zeros320 (lng L 0 : Nat)) := d2.later b3
  have A3 : Arr w3 (w.heap.size + 1 + 1) (plu L 0) := by rw [plu_zero]; exact a3
  have bb : Below w.heap.size w w3 := (b1.trans (b2.mono (by omega))).trans (b3.mono (by omega))
  have ss : w3.heap.size = w.heap.size + 3 := by omega
  clear a1 a1' a1'' a3 d2 b1 b2 b3 s1 s2 s3
  clear w1 w2
  go_loopw [7, 16] (fun p i wr => ∃ m : Nat, m ≤ 16 ∧ i = .int .i64 m ∧ p = .int .i64 (pl L m) ∧ Arr wr (w.heap.size + 1 + 1) (plu L m) ∧ Dcr wr (w.heap.size + 1) (dcl L zeros320 (lng L m : Nat)) ∧ Below w.heap.size w wr) (fun _ i _ => 16 - (intOf i).toNat)
  case atStart => exact ⟨0, by omega, rfl, rfl, A3, D3, bb⟩
  case round =>
    clear A3 D3 bb ss
    obtain ⟨m, hm, rfl, rfl, ha, hd, hbel⟩ := hrel
    have p0 := pl_top (unhide HG) hm
    by_cases hlt : m < 16
    · have ix := run_arrAt (cts L) (cts_len L) m hlt
      rw [cts_at L hlt] at ix
      have p1 := pl_top (unhide HG) (show m + 1 ≤ 16 by omega)
      have hst := hide (show pl L (m + 1) = pl L m + cz L m from rfl)
      have c0 := cz_nonneg L m
      have c1 := cz_le L m
      have c2 := hide (unhide HG).len
      have c3 : cz L m ≤ 320 := by have := unhide c2; omega
      have hset := hide (plu_step L m hlt)
      have cc := ha.cell (i := m) (by rw [plu_len]; exact hlt)
      have fr := ha.free m
      have dc := hd.cell (i := 336) (by rw [dcl_len _ _ _ zeros320_len]; omega)
      have df := hd.free 336
      have HA := hide ha
      have HD := hide hd
      clear ha hd c1 p1
      have hlg := hide (show lng L (m + 1) = if 0 < cz L m then m else lng L m from rfl)
      generalize pl L m = X at *
      generalize cz L m = Y at *
      by_cases hY : 0 < Y
      · go_wp2_with fail
        go_roundw
        case rel =>
          refine ⟨m + 1, by omega, by go_num, by rw [unhide hst], ?_, ?_, (hbel.setCell (by simp <;> omega) _).setCell (by simp <;> omega) _⟩
          · rw [← unhide hset]
            exact ((unhide HA).stored m _).other _ _ (by simp <;> omega)
          · rw [unhide hlg, if_pos hY, ← dcl_setL L zeros320 (lng L m : Nat) zeros320_len]
            exact ((unhide HD).other _ _ (by simp <;> omega)).stored 336 _
        case measure => simp [intOf]; omega
      · go_wp2_with fail
        go_roundw
        case rel =>
          refine ⟨m + 1, by omega, by go_num, by rw [unhide hst], ?_, ?_, hbel.setCell (by simp <;> omega) _⟩
          · rw [← unhide hset]
            exact (unhide HA).stored m _
          · rw [unhide hlg, if_neg hY]
            exact (unhide HD).other _ _ (by simp <;> omega)
        case measure => simp [intOf]; omega
    · have hm16 := hide (show m = 16 by omega)
      have HA := hide (show Arr wr (w.heap.size + 1 + 1) (plm L 0) by rw [← plm_zero, ← unhide hm16]; exact ha)
      have HD := hide (show Dcr wr (w.heap.size + 1) (dcl L zeros320 (lng L 16 : Nat)) by rw [← unhide hm16]; exact hd)
      clear ha hd
      generalize pl L m = X at *
      go_wp2_with fail
      go_loopw [35] (fun i ws => ∃ (j : Nat) (o : List Int), j ≤ n ∧ i = .int .i64 j ∧ Ord L o j ∧ Arr ws (w.heap.size + 1 + 1) (plm L j) ∧ Dcr ws (w.heap.size + 1) (dcl L o (lng L 16 : Nat)) ∧ Below w.heap.size w ws) (fun i _ => n - (intOf i).toNat)
      case atStart => exact ⟨0, zeros320, by omega, rfl, ⟨zeros320_len, fun j hj => by omega⟩, unhide HA, unhide HD, hbel⟩
      case round =>
        clear hbel
        obtain ⟨j, o, hj, rfl, hO, ha, hd, hbel⟩ := hrel
        by_cases hlt : j < n
        · obtain ⟨b, of, hix, hcx⟩ := ((unhide H).later hbel).idx hlt (j : Int) rfl
          have hjL := hide (show j < L.length by rw [unhide hlen]; exact hlt)
          obtain ⟨x, hx⟩ : ∃ x, x = ln L j := ⟨_, rfl⟩
          have hx2 := hide (show x = L[j]?.getD 0 from hx)
          have hxf := (unhide HG).fit _ (ln_mem (unhide hjL))
          rw [← hx] at hxf
          have HX := hide hx
          clear hx
          rw [← unhide hx2] at hcx
          obtain ⟨k, hk⟩ : ∃ k : Nat, x = (k : Int) := ⟨x.toNat, by omega⟩
          have hk16 : k < 16 := by omega
          subst hk
          have HO := hide hO
          have HA2 := hide ha
          have HD2 := hide hd
          by_cases h0 : k = 0
          · subst h0
            clear ha hd hO
            go_wp2_with fail
            go_roundw
            case rel =>
              refine ⟨j + 1, o, by omega, by go_num, (unhide HO).skip (unhide HX).symm, ?_, unhide HD2, hbel⟩
              rw [plm_skip L (unhide hjL) (unhide HX).symm]
              exact unhide HA2
            case measure => simp [intOf]; omega
          · have cc := ha.cell (i := k) (by rw [plm_len]; exact hk16)
            rw [plm_at L j hk16, if_neg h0] at cc
            have fa := ha.free k
            have hpos : pos L j = pl L k + ((L.take j).count (k : Int) : Int) := by
              unfold pos rk
              rw [← unhide HX]
              simp
            have hpb := (unhide HG).pos (unhide hjL) (by rw [← unhide HX]; omega)
            have hst := hide (plm_step L (unhide hjL) k hk16 h0 (unhide HX).symm _ rfl)
            rw [← hpos] at cc
            have hst2 := hide (show (plm L j).set k (pos L j + 1) = plm L (j + 1) by rw [hpos]; exact unhide hst)
            obtain ⟨P, hP⟩ : ∃ P : Nat, pos L j = (P : Int) := ⟨(pos L j).toNat, by omega⟩
            have hOs := hide ((unhide HO).step (unhide HG) (unhide hjL) (by rw [← unhide HX]; omega))
            rw [hP] at cc hpb
            have hP2 := hide (show (plm L j).set k ((P : Int) + 1) = plm L (j + 1) by rw [← hP]; exact unhide hst2)
            have hOs2 := hide (show Ord L (o.set P (j : Int)) (j + 1) by have := unhide hOs; rw [hP] at this; simpa using this)
            have hP3 : P < 320 := by omega
            have dc := hd.cell (i := 16 + P) (by rw [dcl_len _ _ _ (unhide HO).len]; omega)
            have df := hd.free (16 + P)
            have k0 : 0 < (k : Int) := by omega
            have i1 : 0 ≤ (k : Int) ∧ (k : Int) < 16 := by omega
            have i2 : 0 ≤ (P : Int) ∧ (P : Int) < 320 := by omega
            clear ha hd hO hpos hst hst2 hP hOs hpb
            go_wp2_with fail
            go_region
            all_goals go_wp2_with fail
            all_goals go_roundw
            all_goals first
              | (refine ⟨j + 1, o.set P (j : Int), by omega, by go_num, unhide hOs2, ?_, ?_, (((hbel.setCell (by simp <;> omega) _).drew).setCell (by simp <;> omega) _)⟩
                 · rw [← unhide hP2]
                   exact Arr.stored (w := (wr.setCell _ _).drew) ((unhide HA2).other _ _ (by simp <;> omega)) k _
                 · rw [← dcl_setO L o _ (unhide HO).len hP3]
                   exact Dcr.other (w := (wr.setCell _ _).drew) ((unhide HD2).stored (16 + P) _) _ _ (by simp <;> omega))
              | (refine ⟨j + 1, o.set P (j : Int), by omega, by go_num, unhide hOs2, ?_, ?_, (((hbel.setCell (by simp <;> omega) _).setCell (by simp <;> omega) _).drew)⟩
                 · rw [← unhide hP2]
                   exact Arr.stored ((unhide HA2).other _ _ (by simp <;> omega)) k _
                 · rw [← dcl_setO L o _ (unhide HO).len hP3]
                   exact Dcr.other ((unhide HD2).stored (16 + P) _) _ _ (by simp <;> omega))
              | (simp [intOf]; omega)
        · have hjn := hide (show j = L.length by rw [unhide hlen]; omega)
          have HO := hide hO
          have HD2 := hide hd
          clear ha hd hO
          go_wp2_with fail
          go_ret
          exact ⟨w.heap.size + 1, o, rfl, by omega, unhide HD2, by rw [← unhide hjn]; exact unhide HO, hbel⟩

end Go.Proofs.YtalkeooejobjhaaDoor
