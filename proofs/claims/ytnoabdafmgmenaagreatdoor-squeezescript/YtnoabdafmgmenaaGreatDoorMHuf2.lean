/-
  What decoderOf, bitsFrom, the closure that it answers, and the decoder's method read, of package huffman, return. Conditions: the slices can be read, the lengths are a code.
  What bitsFrom, the closure that it answers, and the decoder's method read, of package huffman, return. Conditions: the slices can be read, the lengths are a code, at most a million bytes.
  What Read of package huffman returns for any lengths, bytes and place. It writes nothing that was there. Conditions: the slices can be read, at most a million bytes.
-/
import Derived.Test.YtnoabdafmgmenaaGreatDoorMHuf
import Derived.Test.YtnoabdafmgmenaaGreatDoorMPlain
import Derived.BigQuiet
import Derived.Test.YtnoabdafmgmenaaGreatDoorMMem
namespace Go.Proofs.YtnoabdafmgmenaaGreatDoor
open Go.RowKit
set_option linter.unusedVariables false
set_option linter.unusedSimpArgs false

/-- Block g is a decoder that holds these numbers. -/
def Dcr (w : World) (g : Nat) (l : List Int) : Prop := w.heap[g]? = some (.cells (vs l) 178 (0, 0))

theorem Dcr.lt {w : World} {g : Nat} {l : List Int} (h : Dcr w g l) : g < w.heap.size := (Array.getElem?_eq_some_iff.1 h).1
theorem Dcr.later {w w' : World} {g : Nat} {l : List Int} (h : Dcr w g l) (hb : Below w.heap.size w w') : Dcr w' g l := by
  unfold Dcr
  rw [hb.block g h.lt]
  exact h
theorem Dcr.cell {w : World} {g : Nat} {l : List Int} (h : Dcr w g l) {i : Nat} (hi : i < l.length) : w.cell? ⟨g, i, none⟩ = some (.int .i64 (l[i]?.getD 0)) := by
  rw [cell_of_row w g i _ _ _ h, vs_at l hi]
theorem Dcr.free {w : World} {g : Nat} {l : List Int} (h : Dcr w g l) (i : Nat) : w.frozen? ⟨g, i, none⟩ = false := frozen_of_row w g i _ _ h
theorem Dcr.stored {w : World} {g : Nat} {l : List Int} (h : Dcr w g l) (i : Nat) (v : Int) : Dcr (w.setCell ⟨g, i, none⟩ (.int .i64 v)) g (l.set i v) := by
  unfold Dcr
  rw [heap_setCell_same w g i _ _ _ h, vs_set]
theorem Dcr.other {w : World} {g : Nat} {l : List Int} (h : Dcr w g l) (a : Addr) (v : Value) (hne : g ≠ a.block) : Dcr (w.setCell a v) g l := by
  unfold Dcr
  rw [heap_setCell_other w a g v hne]
  exact h

/-- What a decoder holds. -/
def dcl (L o : List Int) (lg : Int) : List Int := cts L ++ (o ++ [lg])
theorem dcl_len (L o : List Int) (lg : Int) (h : o.length = 320) : (dcl L o lg).length = 337 := by simp [dcl, cts_len, h]
theorem dcl_cts (L o : List Int) (lg : Int) {k : Nat} (hk : k < 16) : (dcl L o lg)[k]?.getD 0 = cz L k := by
  unfold dcl
  rw [List.getElem?_append_left (by rw [cts_len]; exact hk), cts_at L hk]
theorem dcl_ord (L o : List Int) (lg : Int) (h : o.length = 320) {p : Nat} (hp : p < 320) : (dcl L o lg)[16 + p]?.getD 0 = o[p]?.getD 0 := by
  unfold dcl
  rw [List.getElem?_append_right (by rw [cts_len]; omega), cts_len, List.getElem?_append_left (by omega), show 16 + p - 16 = p by omega]
theorem dcl_lng (L o : List Int) (lg : Int) (h : o.length = 320) : (dcl L o lg)[336]?.getD 0 = lg := by
  unfold dcl
  rw [List.getElem?_append_right (by rw [cts_len]; omega), cts_len, List.getElem?_append_right (by omega), h]
  rfl
theorem dcl_setO (L o : List Int) (lg : Int) (h : o.length = 320) {p : Nat} (hp : p < 320) (v : Int) : (dcl L o lg).set (16 + p) v = dcl L (o.set p v) lg := by
  unfold dcl
  rw [List.set_append_right _ _ (by rw [cts_len]; omega), cts_len, List.set_append_left _ _ (by omega), show 16 + p - 16 = p by omega]
theorem dcl_setL (L o : List Int) (lg : Int) (h : o.length = 320) (v : Int) : (dcl L o lg).set 336 v = dcl L o v := by
  unfold dcl
  rw [List.set_append_right _ _ (by rw [cts_len]; omega), cts_len, List.set_append_right _ _ (by omega), h]
  rfl

theorem built16 (a0 a1 a2 a3 a4 a5 a6 a7 a8 a9 a10 a11 a12 a13 a14 a15 : Int) :
    Tryz.prog.built 178 [(0, .agg (vs [a0, a1, a2, a3, a4, a5, a6, a7, a8, a9, a10, a11, a12, a13, a14, a15]))] = some (vs ([a0, a1, a2, a3, a4, a5, a6, a7, a8, a9, a10, a11, a12, a13, a14, a15] ++ List.replicate 321 0)) := by
  kernel_rfl
theorem list16 {l : List Int} (h : l.length = 16) : ∃ a0 a1 a2 a3 a4 a5 a6 a7 a8 a9 a10 a11 a12 a13 a14 a15, l = [a0, a1, a2, a3, a4, a5, a6, a7, a8, a9, a10, a11, a12, a13, a14, a15] := by
  match l, h with
  | [a0, a1, a2, a3, a4, a5, a6, a7, a8, a9, a10, a11, a12, a13, a14, a15], _ => exact ⟨a0, a1, a2, a3, a4, a5, a6, a7, a8, a9, a10, a11, a12, a13, a14, a15, rfl⟩
theorem built_dec (l : List Int) (h : l.length = 16) : Tryz.prog.built 178 [(0, .agg (vs l))] = some (vs (l ++ List.replicate 321 0)) := by
  obtain ⟨a0, a1, a2, a3, a4, a5, a6, a7, a8, a9, a10, a11, a12, a13, a14, a15, rfl⟩ := list16 h
  exact built16 a0 a1 a2 a3 a4 a5 a6 a7 a8 a9 a10 a11 a12 a13 a14 a15

def zeros320 : List Int := List.replicate 320 0
theorem zeros320_len : zeros320.length = 320 := List.length_replicate
theorem dcl_new (L : List Int) : cts L ++ List.replicate 321 0 = dcl L zeros320 0 := by
  unfold dcl zeros320
  rw [show (List.replicate 321 (0 : Int)) = List.replicate 320 0 ++ [0] from List.replicate_succ' ..]

theorem wpList_decBuild {ops : Array Oper} {rest : List Oper} {o : Oper} {a : Act} {w : World} {Q : Exit → Act → World → Prop} (hgd : o.guard = none) (x : Operand) (ho : o.op = .build 178 #[(0, x)])
    (L : List Int) (hx : a.eval x = .agg (vs (cts L)))
    (h : wpList Tryz.prog ops Q rest (a.put o.dst (.agg (vs (dcl L zeros320 0)))) w) : wpList Tryz.prog ops Q (o :: rest) a w := by
  have hb : Tryz.prog.built 178 (#[(0, x)].map fun (i, x) => (i, a.eval x)).toList = some (vs (dcl L zeros320 0)) := by
    simp only [List.map_toArray, List.map_cons, List.map_nil, hx]
    rw [← dcl_new]
    exact built_dec (cts L) (cts_len L)
  refine wpList_build hgd _ _ ho (by rw [hb]; rfl) ?_
  rw [hb]
  exact h
theorem wpList_decBox {ops : Array Oper} {rest : List Oper} {o : Oper} {a : Act} {w : World} {Q : Exit → Act → World → Prop} (hgd : o.guard = none) (x : Operand) (ho : o.op = .box 178 x)
    (l : List Int) (hx : a.eval x = .agg (vs l))
    (h : ∀ w1, Dcr w1 w.heap.size l → Below w.heap.size w w1 → w1.heap.size = w.heap.size + 1 → wpList Tryz.prog ops Q rest (a.put o.dst (.pointer (some ⟨w.heap.size, 0, none⟩))) w1) : wpList Tryz.prog ops Q (o :: rest) a w := by
  refine wpList_plain hgd fun K hK' => ?_
  unfold Oper.wp
  simp [execOp, ho, Instr.box, hx, Result.andThen]
  exact hK' _ _ (h _ (heap_alloc_new w _) (below_alloc w _) (by simp))

/-- The places of the lengths below m. -/
def plu (L : List Int) (m : Nat) : List Int := (List.range 16).map fun k => if k < m then pl L k else 0
theorem plu_len (L : List Int) (m : Nat) : (plu L m).length = 16 := by simp [plu]
theorem plu_at (L : List Int) (m : Nat) {k : Nat} (h : k < 16) : (plu L m)[k]?.getD 0 = if k < m then pl L k else 0 := by simp [plu, h]
theorem plu_zero (L : List Int) : plu L 0 = zero16 := by
  refine list_ext16 (plu_len _ _) zero16_len fun k hk => ?_
  rw [plu_at L 0 hk]
  unfold zero16; rw [List.getElem?_replicate]; simp [hk]
theorem plu_step (L : List Int) (m : Nat) (hm : m < 16) : (plu L m).set m (pl L m) = plu L (m + 1) := by
  refine list_ext16 (by simp [plu_len]) (plu_len _ _) fun k hk => ?_
  rw [getD_set _ _ _ _ (by rw [plu_len]; exact hm), plu_at L m hk, plu_at L _ hk]
  by_cases h : k = m
  · subst h; simp
  · rw [if_neg h]
    by_cases h2 : k < m
    · rw [if_pos h2, if_pos (by omega)]
    · rw [if_neg h2, if_neg (by omega)]
/-- The places of each length's next symbol, behind m symbols. -/
def plm (L : List Int) (m : Nat) : List Int := (List.range 16).map fun k => if k = 0 then 0 else pl L k + ((L.take m).count (k : Int) : Int)
theorem plm_len (L : List Int) (m : Nat) : (plm L m).length = 16 := by simp [plm]
theorem plm_at (L : List Int) (m : Nat) {k : Nat} (h : k < 16) : (plm L m)[k]?.getD 0 = if k = 0 then 0 else pl L k + ((L.take m).count (k : Int) : Int) := by simp [plm, h]
theorem plm_zero (L : List Int) : plu L 16 = plm L 0 := by
  refine list_ext16 (plu_len _ _) (plm_len _ _) fun k hk => ?_
  rw [plu_at L 16 hk, plm_at L 0 hk, if_pos hk]
  by_cases h : k = 0
  · subst h; rfl
  · simp [h]
theorem plm_step (L : List Int) {m : Nat} (hm : m < L.length) (k : Nat) (hk : k < 16) (h0 : k ≠ 0) (hl : ln L m = (k : Int)) (v : Int) (hv : v = pl L k + ((L.take m).count (k : Int) : Int) + 1) : (plm L m).set k v = plm L (m + 1) := by
  refine list_ext16 (by simp [plm_len]) (plm_len _ _) fun j hj => ?_
  rw [getD_set _ _ _ _ (by rw [plm_len]; exact hk), plm_at L m hj, plm_at L (m + 1) hj, count_take_succ L hm, hl]
  by_cases h : j = k
  · subst h; simp [hv, h0]; omega
  · rw [if_neg h, if_neg (show ¬ (k : Int) = (j : Int) by omega)]
    simp
theorem plm_skip (L : List Int) {m : Nat} (hm : m < L.length) (hl : ln L m = 0) : plm L (m + 1) = plm L m := by
  refine list_ext16 (plm_len _ _) (plm_len _ _) fun j hj => ?_
  rw [plm_at L m hj, plm_at L (m + 1) hj, count_take_succ L hm, hl]
  by_cases h : j = 0
  · simp [h]
  · rw [if_neg h, if_neg h, if_neg (show ¬ (0 : Int) = (j : Int) by omega)]
    simp

set_option maxHeartbeats 2000000 in
theorem decoderOf_any (ao : Option Addr) (n c : Nat) (L : List Int) (w : World) (h : Is w ao n c L) (hG : Good L) :
    Calls Tryz.prog 124 #[.slice ao n c, .agg (vs (cts L))] w fun e w' => ∃ g o, e = .returned (.pointer (some ⟨g, 0, none⟩)) ∧ w.heap.size ≤ g ∧ Dcr w' g (dcl L o (lng L 16 : Nat)) ∧ Ord L o L.length ∧ Below w.heap.size w w' := by
  have hlen := hide h.len
  have hmax := h.max
  have hle := h.le
  have hn : n ≤ 320 := by have := hG.len; rw [unhide hlen] at this; exact this
  have H := hide h
  have HG := hide hG
  clear h hG
  go_enter Tryz.func124, Tryz.ntmps124
  go_wp2_with (first
    | (with_reducible show wpList Tryz.prog _ _ (Oper.mk _ (Op.box 166 _) _ _ _ none :: _) _ _; refine wpList_arrBox rfl (.tmp 1) rfl (cts L) rfl ?_; intro w1 a1 b1 s1)
    | (with_reducible show wpList Tryz.prog _ _ (Oper.mk _ (Op.load 166 _) _ _ _ none :: _) _ _; refine wpList_arrLoad rfl (.tmp 3) rfl w.heap.size rfl (cts L) a1 (cts_len L) ?_)
    | (with_reducible show wpList Tryz.prog _ _ (Oper.mk _ (Op.build 178 _) _ _ _ none :: _) _ _; refine wpList_decBuild rfl (.tmp 12) rfl L rfl ?_)
    | (with_reducible show wpList Tryz.prog _ _ (Oper.mk _ (Op.box 178 _) _ _ _ none :: _) _ _; refine wpList_decBox rfl (.tmp 13) rfl _ rfl ?_; intro w2 d2 b2 s2; have a1' := a1; replace a1 := a1'.later b2)
    | (with_reducible show wpList Tryz.prog _ _ (Oper.mk _ (Op.alloc 166) _ _ _ none :: _) _ _; refine wpList_arrAlloc rfl rfl ?_; intro w3 a3 b3 s3; have a1'' := a1; replace a1 := a1''.later b3))
  rw [s1] at d2
  rw [s2, s1] at a3
  have D3 : Dcr w3 (w.heap.size + 1) (dcl L zeros320 (lng L 0 : Nat)) := d2.later b3
  have A3 : Arr w3 (w.heap.size + 1 + 1) (plu L 0) := by rw [plu_zero]; exact a3
  have bb : Below w.heap.size w w3 := (b1.trans (b2.mono (by omega))).trans (b3.mono (by omega))
  have ss : w3.heap.size = w.heap.size + 3 := by omega
  clear a1 a1' a1'' a3 d2 b1 b2 b3 s1 s2 s3
  clear w1 w2
  go_loopw [7, 16] (fun p i wr => ∃ m : Nat, m ≤ 16 ∧ i = .int .i64 m ∧ p = .int .i64 (pl L m) ∧ Arr wr (w.heap.size + 1 + 1) (plu L m) ∧ Dcr wr (w.heap.size + 1) (dcl L zeros320 (lng L m : Nat)) ∧ Below w.heap.size w wr) (fun _ i _ => 16 - (intOf i).toNat)
  case atStart => exact ⟨0, by omega, rfl, rfl, A3, D3, bb⟩
  case round =>
    clear A3 D3 bb ss
    obtain ⟨m, hm, rfl, rfl, ha, hd, hbel⟩ := hrel
    have p0 := pl_top (unhide HG) hm
    by_cases hlt : m < 16
    · have ix := run_arrAt (cts L) (cts_len L) m hlt
      rw [cts_at L hlt] at ix
      have p1 := pl_top (unhide HG) (show m + 1 ≤ 16 by omega)
      have hst := hide (show pl L (m + 1) = pl L m + cz L m from rfl)
      have c0 := cz_nonneg L m
      have c1 := cz_le L m
      have c2 := hide (unhide HG).len
      have c3 : cz L m ≤ 320 := by have := unhide c2; omega
      have hset := hide (plu_step L m hlt)
      have cc := ha.cell (i := m) (by rw [plu_len]; exact hlt)
      have fr := ha.free m
      have dc := hd.cell (i := 336) (by rw [dcl_len _ _ _ zeros320_len]; omega)
      have df := hd.free 336
      have HA := hide ha
      have HD := hide hd
      clear ha hd c1 p1
      have hlg := hide (show lng L (m + 1) = if 0 < cz L m then m else lng L m from rfl)
      generalize pl L m = X at *
      generalize cz L m = Y at *
      by_cases hY : 0 < Y
      · go_wp2_with fail
        go_roundw
        case rel =>
          refine ⟨m + 1, by omega, by go_num, by rw [unhide hst], ?_, ?_, (hbel.setCell (by simp <;> omega) _).setCell (by simp <;> omega) _⟩
          · rw [← unhide hset]
            exact ((unhide HA).stored m _).other _ _ (by simp <;> omega)
          · rw [unhide hlg, if_pos hY, ← dcl_setL L zeros320 (lng L m : Nat) zeros320_len]
            exact ((unhide HD).other _ _ (by simp <;> omega)).stored 336 _
        case measure => simp [intOf]; omega
      · go_wp2_with fail
        go_roundw
        case rel =>
          refine ⟨m + 1, by omega, by go_num, by rw [unhide hst], ?_, ?_, hbel.setCell (by simp <;> omega) _⟩
          · rw [← unhide hset]
            exact (unhide HA).stored m _
          · rw [unhide hlg, if_neg hY]
            exact (unhide HD).other _ _ (by simp <;> omega)
        case measure => simp [intOf]; omega
    · have hm16 := hide (show m = 16 by omega)
      have HA := hide (show Arr wr (w.heap.size + 1 + 1) (plm L 0) by rw [← plm_zero, ← unhide hm16]; exact ha)
      have HD := hide (show Dcr wr (w.heap.size + 1) (dcl L zeros320 (lng L 16 : Nat)) by rw [← unhide hm16]; exact hd)
      clear ha hd
      generalize pl L m = X at *
      go_wp2_with fail
      go_loopw [35] (fun i ws => ∃ (j : Nat) (o : List Int), j ≤ n ∧ i = .int .i64 j ∧ Ord L o j ∧ Arr ws (w.heap.size + 1 + 1) (plm L j) ∧ Dcr ws (w.heap.size + 1) (dcl L o (lng L 16 : Nat)) ∧ Below w.heap.size w ws) (fun i _ => n - (intOf i).toNat)
      case atStart => exact ⟨0, zeros320, by omega, rfl, ⟨zeros320_len, fun j hj => by omega⟩, unhide HA, unhide HD, hbel⟩
      case round =>
        clear hbel
        obtain ⟨j, o, hj, rfl, hO, ha, hd, hbel⟩ := hrel
        by_cases hlt : j < n
        · obtain ⟨b, of, hix, hcx⟩ := ((unhide H).later hbel).idx hlt (j : Int) rfl
          have hjL := hide (show j < L.length by rw [unhide hlen]; exact hlt)
          obtain ⟨x, hx⟩ : ∃ x, x = ln L j := ⟨_, rfl⟩
          have hx2 := hide (show x = L[j]?.getD 0 from hx)
          have hxf := (unhide HG).fit _ (ln_mem (unhide hjL))
          rw [← hx] at hxf
          have HX := hide hx
          clear hx
          rw [← unhide hx2] at hcx
          obtain ⟨k, hk⟩ : ∃ k : Nat, x = (k : Int) := ⟨x.toNat, by omega⟩
          have hk16 : k < 16 := by omega
          subst hk
          have HO := hide hO
          have HA2 := hide ha
          have HD2 := hide hd
          by_cases h0 : k = 0
          · subst h0
            clear ha hd hO
            go_wp2_with fail
            go_roundw
            case rel =>
              refine ⟨j + 1, o, by omega, by go_num, (unhide HO).skip (unhide HX).symm, ?_, unhide HD2, hbel⟩
              rw [plm_skip L (unhide hjL) (unhide HX).symm]
              exact unhide HA2
            case measure => simp [intOf]; omega
          · have cc := ha.cell (i := k) (by rw [plm_len]; exact hk16)
            rw [plm_at L j hk16, if_neg h0] at cc
            have fa := ha.free k
            have hpos : pos L j = pl L k + ((L.take j).count (k : Int) : Int) := by
              unfold pos rk
              rw [← unhide HX]
              simp
            have hpb := (unhide HG).pos (unhide hjL) (by rw [← unhide HX]; omega)
            have hst := hide (plm_step L (unhide hjL) k hk16 h0 (unhide HX).symm _ rfl)
            rw [← hpos] at cc
            have hst2 := hide (show (plm L j).set k (pos L j + 1) = plm L (j + 1) by rw [hpos]; exact unhide hst)
            obtain ⟨P, hP⟩ : ∃ P : Nat, pos L j = (P : Int) := ⟨(pos L j).toNat, by omega⟩
            have hOs := hide ((unhide HO).step (unhide HG) (unhide hjL) (by rw [← unhide HX]; omega))
            rw [hP] at cc hpb
            have hP2 := hide (show (plm L j).set k ((P : Int) + 1) = plm L (j + 1) by rw [← hP]; exact unhide hst2)
            have hOs2 := hide (show Ord L (o.set P (j : Int)) (j + 1) by have := unhide hOs; rw [hP] at this; simpa using this)
            have hP3 : P < 320 := by omega
            have dc := hd.cell (i := 16 + P) (by rw [dcl_len _ _ _ (unhide HO).len]; omega)
            have df := hd.free (16 + P)
            have k0 : 0 < (k : Int) := by omega
            have i1 : 0 ≤ (k : Int) ∧ (k : Int) < 16 := by omega
            have i2 : 0 ≤ (P : Int) ∧ (P : Int) < 320 := by omega
            clear ha hd hO hpos hst hst2 hP hOs hpb
            go_wp2_with fail
            go_region
            all_goals go_wp2_with fail
            all_goals go_roundw
            all_goals first
              | (refine ⟨j + 1, o.set P (j : Int), by omega, by go_num, unhide hOs2, ?_, ?_, (((hbel.setCell (by simp <;> omega) _).drew).setCell (by simp <;> omega) _)⟩
                 · rw [← unhide hP2]
                   exact Arr.stored (w := (wr.setCell _ _).drew) ((unhide HA2).other _ _ (by simp <;> omega)) k _
                 · rw [← dcl_setO L o _ (unhide HO).len hP3]
                   exact Dcr.other (w := (wr.setCell _ _).drew) ((unhide HD2).stored (16 + P) _) _ _ (by simp <;> omega))
              | (refine ⟨j + 1, o.set P (j : Int), by omega, by go_num, unhide hOs2, ?_, ?_, (((hbel.setCell (by simp <;> omega) _).setCell (by simp <;> omega) _).drew)⟩
                 · rw [← unhide hP2]
                   exact Arr.stored ((unhide HA2).other _ _ (by simp <;> omega)) k _
                 · rw [← dcl_setO L o _ (unhide HO).len hP3]
                   exact Dcr.other ((unhide HD2).stored (16 + P) _) _ _ (by simp <;> omega))
              | (simp [intOf]; omega)
        · have hjn := hide (show j = L.length by rw [unhide hlen]; omega)
          have HO := hide hO
          have HD2 := hide hd
          clear ha hd hO
          go_wp2_with fail
          go_ret
          exact ⟨w.heap.size + 1, o, rfl, by omega, unhide HD2, by rw [← unhide hjn]; exact unhide HO, hbel⟩

end Go.Proofs.YtnoabdafmgmenaaGreatDoor

namespace Go.Proofs.YtnoabdafmgmenaaGreatDoor
open Go.RowKit
set_option linter.unusedVariables false
set_option linter.unusedSimpArgs false

/-- Block g is one cell. -/
def One (w : World) (g : Nat) (t : TypeId) (v : Value) : Prop := w.heap[g]? = some (.cells #[v] t (0, 0))
theorem One.lt {w : World} {g : Nat} {t : TypeId} {v : Value} (h : One w g t v) : g < w.heap.size := (Array.getElem?_eq_some_iff.1 h).1
theorem One.later {w w' : World} {g : Nat} {t : TypeId} {v : Value} (h : One w g t v) (hb : Below w.heap.size w w') : One w' g t v := by
  unfold One
  rw [hb.block g h.lt]
  exact h
theorem One.cell {w : World} {g : Nat} {t : TypeId} {v : Value} (h : One w g t v) : w.cell? ⟨g, 0, none⟩ = some v := by
  rw [cell_of_row w g 0 _ _ _ h]; rfl
theorem One.free {w : World} {g : Nat} {t : TypeId} {v : Value} (h : One w g t v) : w.frozen? ⟨g, 0, none⟩ = false := frozen_of_row w g 0 _ _ h
theorem One.stored {w : World} {g : Nat} {t : TypeId} {v : Value} (h : One w g t v) (u : Value) : One (w.setCell ⟨g, 0, none⟩ u) g t u := by
  unfold One
  rw [heap_setCell_same w g 0 _ _ _ h]; rfl

/-- Only block g has changed. -/
structure But (g : Nat) (w w' : World) : Prop where
  os : w'.os = w.os
  tape : w'.tape = w.tape
  output : w'.output = w.output
  size : w'.heap.size = w.heap.size
  block : ∀ k, k ≠ g → w'.heap[k]? = w.heap[k]?
theorem But.refl (g : Nat) (w : World) : But g w w := ⟨rfl, rfl, rfl, rfl, fun _ _ => rfl⟩
theorem But.trans {g : Nat} {a b c : World} (h : But g a b) (k : But g b c) : But g a c :=
  ⟨k.os.trans h.os, k.tape.trans h.tape, k.output.trans h.output, k.size.trans h.size, fun i hi => (k.block i hi).trans (h.block i hi)⟩
theorem But.below {g : Nat} {w w' : World} (h : But g w w') : Below g w w' := ⟨h.os, h.tape, h.output, Nat.le_of_eq h.size.symm, fun k hk => h.block k (by omega)⟩
theorem But.setCell (w : World) (g i : Nat) (u : Value) : But g w (w.setCell ⟨g, i, none⟩ u) :=
  ⟨rfl, rfl, rfl, by simp, fun k hk => heap_setCell_other w ⟨g, i, none⟩ k u hk⟩
theorem One.but {w w' : World} {g p : Nat} {t : TypeId} {v : Value} (h : One w g t v) (hb : But p w w') (hne : g ≠ p) : One w' g t v := by
  unfold One; rw [hb.block g hne]; exact h
theorem Dcr.but {w w' : World} {g p : Nat} {l : List Int} (h : Dcr w g l) (hb : But p w w') (hne : g ≠ p) : Dcr w' g l := by
  unfold Dcr; rw [hb.block g hne]; exact h

theorem shr_bd (v : Int) (k : Nat) (h0 : 0 ≤ v) (h1 : v ≤ 255) : 0 ≤ v / 2 ^ k ∧ v / 2 ^ k ≤ 255 := by
  have hp : (0 : Int) < 2 ^ k := Int.pow_pos (by omega)
  refine ⟨Int.ediv_nonneg h0 (by omega), ?_⟩
  have := Int.ediv_le_self (2 ^ k) h0
  omega

set_option maxHeartbeats 1000000 in
theorem next_short (P Q : Nat) (at_ : Nat) (ao : Option Addr) (n c : Nat) (bs : List Int) (w : World) (hP : One w P 3 (.int .i64 (at_ : Int))) (hQ : One w Q 31 (.slice ao n c)) (h : Bs w ao n c bs) (hn : n ≤ 1000000) (hat : (at_ : Int) ≤ 9223372036854775807) (hs : n ≤ at_ / 8) :
    Calls Tryz.prog 130 #[.pointer (some ⟨P, 0, none⟩), .pointer (some ⟨Q, 0, none⟩)] w fun e w' => e = .returned (.tuple #[.int .i64 0, .bool false]) ∧ w' = w := by
  have c1 := hP.cell
  have c2 := hQ.cell
  have hmax := h.max
  have hle := h.le
  have hs' : (n : Int) ≤ (at_ : Int) / 8 := by omega
  clear h hP hQ hs
  generalize (at_ : Int) = A at *
  go_enter Tryz.func130, Tryz.ntmps130
  go_wp2_with fail
  go_ret2
  exact ⟨rfl, rfl⟩

set_option maxHeartbeats 1000000 in
theorem next_bit (P Q : Nat) (at_ : Nat) (ao : Option Addr) (n c : Nat) (bs : List Int) (w : World) (hP : One w P 3 (.int .i64 (at_ : Int))) (hQ : One w Q 31 (.slice ao n c)) (h : Bs w ao n c bs) (hn : n ≤ 1000000) (hs : at_ / 8 < n) :
    Calls Tryz.prog 130 #[.pointer (some ⟨P, 0, none⟩), .pointer (some ⟨Q, 0, none⟩)] w fun e w' => e = .returned (.tuple #[.int .i64 (bitAt bs at_), .bool true]) ∧ One w' P 3 (.int .i64 ((at_ + 1 : Nat) : Int)) ∧ But P w w' := by
  have c1 := hP.cell
  have f1 := hP.free
  have c2 := hQ.cell
  have hmax := h.max
  have hle := h.le
  obtain ⟨b, o, hix, hcx⟩ := h.idx hs ((at_ : Int) / 8) (by omega)
  have hb := h.byt.at (at_ / 8)
  have HP := hide hP
  have hs' : (at_ : Int) / 8 < (n : Int) := by omega
  obtain ⟨v, hv⟩ : ∃ v, v = bs[at_ / 8]?.getD 0 := ⟨_, rfl⟩
  rw [← hv] at hcx hb
  have hbit := hide (show bitAt bs at_ = v / 2 ^ (at_ % 8) % 2 by unfold bitAt; rw [hv])
  have hy := shr_bd v (at_ % 8) hb.1 hb.2
  have ha := and1_u8 _ hy.1 hy.2
  clear h hP hQ hs hv
  go_enter Tryz.func130, Tryz.ntmps130
  go_wp2_with fail
  go_quiet (fail)
  go_wp2_with fail
  go_ret2
  refine ⟨?_, ?_, ?_⟩
  · rw [unhide hbit]
    rfl
  · have := One.stored (w := w.drewN nq) (unhide HP) (.int .i64 ((at_ : Int) + 1))
    rw [show ((at_ + 1 : Nat) : Int) = (at_ : Int) + 1 by omega]
    exact this
  · have := But.setCell (w.drewN nq) P 0 (.int .i64 ((at_ : Int) + 1))
    exact ⟨this.os, this.tape, this.output, this.size, this.block⟩

set_option maxHeartbeats 1000000 in
theorem bitsFrom_any (ao : Option Addr) (n c : Nat) (at_ : Int) (w : World) :
    Calls Tryz.prog 126 #[.slice ao n c, .int .i64 at_] w fun e w' => e = .returned (.func (.func 130) #[] #[.pointer (some ⟨w.heap.size + 1, 0, none⟩), .pointer (some ⟨w.heap.size, 0, none⟩)]) ∧ One w' w.heap.size 31 (.slice ao n c) ∧ One w' (w.heap.size + 1) 3 (.int .i64 at_) ∧ Below w.heap.size w w' ∧ w'.heap.size = w.heap.size + 2 := by
  go_enter Tryz.func126, Tryz.ntmps126
  go_wp2_with fail
  go_ret
  exact ⟨rfl, heap_alloc2_old w _ _, heap_alloc2_new w _ _, (below_alloc w _).alloc (by simp) _, by simp⟩

set_option maxHeartbeats 2000000 in
set_option maxRecDepth 20000 in
theorem read_any (g P Q at_ : Nat) (ao : Option Addr) (n c : Nat) (bs L o : List Int) (w : World) (hd : Dcr w g (dcl L o (lng L 16 : Nat))) (hO : Ord L o L.length) (hG : Good L)
    (hP : One w P 3 (.int .i64 (at_ : Int))) (hQ : One w Q 31 (.slice ao n c)) (hB : ∀ w', But P w w' → Bs w' ao n c bs) (hgP : g ≠ P) (hQP : Q ≠ P) (hn : n ≤ 1000000) (hat : (at_ : Int) ≤ 9223372036854775807) :
    Calls Tryz.prog 125 #[.pointer (some ⟨g, 0, none⟩), .func (.func 130) #[] #[.pointer (some ⟨P, 0, none⟩), .pointer (some ⟨Q, 0, none⟩)]] w
      fun e w' => e = .returned (.tuple #[.int .i64 (rd L bs at_).1, .int .i64 (rd L bs at_).2.1, .int .i64 (rd L bs at_).2.2]) ∧ But P w w' ∧ ((rd L bs at_).2.2 = 0 → One w' P 3 (.int .i64 ((at_ + (rd L bs at_).2.1.toNat : Nat) : Int))) := by
  have HAT := hide hat
  clear hat
  have hlg := lng_le L 16
  have hbl := hide (hB w (But.refl _ _)).len
  obtain ⟨lg, hlge⟩ : ∃ lg, lg = lng L 16 := ⟨_, rfl⟩
  have hR := hide (show rd L bs at_ = dec L bs at_ lg 0 0 by rw [hlge]; rfl)
  rw [← hlge] at hd hlg
  clear hlge
  generalize hRD : rd L bs at_ = R at *
  have HR := hide hRD
  clear hRD
  obtain ⟨r1, r2, r3⟩ := R
  have HD := hide hd
  have HO := hide hO
  have HG := hide hG
  have HP := hide hP
  have HQ := hide hQ
  have HB := hide hB
  clear hd hO hG hP hQ hB
  go_enter Tryz.func125, Tryz.ntmps125
  go_wp2_with fail
  go_loopw [7, 8, 9, 10] (fun x f p i wr => ∃ (m : Nat) (y : Int), m ≤ lg ∧ x = .int .i64 y ∧ f = .int .i64 (fc L (m + 1)) ∧ p = .int .i64 (pl L (m + 1)) ∧ i = .int .i64 ((m : Int) + 1) ∧ Fl L m ≤ y ∧ y < 2 ^ m ∧ (r1, r2, r3) = dec L bs at_ (lg - m) m y ∧ One wr P 3 (.int .i64 ((at_ + m : Nat) : Int)) ∧ But P w wr ∧ ((at_ + m : Nat) : Int) ≤ 9223372036854775807) (fun _ _ _ i _ => 17 - (intOf i).toNat)
  case atStart => exact ⟨0, 0, by omega, rfl, by rw [fc_succ]; rfl, by simp [pl, cz], rfl, by simp [Fl], by simp, unhide hR, unhide HP, But.refl _ _, unhide HAT⟩
  case round =>
    obtain ⟨m, y, hm, rfl, rfl, rfl, rfl, hy0, hy1, hdec, hone, hbut, hat2⟩ := hrel
    have HAT2 := hide hat2
    clear hat2
    have hd := (unhide HD).but hbut hgP
    have cL := hd.cell (i := 336) (by rw [dcl_len _ _ _ (unhide HO).len]; omega)
    rw [dcl_lng _ _ _ (unhide HO).len] at cL
    have hFn := Fl_nonneg L m
    have hp15 := pow_15 (show m ≤ 15 by omega)
    have y0 : 0 ≤ y := by omega
    have y1 : y < 32768 := by omega
    have HY0 := hide hy0
    have HY1 := hide hy1
    have HDEC := hide hdec
    have HONE := hide hone
    clear hy0 hy1 hdec hone hFn hp15 hd
    by_cases hlt : m < lg
    · obtain ⟨f, hf⟩ : ∃ f, lg - m = f + 1 := ⟨lg - m - 1, by omega⟩
      by_cases hs : (at_ + m) / 8 < n
      · have nb := hide (next_bit P Q (at_ + m) ao n c bs wr (unhide HONE) ((unhide HQ).but hbut hQP) (unhide HB wr hbut) hn hs)
        have hbb := bitAt_bd bs (at_ + m)
        have hnos := hide (show ¬ 8 * bs.length < at_ + m + 1 by rw [unhide hbl]; omega)
        obtain ⟨V, hV⟩ : ∃ V, V = bitAt bs (at_ + m) := ⟨_, rfl⟩
        have HV := hide hV
        rw [← hV] at hbb nb
        clear hV
        have e8 := hide (show lg - m = f + 1 from hf)
        clear hf hs
        have hor := or1_i64 y V y0 (by omega) hbb.1 hbb.2
        have hf0 := fc_nonneg L (m + 1)
        have hf1 := (unhide HG).small (show m + 1 ≤ 15 by omega)
        have hfs := fc_succ L m
        rw [Fl_eq] at hf1
        have hc0 := cz_nonneg L (m + 1)
        have hge : fc L (m + 1) ≤ y * 2 + V := by have := unhide HY0; omega
        have hpl := pl_top (unhide HG) (show m + 1 ≤ 16 by omega)
        have hpl2 := pl_top (unhide HG) (show m + 1 + 1 ≤ 16 by omega)
        have hcb := hide (fun w => behind_any (fc L (m + 1)) (cz L (m + 1)) w hf0 (by omega) hc0 (by omega))
        have hfst := hide (fc_step L (m + 1))
        have hpst := hide (show pl L (m + 1 + 1) = pl L (m + 1) + cz L (m + 1) from rfl)
        have hpst2 : pl L (m + 1) + cz L (m + 1) ≤ 320 := by have := unhide hpst; omega
        have HGE := hide hge
        have HFL := hide (Fl_eq L (m + 1))
        clear hfs hpl2
        have hm2 : (m : Int) < 15 := by omega
        by_cases hh : y * 2 + V - fc L (m + 1) < cz L (m + 1)
        · obtain ⟨i, hfnd, hiL, hp0, hoi⟩ := read_hit (unhide HO) (show m + 1 ≠ 0 by omega) hge hh
          obtain ⟨PP, hPP⟩ : ∃ PP : Nat, pl L (m + 1) + (y * 2 + V) - fc L (m + 1) = (PP : Int) := ⟨(pl L (m + 1) + (y * 2 + V) - fc L (m + 1)).toNat, by omega⟩
          rw [hPP] at hoi
          have hPb : PP < 320 := by omega
          have hans := hide (show (r1, r2, r3) = ((i : Int), ((m + 1 : Nat) : Int), 0) by
            rw [unhide HDEC, unhide e8, dec_hit _ _ _ _ _ _ (unhide hnos) i]
            rw [← unhide HV, Int.mul_comm 2 y]
            exact hfnd)
          have hi320 : (i : Int) < 320 := by have := (unhide HG).len; omega
          simp only [Int.toNat_natCast] at hoi
          have HOI := hide hoi
          clear hfnd hp0 hoi hge hiL
          generalize hF : fc L (m + 1) = F at *
          generalize hX : pl L (m + 1) = X at *
          generalize hZ : cz L (m + 1) = Z at *
          go_wp2_with fail
          refine (unhide nb).mono ?_
          rintro e w2 ⟨rfl, one2, but2⟩
          have d2 := (unhide HD).but (hbut.trans but2) hgP
          have k1 := d2.cell (i := m + 1) (by rw [dcl_len _ _ _ (unhide HO).len]; omega)
          rw [dcl_cts _ _ _ (by omega), hZ] at k1
          have k2 := d2.cell (i := 16 + PP) (by rw [dcl_len _ _ _ (unhide HO).len]; omega)
          rw [dcl_ord _ _ _ (unhide HO).len hPb, unhide HOI] at k2
          have ONE2 := hide one2
          clear d2 one2 hX hZ hF
          go_wp2_with fail
          go_ret3
          have ha := unhide hans
          simp only [Prod.mk.injEq] at ha
          obtain ⟨rfl, rfl, rfl⟩ := ha
          refine ⟨rfl, hbut.trans but2, fun _ => ?_⟩
          have := unhide ONE2
          rw [show at_ + ((m + 1 : Nat) : Int).toNat = at_ + m + 1 by omega]
          exact this
        · have hnone := hide (fnd_none L (show m + 1 ≠ 0 by omega) (x := y * 2 + V) (by have := unhide HFL; omega))
          have hans := hide (show (r1, r2, r3) = dec L bs at_ (lg - (m + 1)) (m + 1) (y * 2 + V) by
            rw [unhide HDEC, unhide e8, dec_miss _ _ _ _ _ _ (unhide hnos)]
            · rw [← unhide HV, Int.mul_comm 2 y, show lg - (m + 1) = f by have := unhide e8; omega]
            · rw [← unhide HV, Int.mul_comm 2 y]
              exact unhide hnone)
          have hy2 := hide (show Fl L (m + 1) ≤ y * 2 + V by have := unhide HFL; omega)
          have hy3 := hide (show y * 2 + V < 2 ^ (m + 1) by have := unhide HY1; rw [Int.pow_succ]; omega)
          clear hge
          generalize hF : fc L (m + 1) = F at *
          generalize hX : pl L (m + 1) = X at *
          generalize hZ : cz L (m + 1) = Z at *
          go_wp2_with fail
          refine (unhide nb).mono ?_
          rintro e w2 ⟨rfl, one2, but2⟩
          have d2 := (unhide HD).but (hbut.trans but2) hgP
          have k1 := d2.cell (i := m + 1) (by rw [dcl_len _ _ _ (unhide HO).len]; omega)
          rw [dcl_cts _ _ _ (by omega), hZ] at k1
          have ONE2 := hide one2
          clear d2 one2 hX hZ hF
          go_wp2_with fail
          refine same_world (unhide hcb _) ?_
          go_wp2_with fail
          go_roundw
          case rel =>
            refine ⟨m + 1, y * 2 + V, by omega, rfl, by rw [unhide hfst], by rw [unhide hpst], by go_num, unhide hy2, unhide hy3, unhide hans, unhide ONE2, hbut.trans but2, ?_⟩
            have := unhide hnos
            rw [unhide hbl] at this
            omega
          case measure => simp [intOf]; omega
      · have ns := hide (next_short P Q (at_ + m) ao n c bs wr (unhide HONE) ((unhide HQ).but hbut hQP) (unhide HB wr hbut) hn (unhide HAT2) (by omega))
        have hans := hide (show (r1, r2, r3) = (0, 0, 4) by
          rw [unhide HDEC, hf, dec_short]
          rw [unhide hbl]
          omega)
        clear hf hs
        generalize fc L (m + 1) = F at *
        generalize pl L (m + 1) = X at *
        go_wp2_with fail
        refine same_world (unhide ns) ?_
        go_wp2_with fail
        go_ret3
        have ha := unhide hans
        simp only [Prod.mk.injEq] at ha
        obtain ⟨rfl, rfl, rfl⟩ := ha
        exact ⟨rfl, hbut, fun q => by omega⟩
    · have hans := hide (show (r1, r2, r3) = (0, 0, 5) by
        rw [unhide HDEC, show lg - m = 0 by omega]
        rfl)
      generalize fc L (m + 1) = F at *
      generalize pl L (m + 1) = X at *
      go_wp2_with fail
      go_ret3
      have ha := unhide hans
      simp only [Prod.mk.injEq] at ha
      obtain ⟨rfl, rfl, rfl⟩ := ha
      exact ⟨rfl, hbut, fun q => by omega⟩

end Go.Proofs.YtnoabdafmgmenaaGreatDoor

namespace Go.Proofs.YtnoabdafmgmenaaGreatDoor
open Go.RowKit
set_option linter.unusedVariables false
set_option linter.unusedSimpArgs false

/-- What Read answers. -/
def rdq (L bs : List Int) (at_ : Int) : Int × Int × Int := if cer L = 0 then (if at_ < 0 then (0, 0, 2) else rd L bs at_.toNat) else (0, 0, cer L)

set_option maxHeartbeats 2000000 in
set_option maxRecDepth 20000 in
theorem readq_any (ao : Option Addr) (n c : Nat) (L : List Int) (bo : Option Addr) (m d : Nat) (bs : List Int) (at_ : Int) (w : World) (h : Is w ao n c L) (hb : Bs w bo m d bs) (hm : m ≤ 1000000) (hat : at_ ≤ 9223372036854775807) :
    Calls Tryz.prog 118 #[.slice ao n c, .slice bo m d, .int .i64 at_] w fun e w' => e = .returned (.tuple #[.int .i64 (rdq L bs at_).1, .int .i64 (rdq L bs at_).2.1, .int .i64 (rdq L bs at_).2.2]) ∧ Below w.heap.size w w' := by
  have H := hide h
  have HB := hide hb
  have HAT := hide hat
  clear h hb hat
  generalize hR : rdq L bs at_ = R
  obtain ⟨r1, r2, r3⟩ := R
  have HR := hide hR
  clear hR
  go_enter Tryz.func118, Tryz.ntmps118
  go_wp2_with fail
  refine (counted_any _ _ _ _ _ (unhide H)).mono ?_
  rintro e w1 ⟨rfl, b1⟩
  have z1 := b1.size
  by_cases he : cer L = 0
  · have hc := hide (show ctd L = cts L by unfold ctd; rw [he]; rfl)
    have hg := hide (good_of he)
    have HE := hide he
    rw [unhide hc, he]
    clear he
    by_cases hneg : at_ < 0
    · have hans := hide (show (r1, r2, r3) = (0, 0, 2) by rw [← unhide HR]; unfold rdq; rw [if_pos (unhide HE), if_pos hneg])
      go_wp2_with (first
        | (with_reducible show wpList Tryz.prog _ _ (Oper.mk _ (Op.store 166 _ _) _ _ _ none :: _) _ _; refine wpList_arrStore rfl (.tmp 9) (.tmp 13) rfl w1.heap.size (cts L) zero16 rfl rfl a2 (cts_len L) zero16_len ?_; intro w3 a3 o3 s3 b3)
        | (with_reducible show wpList Tryz.prog _ _ (Oper.mk _ (Op.alloc 166) _ _ _ none :: _) _ _; refine wpList_arrAlloc rfl rfl ?_; intro w2 a2 b2 s2))
      go_ret3
      have ha := unhide hans
      simp only [Prod.mk.injEq] at ha
      obtain ⟨rfl, rfl, rfl⟩ := ha
      exact ⟨rfl, (b1.trans (b2.mono z1)).trans (b3.mono z1)⟩
    · obtain ⟨A, hA⟩ : ∃ A : Nat, at_ = (A : Int) := ⟨at_.toNat, by omega⟩
      subst hA
      have hans := hide (show (r1, r2, r3) = rd L bs A by rw [← unhide HR]; unfold rdq; rw [if_pos (unhide HE), if_neg hneg]; simp)
      go_wp2_with (first
        | (with_reducible show wpList Tryz.prog _ _ (Oper.mk _ (Op.store 166 _ _) _ _ _ none :: _) _ _; refine wpList_arrStore rfl (.tmp 9) (.tmp 13) rfl w1.heap.size (cts L) zero16 rfl rfl a2 (cts_len L) zero16_len ?_; intro w3 a3 o3 s3 b3)
        | (with_reducible show wpList Tryz.prog _ _ (Oper.mk _ (Op.alloc 166) _ _ _ none :: _) _ _; refine wpList_arrAlloc rfl rfl ?_; intro w2 a2 b2 s2)
        | (with_reducible show wpList Tryz.prog _ _ (Oper.mk _ (Op.load 166 _) _ _ _ none :: _) _ _; refine wpList_arrLoad rfl (.tmp 9) rfl w1.heap.size rfl (cts L) a3 (cts_len L) ?_))
      have bb3 : Below w.heap.size w w3 := (b1.trans (b2.mono z1)).trans (b3.mono z1)
      have z3 := bb3.size
      refine (decoderOf_any _ _ _ L w3 ((unhide H).later bb3) (unhide hg)).mono ?_
      rintro e w4 ⟨g, o, rfl, hgw, hd4, hO, b4⟩
      have bb4 : Below w.heap.size w w4 := bb3.trans (b4.mono z3)
      have z4 := bb4.size
      have HD := hide hd4
      have HO := hide hO
      have hg4 := hd4.lt
      clear hd4 hO a2 a3 o3 b2 b3 s2 s3 b4
      go_wp2_with fail
      refine (bitsFrom_any _ _ _ _ w4).mono ?_
      rintro e w5 ⟨rfl, q5, p5, b5, s5⟩
      have bb5 : Below w.heap.size w w5 := bb4.trans (b5.mono z4)
      have rdc := hide (read_any g (w4.heap.size + 1) w4.heap.size A bo m d bs L o w5 ((unhide HD).later b5) (unhide HO) (unhide hg) p5 q5 (fun w' hw => (unhide HB).later (bb5.trans (hw.below.mono (by omega)))) (by omega) (by omega) hm (unhide HAT))
      rw [← unhide hans] at rdc
      clear p5 q5
      go_wp2_with fail
      refine (unhide rdc).mono ?_
      rintro e w6 ⟨rfl, b6, _⟩
      go_wp2_with fail
      go_ret3
      exact ⟨rfl, bb5.trans (b6.below.mono (by omega))⟩
  · have he' : (cer L != 0) = true := by simpa using he
    have hans := hide (show (r1, r2, r3) = (0, 0, cer L) by rw [← unhide HR]; unfold rdq; rw [if_neg he])
    clear he
    go_wp2_with (first
      | (with_reducible show wpList Tryz.prog _ _ (Oper.mk _ (Op.store 166 _ _) _ _ _ none :: _) _ _; refine wpList_arrStore rfl (.tmp 9) (.tmp 13) rfl w1.heap.size (ctd L) zero16 rfl rfl a2 (ctd_len L) zero16_len ?_; intro w3 a3 o3 s3 b3)
      | (with_reducible show wpList Tryz.prog _ _ (Oper.mk _ (Op.alloc 166) _ _ _ none :: _) _ _; refine wpList_arrAlloc rfl rfl ?_; intro w2 a2 b2 s2))
    go_ret3
    have ha := unhide hans
    simp only [Prod.mk.injEq] at ha
    obtain ⟨rfl, rfl, rfl⟩ := ha
    exact ⟨rfl, (b1.trans (b2.mono z1)).trans (b3.mono z1)⟩

theorem One.under {w w' : World} {g B : Nat} {t : TypeId} {v : Value} (h : One w g t v) (hb : Below B w w') (hg : g < B) : One w' g t v := by
  unfold One; rw [hb.block g hg]; exact h

end Go.Proofs.YtnoabdafmgmenaaGreatDoor
