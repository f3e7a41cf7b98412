/-
  What Fixed of layer 4's own answer returns: the lengths of the two fixed codes, in rows of the call's own. It writes nothing that was there.
-/
import Derived.Test.YtnoabdafmgmenaaGreatDoorHufRefCodes2
import Derived.Test.YtnoabdafmgmenaaGreatDoorMBit
import Derived.Test.YtnoabdafmgmenaaGreatDoorMMem
import Derived.Deep.OwnRows
import Derived.Deep.DeepCutAuto
namespace Go.Proofs.YtnoabdafmgmenaaGreatDoor
open Go.RowKit
set_option linter.unusedVariables false
set_option linter.unusedSimpArgs false

theorem imade (w : World) (B n : Nat) (hB : B ≤ w.heap.size) (hn : n ≤ 1000) : IMine B (w.alloc (.cells (madeCells #[Value.int .i64 0] n) 3)) (some ⟨w.heap.size, 0, none⟩) n n (List.replicate n 0) := by
  refine ⟨by simp, ⟨by simp, .inr ⟨w.heap.size, n, madeCells #[Value.int .i64 0] n, rfl, hB, heap_alloc_new w _, Nat.le_refl _, by unfold maxLen; omega, by simp [size_madeCells], ?_⟩⟩, fun x hx => by have := List.eq_of_mem_replicate hx; omega⟩
  rw [toList_madeCells_one]
  simp
theorem IMine.keep1 {B : Nat} {w w' : World} {g n c : Nat} {xs : List Int} (h : IMine B w (some ⟨g, 0, none⟩) n c xs) (hk : w'.heap[g]? = w.heap[g]?) : IMine B w' (some ⟨g, 0, none⟩) n c xs := by
  refine ⟨h.len, ⟨h.own.1, ?_⟩, h.fit⟩
  rcases h.own.2 with hv | ⟨g', cap, cur, hv, hg, hh, r⟩
  · exact .inl hv
  · have hv2 := hv
    simp only [Value.slice.injEq, Option.some.injEq, Addr.mk.injEq, and_true] at hv2
    obtain ⟨rfl, _⟩ := hv2
    exact .inr ⟨g, cap, cur, hv, hg, by rw [hk]; exact hh, r⟩

/-- A list laid up to i, noughts behind. -/
def upT (L : List Int) (i : Nat) : List Int := (List.range L.length).map fun j => if j < i then L[j]?.getD 0 else 0
theorem upT_zero (L : List Int) : upT L 0 = List.replicate L.length 0 := by
  apply List.ext_getElem (by simp [upT])
  intro j h1 h2
  simp [upT]
theorem upT_end (L : List Int) {i : Nat} (h : L.length ≤ i) : upT L i = L := by
  apply List.ext_getElem (by simp [upT])
  intro j h1 h2
  simp only [upT, List.getElem_map, List.getElem_range]
  rw [if_pos (by omega), List.getElem?_eq_getElem h2]
  rfl
theorem upT_set (L : List Int) {i : Nat} (h : i < L.length) : (upT L i).set i (L[i]?.getD 0) = upT L (i + 1) := by
  apply List.ext_getElem (by simp [upT])
  intro j h1 h2
  rw [List.getElem_set]
  simp only [upT, List.getElem_map, List.getElem_range]
  by_cases hj : i = j
  · subst hj
    rw [if_pos rfl, if_pos (by omega)]
  · rw [if_neg hj]
    by_cases h3 : j < i
    · rw [if_pos h3, if_pos (by omega)]
    · rw [if_neg h3, if_neg (by omega)]
/-- What holds while the first list is laid. -/
structure Fst (w : World) (lB dB : Nat) (W : World) (xs : List Int) : Prop where
  l : IMine w.heap.size W (some ⟨lB, 0, none⟩) 288 288 xs
  d : IMine w.heap.size W (some ⟨dB, 0, none⟩) 32 32 (upT fixD 0)
  b : Below w.heap.size w W
theorem Fst.put {w W : World} {lB dB : Nat} {xs : List Int} (q : Fst w lB dB W xs) (i : Nat) (v : Int) (h0 : 0 ≤ v) (h1 : v ≤ 9) (hne : lB ≠ dB) : Fst w lB dB (W.setCell ⟨lB, i, none⟩ (.int .i64 v)) (xs.set i v) :=
  ⟨q.l.stored i v (by omega) (by omega), q.d.keep1 (heap_setCell_other W ⟨lB, i, none⟩ dB _ (by simp; omega)), q.b.setCell q.l.block.1 _⟩
theorem fixL_at (i : Nat) (hi : i < 288) : fixL[i]?.getD 0 = if 280 ≤ i then 8 else if 256 ≤ i then 7 else if 144 ≤ i then 9 else 8 := by
  have h : (List.range 288).all (fun i => decide (fixL[i]?.getD 0 = if 280 ≤ i then 8 else if 256 ≤ i then 7 else if 144 ≤ i then 9 else 8)) = true := by kernel_rfl
  have := List.all_eq_true.1 h i (by simpa using hi)
  simpa using this

set_option maxHeartbeats 4000000 in
set_option maxRecDepth 20000 in
theorem fixed_rd (w : World) :
    Calls Tryz.prog 60 #[] w fun e w' => ∃ lo lc d dc, e = .returned (.tuple #[.slice lo 288 lc, .slice d 32 dc]) ∧ IMine w.heap.size w' lo 288 lc fixL ∧ IMine w.heap.size w' d 32 dc fixD ∧ Below w.heap.size w w' := by
  have m1 : ∀ wx : World, (Instr.makeSlice 96 (.int .i64 288) (.int .i64 288)).run Tryz.prog wx = .ok (.slice (some ⟨wx.heap.size, 0, none⟩) 288 288) (wx.alloc (.cells (madeCells #[Value.int .i64 0] 288) 3)) :=
    fun wx => run_make_row' (P := Tryz.prog) 96 3 (.int .i64 0) 8 Tryz.underlying96 Tryz.infoInt rfl .i64 .i64 288 (by omega) (by omega) wx
  have m2 : ∀ wx : World, (Instr.makeSlice 96 (.int .i64 32) (.int .i64 32)).run Tryz.prog wx = .ok (.slice (some ⟨wx.heap.size, 0, none⟩) 32 32) (wx.alloc (.cells (madeCells #[Value.int .i64 0] 32) 3)) :=
    fun wx => run_make_row' (P := Tryz.prog) 96 3 (.int .i64 0) 8 Tryz.underlying96 Tryz.infoInt rfl .i64 .i64 32 (by omega) (by omega) wx
  have i1 := hide (fun (wx : World) (h : w.heap.size ≤ wx.heap.size) => imade wx w.heap.size 288 h (by omega))
  have i2 := hide (fun (wx : World) (h : w.heap.size ≤ wx.heap.size) => imade wx w.heap.size 32 h (by omega))
  have uz1 := hide (upT_zero fixL)
  have uz2 := hide (upT_zero fixD)
  rw [fixL_len] at uz1
  rw [fixD_len] at uz2
  generalize madeCells #[Value.int .i64 0] 288 = M1 at *
  generalize madeCells #[Value.int .i64 0] 32 = M2 at *
  go_enter Tryz.func60, Tryz.ntmps60
  go_wp2_with fail
  go_cut [2, 3] (fun l d wx => ∃ lB dB : Nat, l = .slice (some ⟨lB, 0, none⟩) 288 288 ∧ d = .slice (some ⟨dB, 0, none⟩) 32 32 ∧ lB ≠ dB ∧ IMine w.heap.size wx (some ⟨lB, 0, none⟩) 288 288 (upT fixL 0) ∧ IMine w.heap.size wx (some ⟨dB, 0, none⟩) 32 32 (upT fixD 0) ∧ Below w.heap.size w wx)
  case first =>
    go_region
    all_goals go_wp2_with fail
    all_goals go_meet
    focus
      have s1 : (w.alloc (.cells M1 3)).heap.size = w.heap.size + 1 := by simp
      have x1 := (((unhide i1) w (Nat.le_refl _)).later (below_alloc (w.alloc (.cells M1 3)) (.cells M2 3))).later (below_drew _)
      have x2 := ((unhide i2) (w.alloc (.cells M1 3)) (by omega)).later (below_drew _)
      rw [s1] at x2
      rw [← unhide uz1] at x1
      rw [← unhide uz2] at x2
      exact ⟨_, _, rfl, rfl, by omega, x1, x2, ((below_alloc w _).trans ((below_alloc (w.alloc (.cells M1 3)) _).mono (by omega))).drew⟩
    focus
      have s1 : (w.alloc (.cells M2 3)).heap.size = w.heap.size + 1 := by simp
      have x1 := (((unhide i2) w (Nat.le_refl _)).later (below_alloc (w.alloc (.cells M2 3)) (.cells M1 3))).later (below_drew _)
      have x2 := ((unhide i1) (w.alloc (.cells M2 3)) (by omega)).later (below_drew _)
      rw [s1] at x2
      rw [← unhide uz2] at x1
      rw [← unhide uz1] at x2
      exact ⟨_, _, rfl, rfl, by omega, x2, x1, ((below_alloc w _).trans ((below_alloc (w.alloc (.cells M2 3)) _).mono (by omega))).drew⟩
  case rest =>
    clear m1 m2 i1 i2 uz1 uz2
    obtain ⟨lB, dB, rfl, rfl, hne, ml, md, bw⟩ := hcut
    have ML := hide ml
    have MD := hide md
    have BW := hide bw
    clear ml md bw
    go_wp2_with fail
    go_loopw [4] (fun k wr' => ∃ i : Nat, i ≤ 288 ∧ k = .int .i64 (i : Int) ∧ IMine w.heap.size wr' (some ⟨lB, 0, none⟩) 288 288 (upT fixL i) ∧ IMine w.heap.size wr' (some ⟨dB, 0, none⟩) 32 32 (upT fixD 0) ∧ Below w.heap.size w wr') (fun k _ => 288 - (intOf k).toNat)
    case atStart => exact ⟨0, by omega, rfl, unhide ML, unhide MD, unhide BW⟩
    case round =>
      clear ML MD BW
      obtain ⟨i, hi, rfl, ml, md, bw⟩ := hrel
      have lblk := ml.block
      by_cases hlt : i < 288
      · have hlt' : (i : Int) < 288 := by omega
        have hix := ihd w lB 288 288 hlt (i : Int) rfl
        have cc := imine_cell ml hlt
        have fr := ml.free i
        have key := hide (fun (W : World) (xs : List Int) (v : Int) (hv0 : 0 ≤ v) (hv1 : v ≤ 9) (q : Fst w lB dB W xs) => q.put i v hv0 hv1 hne)
        have q0 : Fst w lB dB wr (upT fixL i) := ⟨ml, md, bw⟩
        have q1 := unhide key _ _ 8 (by omega) (by omega) q0
        have q2 := unhide key _ _ 9 (by omega) (by omega) q1
        have q3 := unhide key _ _ 7 (by omega) (by omega) q2
        have f3 := q3.l.free i
        have e3 := imine_cell q3.l hlt
        rw [List.set_set] at q2
        have q4 := unhide key _ _ 8 (by omega) (by omega) q3
        rw [List.set_set, List.set_set] at q3
        rw [List.set_set, List.set_set, List.set_set] at q4
        have hset := hide (upT_set fixL (show i < fixL.length by rw [fixL_len]; exact hlt))
        have Q1 := hide q1
        have Q2 := hide q2
        have Q3 := hide q3
        have Q4 := hide q4
        have hat := hide (fixL_at i hlt)
        clear ml md bw q0 q1 q2 q3 q4
        generalize (upT fixL i)[i]?.getD 0 = V0 at *
        generalize ((((upT fixL i).set i 8).set i 9).set i 7)[i]?.getD 0 = V3 at *
        by_cases c1 : 144 ≤ i
        · have c1' : (144 : Int) ≤ (i : Int) := by omega
          by_cases c2 : 256 ≤ i
          · have c2' : (256 : Int) ≤ (i : Int) := by omega
            by_cases c3 : 280 ≤ i
            · have c3' : (280 : Int) ≤ (i : Int) := by omega
              have fin := hide (unhide Q4)
              have ee := unhide hset
              rw [unhide hat, if_pos c3] at ee
              rw [ee] at fin
              clear ee
              go_wp2_with fail
              go_roundw
              case rel => exact ⟨i + 1, by omega, by go_num, (unhide fin).l, (unhide fin).d, (unhide fin).b⟩
              case measure => simp [intOf]; omega
            · have c3' : ¬ (280 : Int) ≤ (i : Int) := by omega
              have fin := hide (unhide Q3)
              have ee := unhide hset
              rw [unhide hat, if_neg c3, if_pos c2] at ee
              rw [ee] at fin
              clear ee
              go_wp2_with fail
              go_roundw
              case rel => exact ⟨i + 1, by omega, by go_num, (unhide fin).l, (unhide fin).d, (unhide fin).b⟩
              case measure => simp [intOf]; omega
          · have c2' : ¬ (256 : Int) ≤ (i : Int) := by omega
            have c3' : ¬ (280 : Int) ≤ (i : Int) := by omega
            have fin := hide (unhide Q2)
            have ee := unhide hset
            rw [unhide hat, if_neg (by omega), if_neg c2, if_pos c1] at ee
            rw [ee] at fin
            clear ee
            go_wp2_with fail
            go_roundw
            case rel => exact ⟨i + 1, by omega, by go_num, (unhide fin).l, (unhide fin).d, (unhide fin).b⟩
            case measure => simp [intOf]; omega
        · have c1' : ¬ (144 : Int) ≤ (i : Int) := by omega
          have c2' : ¬ (256 : Int) ≤ (i : Int) := by omega
          have c3' : ¬ (280 : Int) ≤ (i : Int) := by omega
          have fin := hide (unhide Q1)
          have ee := unhide hset
          rw [unhide hat, if_neg (by omega), if_neg (by omega), if_neg c1] at ee
          rw [ee] at fin
          clear ee
          go_wp2_with fail
          go_roundw
          case rel => exact ⟨i + 1, by omega, by go_num, (unhide fin).l, (unhide fin).d, (unhide fin).b⟩
          case measure => simp [intOf]; omega
      · have hlt' : ¬ (i : Int) < 288 := by omega
        have ML := hide (show IMine w.heap.size wr (some ⟨lB, 0, none⟩) 288 288 fixL by rw [← upT_end fixL (i := i) (by rw [fixL_len]; omega)]; exact ml)
        have MD := hide md
        have BW := hide bw
        clear ml md bw
        go_wp2_with fail
        go_loopw [5] (fun k wr' => ∃ i : Nat, i ≤ 32 ∧ k = .int .i64 (i : Int) ∧ IMine w.heap.size wr' (some ⟨lB, 0, none⟩) 288 288 fixL ∧ IMine w.heap.size wr' (some ⟨dB, 0, none⟩) 32 32 (upT fixD i) ∧ Below w.heap.size w wr') (fun k _ => 32 - (intOf k).toNat)
        case atStart => exact ⟨0, by omega, rfl, unhide ML, unhide MD, unhide BW⟩
        case round =>
          clear ML MD BW
          obtain ⟨j, hj, rfl, ml, md, bw⟩ := hrel
          have dblk := md.block
          by_cases hlj : j < 32
          · have hlj' : (j : Int) < 32 := by omega
            have hix := ihd w dB 32 32 hlj (j : Int) rfl
            have cc := imine_cell md hlj
            have fr := md.free j
            have he : fixD[j]?.getD 0 = 5 := ln_fixD j hlj
            have fin := hide (show IMine w.heap.size (wr.setCell ⟨dB, j, none⟩ (.int .i64 5)) (some ⟨lB, 0, none⟩) 288 288 fixL ∧ IMine w.heap.size (wr.setCell ⟨dB, j, none⟩ (.int .i64 5)) (some ⟨dB, 0, none⟩) 32 32 (upT fixD (j + 1)) ∧ Below w.heap.size w (wr.setCell ⟨dB, j, none⟩ (.int .i64 5)) from
              ⟨ml.keep1 (heap_setCell_other wr ⟨dB, j, none⟩ lB _ (by simp; omega)), by rw [← upT_set fixD (show j < fixD.length by rw [fixD_len]; exact hlj), he]; exact md.stored j 5 (by omega) (by omega), bw.setCell dblk.1 _⟩)
            clear ml md bw he
            generalize (upT fixD j)[j]?.getD 0 = V0 at *
            go_wp2_with fail
            go_roundw
            case rel => exact ⟨j + 1, by omega, by go_num, (unhide fin).1, (unhide fin).2.1, (unhide fin).2.2⟩
            case measure => simp [intOf]; omega
          · have hlj' : ¬ (j : Int) < 32 := by omega
            have MD := hide (show IMine w.heap.size wr (some ⟨dB, 0, none⟩) 32 32 fixD by rw [← upT_end fixD (i := j) (by rw [fixD_len]; omega)]; exact md)
            have ML := hide ml
            have BW := hide bw
            clear ml md bw
            go_wp2_with fail
            go_ret2
            exact ⟨_, _, _, _, rfl, unhide ML, unhide MD, unhide BW⟩
end Go.Proofs.YtnoabdafmgmenaaGreatDoor
