/-
  What told of package sha returns: the words as bytes. Conditions: a hash of one of the two kinds.
-/
import Derived.Test.YtfnnafhifpolmaaDoorShaPad
namespace Go.Proofs.YtfnnafhifpolmaaDoor
open Go.RowKit
set_option linter.unusedVariables false
set_option linter.unusedSimpArgs false

theorem told_zero (W : List Int) : told 0 W = [] := rfl
theorem told_step (W : List Int) (j : Nat) (h : j < W.length) : told (j + 1) W = told j W ++ sm4 (ix W j) := by
  unfold told ix
  rw [List.take_add_one, List.flatMap_append, List.getElem?_eq_getElem h]
  simp
theorem told_len (W : List Int) : ∀ j, j ≤ W.length → (told j W).length = 4 * j
  | 0, _ => rfl
  | j + 1, h => by rw [told_step W j (by omega), List.length_append, told_len W j (by omega)]; simp [sm4]; omega
theorem sm4_byt {x : Int} (h : Wd x) : Byt (sm4 x) := by
  obtain ⟨h0, h1⟩ := h
  intro y hy
  simp only [sm4, List.mem_cons, List.not_mem_nil, or_false] at hy
  omega
/-- The four bytes that are laid for 'append'. -/
theorem Bs.four (w : World) (x : Int) (h : Wd x) : Bs (w.alloc (.cells #[.int .u8 (x / 16777216), .int .u8 (x / 65536 % 256), .int .u8 (x / 256 % 256), .int .u8 (x % 256)] 5)) (some ⟨w.heap.size, 0, none⟩) 4 4 (sm4 x) :=
  Bs.lit w (sm4 x) (sm4_byt h) (by simp [sm4])

def OutB (w : World) (l : List Int) (e : Ending) (w' : World) : Prop :=
  ∃ ao n c, e = .returned (.slice ao n c) ∧ Mine w.heap.size w' ao n c l ∧ Below w.heap.size w w'

set_option maxHeartbeats 2000000 in
theorem told_any (g : Nat) (k : Int) (W R : List Int) (q : Int) (w : World) (h : Hs w g k W R q) (hk : k = 1 ∨ k = 2) (hW : Wds W) :
    Calls Tryd.prog 45 #[.pointer (some ⟨g, 0, none⟩)] w fun e w' => OutB w (told (nk k) W) e w' := by
  have kc := h.kind
  have H := hide h
  have HW := hide hW
  have hlt := h.lt
  clear h hW
  rcases hk with rfl | rfl
  · go_enter Tryd.func45, Tryd.ntmps45
    go_wp2_with (first
      | (at_make; refine wpList_mk rfl _ _ rfl _ _ _ 20 rfl rfl (by omega) (by omega) ?_; intro w1 m1 b1 z1))
    go_loopw [21, 4] (fun i v ws => ∃ (j : Nat) (ao : Option Addr) (c : Nat), j ≤ 5 ∧ i = .int .i64 j ∧ v = .slice ao (4 * j) c ∧ Mine w.heap.size ws ao (4 * j) c (told j W) ∧ Below w.heap.size w ws) (fun i _ _ => 5 - (intOf i).toNat)
    case atStart => exact ⟨0, _, _, by omega, rfl, rfl, m1, b1⟩
    case round =>
      clear m1 b1 z1
      obtain ⟨j, ao, c, hj, rfl, rfl, hM, hB⟩ := hrel
      by_cases hlt2 : j < 5
      · have hH := (unhide H).keep (hB.block g hlt)
        have cw := hH.word (i := j) (by omega)
        have hts := hide (told_step W j (by rw [hH.wl]; omega))
        have hsm := hide (show ix W j = ix W j from rfl)
        have hWd := (unhide HW) j
        obtain ⟨x0, x1⟩ := hWd
        have hxw : Wd (ix W j) := ⟨x0, x1⟩
        have HXW := hide hxw
        generalize ix W j = X at *
        have hBs := hB.size
        have ij : 0 ≤ (j : Int) ∧ (j : Int) < 5 := by omega
        have HM := hide hM
        have HBl := hide hB
        clear hM hB hsm hxw hH
        go_wp2_with (first
          | (at_builtin; refine wpList_app rfl (.tmp 25) (.tmp 37) rfl w.heap.size ao (4 * j) c _ rfl ((unhide HM).later (below_alloc wr _)) _ 4 4 _ rfl (Bs.four wr X (unhide HXW)) (by omega) (by simp <;> omega) ?_; intro ao2 c2 w2 m2 b2; have M2 := hide m2; have B2 := hide (((unhide HBl).trans ((below_alloc wr _).mono hBs)).trans b2); clear m2 b2))
        go_roundw
        case rel =>
          refine ⟨j + 1, ao2, c2, by omega, by go_num, rfl, ?_, unhide B2⟩
          have := unhide M2
          rw [← unhide hts] at this
          exact this
        case measure => simp [intOf]; omega
      · have hj5 : j = 5 := by omega
        subst hj5
        have HM := hide hM
        have HBl := hide hB
        clear hM hB
        go_wp2_with fail
        go_ret
        exact ⟨ao, _, c, rfl, unhide HM, unhide HBl⟩
  · go_enter Tryd.func45, Tryd.ntmps45
    go_wp2_with (first
      | (at_make; refine wpList_mk rfl _ _ rfl _ _ _ 32 rfl rfl (by omega) (by omega) ?_; intro w1 m1 b1 z1))
    go_loopw [21, 4] (fun i v ws => ∃ (j : Nat) (ao : Option Addr) (c : Nat), j ≤ 8 ∧ i = .int .i64 j ∧ v = .slice ao (4 * j) c ∧ Mine w.heap.size ws ao (4 * j) c (told j W) ∧ Below w.heap.size w ws) (fun i _ _ => 8 - (intOf i).toNat)
    case atStart => exact ⟨0, _, _, by omega, rfl, rfl, m1, b1⟩
    case round =>
      clear m1 b1 z1
      obtain ⟨j, ao, c, hj, rfl, rfl, hM, hB⟩ := hrel
      by_cases hlt2 : j < 8
      · have hH := (unhide H).keep (hB.block g hlt)
        have cw := hH.word (i := j) (by omega)
        have hts := hide (told_step W j (by rw [hH.wl]; omega))
        have hsm := hide (show ix W j = ix W j from rfl)
        have hWd := (unhide HW) j
        obtain ⟨x0, x1⟩ := hWd
        have hxw : Wd (ix W j) := ⟨x0, x1⟩
        have HXW := hide hxw
        generalize ix W j = X at *
        have hBs := hB.size
        have ij : 0 ≤ (j : Int) ∧ (j : Int) < 8 := by omega
        have HM := hide hM
        have HBl := hide hB
        clear hM hB hsm hxw hH
        go_wp2_with (first
          | (at_builtin; refine wpList_app rfl (.tmp 25) (.tmp 37) rfl w.heap.size ao (4 * j) c _ rfl ((unhide HM).later (below_alloc wr _)) _ 4 4 _ rfl (Bs.four wr X (unhide HXW)) (by omega) (by simp <;> omega) ?_; intro ao2 c2 w2 m2 b2; have M2 := hide m2; have B2 := hide (((unhide HBl).trans ((below_alloc wr _).mono hBs)).trans b2); clear m2 b2))
        go_roundw
        case rel =>
          refine ⟨j + 1, ao2, c2, by omega, by go_num, rfl, ?_, unhide B2⟩
          have := unhide M2
          rw [← unhide hts] at this
          exact this
        case measure => simp [intOf]; omega
      · have hj5 : j = 8 := by omega
        subst hj5
        have HM := hide hM
        have HBl := hide hB
        clear hM hB
        go_wp2_with fail
        go_ret
        exact ⟨ao, _, c, rfl, unhide HM, unhide HBl⟩

end Go.Proofs.YtfnnafhifpolmaaDoor
