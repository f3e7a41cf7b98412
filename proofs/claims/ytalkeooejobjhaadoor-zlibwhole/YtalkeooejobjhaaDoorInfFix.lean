/-
  What times and Fixed, of package inflate, answer. They write nothing that was there.
-/
import Derived.Test.YtalkeooejobjhaaDoorMMem
import Derived.Test.YtalkeooejobjhaaDoorMPlain
namespace Go.Proofs.YtalkeooejobjhaaDoor
open Go.RowKit
set_option linter.unusedVariables false
set_option linter.unusedSimpArgs false

set_option maxHeartbeats 1000000 in
theorem times_any (B : Nat) (ao : Option Addr) (n c : Nat) (a : List Int) (x : Int) (k : Nat) (w : World) (hB : B ≤ w.heap.size) (hm : IMine B w ao n c a) (hn : n ≤ 1000000) (hk : k ≤ 1000) (x0 : 0 ≤ x) (x1 : x ≤ 1000) (K : Int) (hK : K = (k : Int)) :
    Calls Tryd.prog 50 #[.slice ao n c, .int .i64 x, .int .i64 K] w fun e w' => ∃ ao' c', e = .returned (.slice ao' (n + k) c') ∧ IMine B w' ao' (n + k) c' (a ++ List.replicate k x) ∧ Below B w w' := by
  subst hK
  have HM := hide hm
  clear hm
  go_enter Tryd.func50, Tryd.ntmps50
  go_wp2_with fail
  go_loopw [0, 8] (fun v i wr => ∃ (j : Nat) (ao' : Option Addr) (c' : Nat), j ≤ k ∧ i = .int .i64 (j : Int) ∧ v = .slice ao' (n + j) c' ∧ IMine B wr ao' (n + j) c' (a ++ List.replicate j x) ∧ Below B w wr) (fun _ i _ => k - (intOf i).toNat)
  case atStart => exact ⟨0, ao, c, by omega, rfl, rfl, by simpa using unhide HM, Below.refl _ _⟩
  case round =>
    obtain ⟨j, ao', c', hj, rfl, rfl, hm, hb⟩ := hrel
    by_cases hlt : j < k
    · have hlt' : (j : Int) < (k : Int) := by omega
      have hsz := hb.size
      have hB2 : B ≤ (wr.alloc (.cells #[.int .i64 x] 3)).heap.size := by simp; omega
      have hm2 := hide (hm.later (below_alloc wr (.cells #[.int .i64 x] 3)))
      have hone := hide (Is.one wr x (by omega) (by omega))
      clear hm
      go_wp2_with (at_builtin; refine wpList_iapp rfl (.tmp 10) (.tmp 12) rfl B _ _ _ _ rfl (unhide hm2) _ 1 1 [x] rfl (unhide hone) (by omega) hB2 ?_; intro ao1 c1 w1 hm1 hb1)
      go_roundw
      case rel =>
        refine ⟨j + 1, ao1, c1, by omega, by go_num, rfl, ?_, ?_⟩
        · rw [List.replicate_succ', ← List.append_assoc]
          exact hm1
        · exact (hb.trans ((below_alloc wr _).mono (by omega))).trans hb1
      case measure => simp [intOf]; omega
    · have hkn : j = k := by omega
      subst hkn
      go_wp2_with fail
      go_ret
      exact ⟨ao', c', rfl, hm, hb⟩

set_option maxHeartbeats 1000000 in
theorem fixed_any (w : World) :
    Calls Tryd.prog 30 #[] w fun e w' => ∃ lo lc d dc B, e = .returned (.tuple #[.slice lo 288 lc, .slice d 32 dc]) ∧ w.heap.size ≤ B ∧ IMine w.heap.size w' lo 288 lc fixL ∧ IMine B w' d 32 dc fixD ∧ Below w.heap.size w w' := by
  go_enter Tryd.func30, Tryd.ntmps30
  go_wp2_with fail
  refine (times_any w.heap.size .none 0 0 [] 8 144 w (Nat.le_refl _) (IMine.nought _ _) (by omega) (by omega) (by omega) (by omega) 144 rfl).mono ?_
  rintro e w1 ⟨a1, c1, rfl, m1, b1⟩
  have t2 := hide (times_any w.heap.size a1 144 c1 (List.replicate 144 8) 9 112 w1 b1.size m1 (by omega) (by omega) (by omega) (by omega) 112 rfl)
  clear m1
  go_wp2_with fail
  refine (unhide t2).mono ?_
  rintro e w2 ⟨a2, c2, rfl, m2, b2⟩
  have bb2 := b1.trans b2
  have t3 := hide (times_any w.heap.size a2 256 c2 (List.replicate 144 8 ++ List.replicate 112 9) 7 24 w2 bb2.size m2 (by omega) (by omega) (by omega) (by omega) 24 rfl)
  clear m2
  go_wp2_with fail
  refine (unhide t3).mono ?_
  rintro e w3 ⟨a3, c3, rfl, m3, b3⟩
  have bb3 := bb2.trans b3
  have t4 := hide (times_any w.heap.size a3 280 c3 (List.replicate 144 8 ++ List.replicate 112 9 ++ List.replicate 24 7) 8 8 w3 bb3.size m3 (by omega) (by omega) (by omega) (by omega) 8 rfl)
  clear m3
  go_wp2_with fail
  refine (unhide t4).mono ?_
  rintro e w4 ⟨a4, c4, rfl, m4, b4⟩
  have bb4 := bb3.trans b4
  have M4 := hide (show IMine w.heap.size w4 a4 288 c4 fixL from m4)
  have t5 := hide (times_any w4.heap.size .none 0 0 [] 5 32 w4 (Nat.le_refl _) (IMine.nought _ _) (by omega) (by omega) (by omega) (by omega) 32 rfl)
  clear m4
  go_wp2_with fail
  refine (unhide t5).mono ?_
  rintro e w5 ⟨a5, c5, rfl, m5, b5⟩
  have M5 := hide (show IMine w4.heap.size w5 a5 32 c5 fixD from m5)
  clear m5
  go_wp2_with fail
  go_ret2
  exact ⟨a4, c4, a5, c5, w4.heap.size, rfl, bb4.size, (unhide M4).later b5, unhide M5, bb4.trans (b5.mono bb4.size)⟩

end Go.Proofs.YtalkeooejobjhaaDoor
