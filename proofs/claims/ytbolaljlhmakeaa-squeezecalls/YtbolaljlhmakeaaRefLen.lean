/-
  What Length and Distance, lengthOf and distanceOf of the document's own answer return: the spans of lengths and distances. They write nothing. Conditions: symbols, lengths and distances that may be.
-/
import Derived.Test.YtbolaljlhmakeaaMBit
import Derived.Test.YtbolaljlhmakeaaMMem
namespace Go.Proofs.Ytbolaljlhmakeaa
open Go.RowKit
set_option linter.unusedVariables false
set_option linter.unusedSimpArgs false

theorem len_ref_is : ∀ k : Nat, k < 28 → 8 ≤ k → lb k = 3 + (4 + (k - 4) % 4) * 2 ^ ((k - 4) / 4) ∧ lx k = (k - 4) / 4 := by decide
theorem lb_le : ∀ k : Nat, k < 28 → lb k ≤ 258 := by decide
theorem db_le : ∀ k : Nat, k < 30 → db k ≤ 30000 := by decide
theorem len_ref_low : ∀ k : Nat, k < 8 → lb k = k + 3 ∧ lx k = 0 := by decide
theorem dst_ref_is : ∀ k : Nat, k < 30 → 4 ≤ k → db k = 1 + (2 + k % 2) * 2 ^ ((k - 2) / 2) ∧ dx k = (k - 2) / 2 := by decide
theorem dst_ref_low : ∀ k : Nat, k < 4 → db k = k + 1 ∧ dx k = 0 := by decide

set_option maxHeartbeats 1000000 in
theorem length_ref (w : World) (k : Nat) (hk : k ≤ 28) (S : Int) (hS : S = 257 + (k : Int)) :
    Calls Try.prog 38 #[.int .i64 S] w fun e w' => e = .returned (.tuple #[.int .i64 (lb k : Int), .int .i64 (lx k : Int)]) ∧ w' = w := by
  by_cases h28 : k = 28
  · subst h28
    have e := hide (show lb 28 = 258 ∧ lx 28 = 0 by decide)
    have hS' : S = 285 := by omega
    subst hS'
    go_enter Try.func38, Try.ntmps38
    go_wp2_with fail
    go_ret2
    rw [(unhide e).1, (unhide e).2]
    exact ⟨rfl, rfl⟩
  · by_cases hlow : k < 8
    · have e := hide (len_ref_low k hlow)
      have hne : (S == 285) = false := by simp; omega
      have hlt : S < 265 := by omega
      have hS0 : 257 ≤ S := by omega
      have HS := hide hS
      clear hS
      go_enter Try.func38, Try.ntmps38
      go_wp2_with fail
      go_ret2
      rw [(unhide e).1, (unhide e).2]
      refine ⟨?_, rfl⟩
      rw [show S - 254 = ((k + 3 : Nat) : Int) by have := unhide HS; omega]
      rfl
    · have e := hide (len_ref_is k (by omega) (by omega))
      have hne : (S == 285) = false := by simp; omega
      have hlt : ¬ S < 265 := by omega
      obtain ⟨d, hd⟩ : ∃ d : Nat, d = k - 4 := ⟨_, rfl⟩
      rw [← hd] at e
      have hsd : S - 261 = (d : Int) := by omega
      have hd2 : 4 ≤ d ∧ d ≤ 23 := by omega
      have hS2 : 265 ≤ S ∧ S ≤ 284 := by omega
      obtain ⟨P, hP⟩ : ∃ P, P = (4 + d % 4) * 2 ^ (d / 4) := ⟨_, rfl⟩
      have hP1 : (4 + (d : Int) % 4) * 2 ^ (d / 4) = (P : Int) := by rw [hP]; simp
      have hP2 : P ≤ 255 := by have := lb_le k (by omega); have q := (unhide e).1; rw [← hP] at q; omega
      rw [← hP] at e
      clear hS hd h28 hlow hP
      go_enter Try.func38, Try.ntmps38
      go_wp2_with fail
      go_ret2
      rw [(unhide e).1, (unhide e).2]
      exact ⟨by simp, rfl⟩

set_option maxHeartbeats 1000000 in
theorem distance_ref (w : World) (k : Nat) (hk : k ≤ 29) (S : Int) (hS : S = (k : Int)) :
    Calls Try.prog 40 #[.int .i64 S] w fun e w' => e = .returned (.tuple #[.int .i64 (db k : Int), .int .i64 (dx k : Int)]) ∧ w' = w := by
  subst hS
  by_cases hlow : k < 4
  · have e := hide (dst_ref_low k hlow)
    have hlt : (k : Int) < 4 := by omega
    go_enter Try.func40, Try.ntmps40
    go_wp2_with fail
    go_ret2
    rw [(unhide e).1, (unhide e).2]
    exact ⟨by simp, rfl⟩
  · have e := hide (dst_ref_is k (by omega) (by omega))
    have hlt : ¬ (k : Int) < 4 := by omega
    obtain ⟨d, hd⟩ : ∃ d : Nat, d = k - 2 := ⟨_, rfl⟩
    rw [← hd] at e
    have hsd : (k : Int) - 2 = (d : Int) := by omega
    have hd2 : 2 ≤ d ∧ d ≤ 27 := by omega
    obtain ⟨P, hP⟩ : ∃ P, P = (2 + k % 2) * 2 ^ (d / 2) := ⟨_, rfl⟩
    have hP1 : (2 + (k : Int) % 2) * 2 ^ (d / 2) = (P : Int) := by rw [hP]; simp
    have hP2 : P ≤ 30000 := by have := db_le k (by omega); have q := (unhide e).1; rw [← hP] at q; omega
    rw [← hP] at e
    clear hd hlow hP
    go_enter Try.func40, Try.ntmps40
    go_wp2_with fail
    go_ret2
    rw [(unhide e).1, (unhide e).2]
    exact ⟨by simp, rfl⟩

set_option maxHeartbeats 1000000 in
theorem lengthOf_ref (w : World) (n : Nat) (h3 : 3 ≤ n) (h258 : n ≤ 258) (X : Int) (hX : X = (n : Int)) :
    Calls Try.prog 37 #[.int .i64 X] w fun e w' => e = .returned (.int .i64 ((257 + lix n : Nat) : Int)) ∧ w' = w := by
  subst hX
  by_cases he : n = 258
  · subst he
    have e := hide (show 257 + lix 258 = 285 by decide)
    rw [unhide e]
    go_enter Try.func37, Try.ntmps37
    go_wp2_with fail
    go_ret
    exact ⟨rfl, rfl⟩
  · have e := hide (show lix n = lst lenB n 27 by unfold lix; rw [if_neg he])
    have hne : ((n : Int) == 258) = false := by simp; omega
    clear he
    go_enter Try.func37, Try.ntmps37
    go_wp2_with fail
    go_loopw [3, 4] (fun s k wr => ∃ j v : Nat, j ≤ 27 ∧ k = .int .i64 ((258 + j : Nat) : Int) ∧ s = .int .i64 ((257 + v : Nat) : Int) ∧ v = lst lenB n j ∧ wr = w) (fun _ k _ => 285 - (intOf k).toNat)
    case atStart => exact ⟨0, 0, by omega, rfl, rfl, rfl, rfl⟩
    case round =>
      obtain ⟨j, v, hj, rfl, rfl, hv, rfl⟩ := hrel
      by_cases hlt : j < 27
      · have hlt' : ((258 + j : Nat) : Int) ≤ 284 := by omega
        have lc := hide (length_ref wr (j + 1) (by omega) ((258 + j : Nat) : Int) (by omega))
        have hnx := hide (show lst lenB n (j + 1) = if lb (j + 1) ≤ n then j + 1 else lst lenB n j from rfl)
        rw [← hv] at hnx
        have hlb := lb_le (j + 1) (by omega)
        obtain ⟨L, hL⟩ : ∃ L, L = lb (j + 1) := ⟨_, rfl⟩
        rw [← hL] at lc hnx hlb
        obtain ⟨K, hK⟩ : ∃ K : Nat, K = 258 + j := ⟨_, rfl⟩
        rw [← hK] at lc hlt' ⊢
        have HK := hide hK
        have hKb : 258 ≤ K ∧ K ≤ 284 := by omega
        have HV := hide hv
        clear hL hv hK
        by_cases hb : L ≤ n
        · have hb' : (L : Int) ≤ (n : Int) := by omega
          have hr := hide (show lst lenB n (j + 1) = j + 1 by rw [unhide hnx, if_pos hb])
          clear hnx
          go_wp2_with fail
          refine (unhide lc).mono ?_
          rintro e w1 ⟨rfl, rfl⟩
          go_wp2_with fail
          go_roundw
          case rel => exact ⟨j + 1, j + 1, by omega, by have := unhide HK; go_num, by have := unhide HK; go_num, (unhide hr).symm, (by first | rfl | trivial)⟩
          case measure => simp [intOf]; omega
        · have hb' : ¬ (L : Int) ≤ (n : Int) := by omega
          have hr := hide (show lst lenB n (j + 1) = v by rw [unhide hnx, if_neg hb])
          clear hnx
          go_wp2_with fail
          refine (unhide lc).mono ?_
          rintro e w1 ⟨rfl, rfl⟩
          go_wp2_with fail
          go_roundw
          case rel => exact ⟨j + 1, v, by omega, by have := unhide HK; go_num, rfl, (unhide hr).symm, (by first | rfl | trivial)⟩
          case measure => simp [intOf]; omega
      · have hj27 : j = 27 := by omega
        subst hj27
        have HV := hide hv
        clear hv
        go_wp2_with fail
        go_ret
        rw [unhide e, ← unhide HV]
        exact ⟨rfl, rfl⟩

set_option maxHeartbeats 1000000 in
theorem distanceOf_ref (w : World) (n : Nat) (hn : n ≤ 32768) (X : Int) (hX : X = (n : Int)) :
    Calls Try.prog 39 #[.int .i64 X] w fun e w' => e = .returned (.int .i64 (dix n : Int)) ∧ w' = w := by
  subst hX
  have e := hide (show dix n = lst dstB n 29 from rfl)
  go_enter Try.func39, Try.ntmps39
  go_wp2_with fail
  go_loopw [3, 4] (fun s k wr => ∃ j v : Nat, j ≤ 29 ∧ k = .int .i64 ((1 + j : Nat) : Int) ∧ s = .int .i64 (v : Int) ∧ v = lst dstB n j ∧ wr = w) (fun _ k _ => 30 - (intOf k).toNat)
  case atStart => exact ⟨0, 0, by omega, rfl, rfl, rfl, rfl⟩
  case round =>
    obtain ⟨j, v, hj, rfl, rfl, hv, rfl⟩ := hrel
    by_cases hlt : j < 29
    · have hlt' : ((1 + j : Nat) : Int) ≤ 29 := by omega
      have lc := hide (distance_ref wr (j + 1) (by omega) ((1 + j : Nat) : Int) (by omega))
      have hnx := hide (show lst dstB n (j + 1) = if db (j + 1) ≤ n then j + 1 else lst dstB n j from rfl)
      rw [← hv] at hnx
      have hlb := db_le (j + 1) (by omega)
      obtain ⟨L, hL⟩ : ∃ L, L = db (j + 1) := ⟨_, rfl⟩
      rw [← hL] at lc hnx hlb
      obtain ⟨K, hK⟩ : ∃ K : Nat, K = 1 + j := ⟨_, rfl⟩
      rw [← hK] at lc hlt' ⊢
      have HK := hide hK
      have hKb : 1 ≤ K ∧ K ≤ 29 := by omega
      clear hL hv hK
      by_cases hb : L ≤ n
      · have hb' : (L : Int) ≤ (n : Int) := by omega
        have hr := hide (show lst dstB n (j + 1) = j + 1 by rw [unhide hnx, if_pos hb])
        clear hnx
        go_wp2_with fail
        refine (unhide lc).mono ?_
        rintro e w1 ⟨rfl, rfl⟩
        go_wp2_with fail
        go_roundw
        case rel => exact ⟨j + 1, j + 1, by omega, by have := unhide HK; go_num, by have := unhide HK; go_num, (unhide hr).symm, (by first | rfl | trivial)⟩
        case measure => simp [intOf]; omega
      · have hb' : ¬ (L : Int) ≤ (n : Int) := by omega
        have hr := hide (show lst dstB n (j + 1) = v by rw [unhide hnx, if_neg hb])
        clear hnx
        go_wp2_with fail
        refine (unhide lc).mono ?_
        rintro e w1 ⟨rfl, rfl⟩
        go_wp2_with fail
        go_roundw
        case rel => exact ⟨j + 1, v, by omega, by have := unhide HK; go_num, rfl, (unhide hr).symm, (by first | rfl | trivial)⟩
        case measure => simp [intOf]; omega
    · have hj29 : j = 29 := by omega
      subst hj29
      have HV := hide hv
      clear hv
      go_wp2_with fail
      go_ret
      rw [unhide e, ← unhide HV]
      exact ⟨rfl, rfl⟩
end Go.Proofs.Ytbolaljlhmakeaa
