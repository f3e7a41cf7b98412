/-
  What slices.Concat of three slices of bytes returns: new memory, with all their bytes. It writes nothing that was there. Conditions: each has at most 200,000 bytes.
-/
import Derived.Test.YtfgghgoonfamkaaGpCat
namespace Go.Proofs.Ytfgghgoonfamkaa
open Go.RowKit
set_option linter.unusedVariables false
set_option linter.unusedSimpArgs false

def tri (xs ys zs : List Int) : Nat → List Int
  | 0 => []
  | 1 => xs
  | 2 => xs ++ ys
  | _ => xs ++ ys ++ zs
def triN (n m l : Nat) : Nat → Nat
  | 0 => 0
  | 1 => n
  | 2 => n + m
  | _ => n + m + l

set_option maxHeartbeats 2000000 in
theorem concat3_any (g : Nat) (ao : Option Addr) (n c : Nat) (xs : List Int) (bo : Option Addr) (m d : Nat) (ys : List Int) (co : Option Addr) (l f : Nat) (zs : List Int) (w : World) (h : Bs w ao n c xs) (k : Bs w bo m d ys) (kz : Bs w co l f zs) (c0 : w.cell? ⟨g, 0, none⟩ = some (.slice ao n c)) (c1 : w.cell? ⟨g, 1, none⟩ = some (.slice bo m d)) (c2 : w.cell? ⟨g, 2, none⟩ = some (.slice co l f)) (hn : n ≤ 200000) (hm : m ≤ 200000) (hl : l ≤ 200000) :
    Calls Try.prog 20 #[.slice (some ⟨g, 0, none⟩) 3 3] w fun e w' => ∃ ao n c, e = .returned (.slice ao n c) ∧ Mine w.heap.size w' ao n c (xs ++ ys ++ zs) ∧ Below w.heap.size w w' := by
  have H := hide h
  have K := hide k
  have KZ := hide kz
  have hg := World.block_lt_of_cell? w _ c0
  simp only at hg
  have gc := hide (grow_any (n + m + l) ((n : Int) + (m : Int) + (l : Int)) (by omega) w (by omega))
  have hle := h.le
  have kle := k.le
  have zle := kz.le
  have hmx := h.max
  have kmx := k.max
  have zmx := kz.max
  clear h k kz
  go_enter Try.func20, Try.ntmps20
  go_wp2_with fail
  go_loop [11, 3] (fun i s => ∃ (j : Nat), j ≤ 3 ∧ i = .int .i64 (j : Int) ∧ s = .int .i64 (triN n m l j : Nat)) (fun i _ => 3 - (intOf i).toNat)
  case atStart => exact ⟨0, by omega, rfl, rfl⟩
  case round =>
    obtain ⟨j, hj, rfl, rfl⟩ := hrel
    rcases (show j = 0 ∨ j = 1 ∨ j = 2 ∨ j = 3 by omega) with rfl | rfl | rfl | rfl
    · simp only [triN]
      go_wp2_with fail
      go_round
      case rel => exact ⟨1, by omega, rfl, by simp [triN]⟩
      case measure => simp [intOf]
    · simp only [triN]
      go_wp2_with fail
      go_round
      case rel => exact ⟨2, by omega, rfl, by simp [triN]⟩
      case measure => simp [intOf]
    · simp only [triN]
      go_wp2_with fail
      go_round
      case rel => exact ⟨3, by omega, rfl, by simp [triN]⟩
      case measure => simp [intOf]
    · simp only [triN]
      have C0 := hide c0
      have C1 := hide c1
      have C2 := hide c2
      clear c0 c1 c2
      go_wp2_with fail
      refine (unhide gc).mono ?_
      rintro e w1 ⟨ga1, cc1, rfl, m1, b1⟩
      have M1 := hide m1
      have B1 := hide b1
      clear m1 b1 gc
      go_wp2_with fail
      go_loopw [27, 6] (fun i v ws => ∃ (j : Nat) (xo : Option Addr) (xc : Nat), j ≤ 3 ∧ i = .int .i64 (j : Int) ∧ v = .slice xo (triN n m l j) xc ∧ Mine w.heap.size ws xo (triN n m l j) xc (tri xs ys zs j) ∧ Below w.heap.size w ws) (fun i _ _ => 3 - (intOf i).toNat)
      case atStart => exact ⟨0, _, _, by omega, rfl, rfl, unhide M1, unhide B1⟩
      case round =>
        clear M1 B1
        obtain ⟨j, xo, xc, hj, rfl, rfl, hM, hB⟩ := hrel
        have q0 : wr.cell? ⟨g, 0, none⟩ = some (.slice ao n c) := (hB.cell (p := ⟨g, 0, none⟩) hg).trans (unhide C0)
        have q1 : wr.cell? ⟨g, 1, none⟩ = some (.slice bo m d) := (hB.cell (p := ⟨g, 1, none⟩) hg).trans (unhide C1)
        have q2 : wr.cell? ⟨g, 2, none⟩ = some (.slice co l f) := (hB.cell (p := ⟨g, 2, none⟩) hg).trans (unhide C2)
        have hBs := hB.size
        have HM := hide hM
        have HB := hide hB
        have HX := hide ((unhide H).later hB)
        have HY := hide ((unhide K).later hB)
        have HZ := hide ((unhide KZ).later hB)
        clear hM hB
        rcases (show j = 0 ∨ j = 1 ∨ j = 2 ∨ j = 3 by omega) with rfl | rfl | rfl | rfl
        · simp only [triN, tri] at HM ⊢
          go_wp2_with (at_builtin; refine wpList_app rfl (.tmp 31) (.tmp 32) rfl w.heap.size _ _ _ _ rfl (unhide HM) _ _ _ _ rfl (unhide HX) (by omega) hBs ?_; intro a3 c3 w3 m3 b3; have M3 := hide m3; have B3 := hide ((unhide HB).trans b3); clear m3 b3)
          go_roundw
          case rel =>
            have := unhide M3
            rw [Nat.zero_add, List.nil_append] at this
            exact ⟨1, a3, c3, by omega, rfl, by simp [triN], this, unhide B3⟩
          case measure => simp [intOf]
        · simp only [triN, tri] at HM ⊢
          go_wp2_with (at_builtin; refine wpList_app rfl (.tmp 31) (.tmp 32) rfl w.heap.size _ _ _ _ rfl (unhide HM) _ _ _ _ rfl (unhide HY) (by omega) hBs ?_; intro a3 c3 w3 m3 b3; have M3 := hide m3; have B3 := hide ((unhide HB).trans b3); clear m3 b3)
          go_roundw
          case rel => exact ⟨2, a3, c3, by omega, rfl, rfl, unhide M3, unhide B3⟩
          case measure => simp [intOf]
        · simp only [triN, tri] at HM ⊢
          go_wp2_with (at_builtin; refine wpList_app rfl (.tmp 31) (.tmp 32) rfl w.heap.size _ _ _ _ rfl (unhide HM) _ _ _ _ rfl (unhide HZ) (by omega) hBs ?_; intro a3 c3 w3 m3 b3; have M3 := hide m3; have B3 := hide ((unhide HB).trans b3); clear m3 b3)
          go_roundw
          case rel => exact ⟨3, a3, c3, by omega, rfl, rfl, unhide M3, unhide B3⟩
          case measure => simp [intOf]
        · simp only [triN, tri] at HM ⊢
          go_wp2_with fail
          go_ret
          exact ⟨_, _, _, rfl, unhide HM, unhide HB⟩

end Go.Proofs.Ytfgghgoonfamkaa
