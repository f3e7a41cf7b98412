/-
  What slices.Concat of four slices of bytes returns: new memory, with all their bytes. It writes nothing that was there. Conditions: each has at most 200,000 bytes.
-/
import Derived.Test.YtfgghgoonfamkaaGpCat
namespace Go.Proofs.Ytfgghgoonfamkaa
open Go.RowKit
set_option linter.unusedVariables false
set_option linter.unusedSimpArgs false

def qd (x0 x1 x2 x3 : List Int) : Nat → List Int
  | 0 => []
  | 1 => x0
  | 2 => x0 ++ x1
  | 3 => x0 ++ x1 ++ x2
  | _ => x0 ++ x1 ++ x2 ++ x3
def qdN (n0 n1 n2 n3 : Nat) : Nat → Nat
  | 0 => 0
  | 1 => n0
  | 2 => n0 + n1
  | 3 => n0 + n1 + n2
  | _ => n0 + n1 + n2 + n3

set_option maxHeartbeats 2000000 in
theorem concat4_any (g : Nat) (a0 : Option Addr) (n0 c0 : Nat) (x0 : List Int) (a1 : Option Addr) (n1 c1 : Nat) (x1 : List Int) (a2 : Option Addr) (n2 c2 : Nat) (x2 : List Int) (a3 : Option Addr) (n3 c3 : Nat) (x3 : List Int) (w : World) (h0 : Bs w a0 n0 c0 x0) (h1 : Bs w a1 n1 c1 x1) (h2 : Bs w a2 n2 c2 x2) (h3 : Bs w a3 n3 c3 x3) (k0 : w.cell? ⟨g, 0, none⟩ = some (.slice a0 n0 c0)) (k1 : w.cell? ⟨g, 1, none⟩ = some (.slice a1 n1 c1)) (k2 : w.cell? ⟨g, 2, none⟩ = some (.slice a2 n2 c2)) (k3 : w.cell? ⟨g, 3, none⟩ = some (.slice a3 n3 c3)) (b0 : n0 ≤ 200000) (b1 : n1 ≤ 200000) (b2 : n2 ≤ 200000) (b3 : n3 ≤ 200000) :
    Calls Try.prog 20 #[.slice (some ⟨g, 0, none⟩) 4 4] w fun e w' => ∃ ao n c, e = .returned (.slice ao n c) ∧ Mine w.heap.size w' ao n c (x0 ++ x1 ++ x2 ++ x3) ∧ Below w.heap.size w w' := by
  have H0 := hide h0
  have H1 := hide h1
  have H2 := hide h2
  have H3 := hide h3
  have hg := World.block_lt_of_cell? w _ k0
  simp only at hg
  have gc := hide (grow_any (n0 + n1 + n2 + n3) ((n0 : Int) + (n1 : Int) + (n2 : Int) + (n3 : Int)) (by omega) w (by omega))
  have l0 := h0.le
  have m0 := h0.max
  have l1 := h1.le
  have m1 := h1.max
  have l2 := h2.le
  have m2 := h2.max
  have l3 := h3.le
  have m3 := h3.max
  clear h0 h1 h2 h3
  go_enter Try.func20, Try.ntmps20
  go_wp2_with fail
  go_loop [11, 3] (fun i s => ∃ (j : Nat), j ≤ 4 ∧ i = .int .i64 (j : Int) ∧ s = .int .i64 (qdN n0 n1 n2 n3 j : Nat)) (fun i _ => 4 - (intOf i).toNat)
  case atStart => exact ⟨0, by omega, rfl, rfl⟩
  case round =>
    obtain ⟨j, hj, rfl, rfl⟩ := hrel
    rcases (show j = 0 ∨ j = 1 ∨ j = 2 ∨ j = 3 ∨ j = 4 by omega) with rfl | rfl | rfl | rfl | rfl
    · simp only [qdN]
      go_wp2_with fail
      go_round
      case rel => exact ⟨1, by omega, rfl, by simp [qdN]⟩
      case measure => simp [intOf]
    · simp only [qdN]
      go_wp2_with fail
      go_round
      case rel => exact ⟨2, by omega, rfl, by simp [qdN]⟩
      case measure => simp [intOf]
    · simp only [qdN]
      go_wp2_with fail
      go_round
      case rel => exact ⟨3, by omega, rfl, by simp [qdN]⟩
      case measure => simp [intOf]
    · simp only [qdN]
      go_wp2_with fail
      go_round
      case rel => exact ⟨4, by omega, rfl, by simp [qdN]⟩
      case measure => simp [intOf]
    · simp only [qdN]
      have C0 := hide k0
      have C1 := hide k1
      have C2 := hide k2
      have C3 := hide k3
      clear k0 k1 k2 k3
      go_wp2_with fail
      refine (unhide gc).mono ?_
      rintro e w1 ⟨ga1, cc1, rfl, m1, b1⟩
      have M1 := hide m1
      have B1 := hide b1
      clear m1 b1 gc
      go_wp2_with fail
      go_loopw [27, 6] (fun i v ws => ∃ (j : Nat) (xo : Option Addr) (xc : Nat), j ≤ 4 ∧ i = .int .i64 (j : Int) ∧ v = .slice xo (qdN n0 n1 n2 n3 j) xc ∧ Mine w.heap.size ws xo (qdN n0 n1 n2 n3 j) xc (qd x0 x1 x2 x3 j) ∧ Below w.heap.size w ws) (fun i _ _ => 4 - (intOf i).toNat)
      case atStart => exact ⟨0, _, _, by omega, rfl, rfl, unhide M1, unhide B1⟩
      case round =>
        clear M1 B1
        obtain ⟨j, xo, xc, hj, rfl, rfl, hM, hB⟩ := hrel
        have q0 : wr.cell? ⟨g, 0, none⟩ = some (.slice a0 n0 c0) := (hB.cell (p := ⟨g, 0, none⟩) hg).trans (unhide C0)
        have q1 : wr.cell? ⟨g, 1, none⟩ = some (.slice a1 n1 c1) := (hB.cell (p := ⟨g, 1, none⟩) hg).trans (unhide C1)
        have q2 : wr.cell? ⟨g, 2, none⟩ = some (.slice a2 n2 c2) := (hB.cell (p := ⟨g, 2, none⟩) hg).trans (unhide C2)
        have q3 : wr.cell? ⟨g, 3, none⟩ = some (.slice a3 n3 c3) := (hB.cell (p := ⟨g, 3, none⟩) hg).trans (unhide C3)
        have hBs := hB.size
        have HM := hide hM
        have HB := hide hB
        have HX0 := hide ((unhide H0).later hB)
        have HX1 := hide ((unhide H1).later hB)
        have HX2 := hide ((unhide H2).later hB)
        have HX3 := hide ((unhide H3).later hB)
        clear hM hB
        rcases (show j = 0 ∨ j = 1 ∨ j = 2 ∨ j = 3 ∨ j = 4 by omega) with rfl | rfl | rfl | rfl | rfl
        · simp only [qdN, qd] at HM ⊢
          go_wp2_with (at_builtin; refine wpList_app rfl (.tmp 31) (.tmp 32) rfl w.heap.size _ _ _ _ rfl (unhide HM) _ _ _ _ rfl (unhide HX0) (by omega) hBs ?_; intro a3 c3 w3 m3 b3; have M3 := hide m3; have B3 := hide ((unhide HB).trans b3); clear m3 b3)
          go_roundw
          case rel =>
            have := unhide M3
            rw [Nat.zero_add, List.nil_append] at this
            exact ⟨1, a3, c3, by omega, rfl, by simp [qdN], this, unhide B3⟩
          case measure => simp [intOf]
        · simp only [qdN, qd] at HM ⊢
          go_wp2_with (at_builtin; refine wpList_app rfl (.tmp 31) (.tmp 32) rfl w.heap.size _ _ _ _ rfl (unhide HM) _ _ _ _ rfl (unhide HX1) (by omega) hBs ?_; intro a3 c3 w3 m3 b3; have M3 := hide m3; have B3 := hide ((unhide HB).trans b3); clear m3 b3)
          go_roundw
          case rel => exact ⟨2, a3, c3, by omega, rfl, rfl, unhide M3, unhide B3⟩
          case measure => simp [intOf]
        · simp only [qdN, qd] at HM ⊢
          go_wp2_with (at_builtin; refine wpList_app rfl (.tmp 31) (.tmp 32) rfl w.heap.size _ _ _ _ rfl (unhide HM) _ _ _ _ rfl (unhide HX2) (by omega) hBs ?_; intro a3 c3 w3 m3 b3; have M3 := hide m3; have B3 := hide ((unhide HB).trans b3); clear m3 b3)
          go_roundw
          case rel => exact ⟨3, a3, c3, by omega, rfl, rfl, unhide M3, unhide B3⟩
          case measure => simp [intOf]
        · simp only [qdN, qd] at HM ⊢
          go_wp2_with (at_builtin; refine wpList_app rfl (.tmp 31) (.tmp 32) rfl w.heap.size _ _ _ _ rfl (unhide HM) _ _ _ _ rfl (unhide HX3) (by omega) hBs ?_; intro a3 c3 w3 m3 b3; have M3 := hide m3; have B3 := hide ((unhide HB).trans b3); clear m3 b3)
          go_roundw
          case rel => exact ⟨4, a3, c3, by omega, rfl, rfl, unhide M3, unhide B3⟩
          case measure => simp [intOf]
        · simp only [qdN, qd] at HM ⊢
          go_wp2_with fail
          go_ret
          exact ⟨_, _, _, rfl, unhide HM, unhide HB⟩

end Go.Proofs.Ytfgghgoonfamkaa
