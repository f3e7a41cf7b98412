/-
  What sign of package scan returns for any text. Conditions: at most 2,000,000 bytes.
-/
import Derived.Test.YtddfbaaghjcbnaaGreatDoorScSg
import Derived.Test.YtddfbaaghjcbnaaGreatDoorScWd
namespace Go.Proofs.YtddfbaaghjcbnaaGreatDoor
open Go.RowKit
set_option linter.unusedVariables false
set_option linter.unusedSimpArgs false

theorem sgZ_yes (l : Bl) (n : Nat) (h : sgB (l.take (n + 1)) = true) : sgZ l (n + 1) = n + 1 := by simp [sgZ, h]
theorem sgZ_no (l : Bl) (n : Nat) (h : sgB (l.take (n + 1)) = false) : sgZ l (n + 1) = sgZ l n := by simp [sgZ, h]
set_option maxHeartbeats 2000000 in
set_option maxRecDepth 20000 in
theorem sign_any (s : ByteArray) (w : World) (hs : s.size ≤ 2000000) : Calls Tryz.prog 30 #[.string s] w fun e w' => e = .returned (.agg (fdC (sgF (bl s)))) ∧ Below w.heap.size w w' := by
  obtain ⟨M, hM⟩ : ∃ M, M = min 3 (bl s).length := ⟨_, rfl⟩
  have hF : sgF (bl s) = if sgZ (bl s) M = 0 then nil0 else its 5 ((bl s).take (sgZ (bl s) M)) := by rw [hM]; rfl
  rw [hF]
  rw [bl_len] at hM
  have hM2 : M ≤ s.size := by omega
  have hmin : min 3 (s.size : Int) = (M : Int) := by omega
  obtain ⟨Z, hZ⟩ : ∃ Z, Z = sgZ (bl s) M := ⟨_, rfl⟩
  rw [← hZ]
  obtain ⟨G, hG⟩ : ∃ G, G = if Z = 0 then nil0 else its 5 ((bl s).take Z) := ⟨_, rfl⟩
  rw [← hG]
  have HZ := hide hZ
  have HG := hide hG
  clear hF hM hZ hG
  go_enter Tryz.func30, Tryz.ntmps30
  go_wp2_with (with_reducible show wpList Tryz.prog _ _ (Oper.mk _ (Op.alloc 43) _ _ _ none :: _) _ _; refine wpList_alF rfl rfl ?_; intro wz rz bz sz)
  go_loopw [3] (fun iv wr => ∃ z : Nat, iv = .int .i64 (z : Int) ∧ z ≤ s.size ∧ Fb w.heap.size nil0 wr ∧ Below w.heap.size w wr ∧ sgZ (bl s) z = Z) (fun iv _ => (intOf iv).toNat)
  case atStart => exact ⟨M, by first | rfl | (rw [hmin]), hM2, rz, bz, (unhide HZ).symm⟩
  case round =>
    obtain ⟨z, rfl, hz, rz, bz, hq⟩ := hrel
    have HQ := hide hq
    clear hq hmin
    cases z with
    | zero =>
      have h0 := unhide HQ
      simp only [sgZ] at h0
      have hg := unhide HG
      rw [if_pos h0.symm] at hg
      have HG2 := hide hg
      clear hg h0
      go_wp2_with (with_reducible show wpList Tryz.prog _ _ (Oper.mk _ (Op.store 43 _ _) _ _ _ none :: _) _ _; refine wpList_stF rfl (.tmp 2) (.tmp 19) rfl w.heap.size nil0 nil0 (by simp [Act.eval, Act.put]) (by simp [Act.eval, Act.put, fdC, nil0, ba]) rz ?_; intro wy ry gy sy)
      exact fd_end rfl w.heap.size _ _ rfl rfl ry (unhide HG2).symm (below_gb bz gy (Nat.le_refl _))
    | succ z =>
      have c0 := fun wx => isSign_any (s.extract 0 (z + 1)) wx
      rw [bl_pre] at c0
      cases hp : sgB ((bl s).take (z + 1)) with
      | true =>
        have h0 := unhide HQ
        rw [sgZ_yes _ _ hp] at h0
        rw [hp] at c0
        have HC0 := hide c0
        have c1 := fun wx => itself_any 5 (s.extract 0 (z + 1)) wx (by rw [sz_pre _ _ hz]; omega)
        rw [bl_pre] at c1
        have hg := unhide HG
        rw [if_neg (by omega), ← h0] at hg
        clear h0
        generalize its 5 ((bl s).take (z + 1)) = F at *
        have HG2 := hide hg
        have HC1 := hide c1
        clear c0 c1 hp hg
        go_wp2_with (first | (go_at_call 75; (with_reducible refine same_world (unhide HC0 _) ?_)) | (go_at_call 64; (with_reducible refine (unhide HC1 _).mono ?_); rintro e wz ⟨rfl, qz⟩; have rz := rz.later qz; have bz := bt bz qz) | (with_reducible show wpList Tryz.prog _ _ (Oper.mk _ (Op.store 43 _ _) _ _ _ none :: _) _ _; refine wpList_stF rfl (.tmp 2) (.tmp 18) rfl w.heap.size F nil0 (by simp [Act.eval, Act.put]) (by simp [Act.eval, Act.put, fdC, nil0, er]) rz ?_; intro wy ry gy sy))
        exact fd_end rfl w.heap.size _ _ rfl rfl ry (unhide HG2).symm (below_gb bz gy (Nat.le_refl _))
      | false =>
        have h0 := unhide HQ
        rw [sgZ_no _ _ hp] at h0
        rw [hp] at c0
        have HC0 := hide c0
        have H0 := hide h0
        clear c0 h0 hp
        go_wp2_with (go_at_call 75; (with_reducible refine same_world (unhide HC0 _) ?_))
        go_roundw
        case rel => exact ⟨z, by go_num, by omega, rz, bz, unhide H0⟩
        case measure => simp [intOf]

end Go.Proofs.YtddfbaaghjcbnaaGreatDoor
