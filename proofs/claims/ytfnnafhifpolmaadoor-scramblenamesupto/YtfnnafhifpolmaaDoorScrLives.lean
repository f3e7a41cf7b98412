/-
  The nonce of the statements, and the chapter's examples that every statement of layer 8 asks first, come out as they are written. Conditions: the table of constants holds what the program's text says.
-/
import Derived.Test.YtfnnafhifpolmaaDoorScrAll
namespace Go.Proofs.YtfnnafhifpolmaaDoor
open Go.RowKit
set_option linter.unusedVariables false
set_option linter.unusedSimpArgs false

/-- The bytes 1 to 20, the first j of them. -/
def n20j (j : Nat) : List Int := (List.range j).map fun (i : Nat) => (i : Int) + 1
def n20 : List Int := [1, 2, 3, 4, 5, 6, 7, 8, 9, 10, 11, 12, 13, 14, 15, 16, 17, 18, 19, 20]
theorem n20j_next (j : Nat) : n20j (j + 1) = n20j j ++ [(j : Int) + 1] := by unfold n20j; rw [List.range_succ, List.map_append]; rfl
theorem n20_is : n20j 20 = n20 := rfl
theorem n20_ok : nck n20 = 0 := rfl
theorem n20_len : n20.length = 20 := rfl
theorem stoA_is {k : Int} (hk : k = 1 ∨ k = 2) (p : List Int) : stoA k p = sto k p := by unfold stoA; rw [if_pos hk]
theorem stoE_is {k : Int} (hk : k = 1 ∨ k = 2) : stoE k = 0 := by unfold stoE; rw [if_pos hk]
theorem rspA_is {n : List Int} (hn : nck n = 0) (k : Int) (p : List Int) : rspA k p n = rsp k p n := by unfold rspA; rw [if_pos hn]

set_option maxHeartbeats 1000000 in
theorem lawNonce_any (w : World) : Calls Tryd.prog 8 #[] w fun e w' => OutB w n20 e w' := by
  go_enter Tryd.func8, Tryd.ntmps8
  go_wp2_with fail
  go_loopw [2, 1] (fun i v ws => ∃ (j : Nat) (ao : Option Addr) (c : Nat), j ≤ 20 ∧ i = .int .i64 ((j : Int) + 1) ∧ v = .slice ao j c ∧ Mine w.heap.size ws ao j c (n20j j) ∧ Below w.heap.size w ws) (fun i _ _ => 21 - (intOf i).toNat)
  case atStart => exact ⟨0, none, 0, by omega, rfl, rfl, Mine.nought _ _, Below.refl _ _⟩
  case round =>
    obtain ⟨j, ao, c, hj, rfl, rfl, hM, hB⟩ := hrel
    by_cases hlt : j < 20
    · have hst := hide (n20j_next j)
      have HM := hide hM
      have HB := hide hB
      have hBs := hB.size
      have j0 : 0 ≤ (j : Int) := by omega
      have j1 : (j : Int) < 20 := by omega
      clear hM hB
      go_wp2_with (first
        | (at_builtin; refine wpList_app rfl (.tmp 7) (.tmp 10) rfl w.heap.size ao j c _ rfl ((unhide HM).later (below_alloc wr _)) _ 1 1 _ rfl (Bs.one wr ((j : Int) + 1) (by omega) (by omega)) (by omega) (by simp <;> omega) ?_; intro a3 c3 w3 m3 b3; have M3 := hide m3; have B3 := hide (((unhide HB).trans ((below_alloc wr _).mono hBs)).trans b3); clear m3 b3))
      go_roundw
      case rel =>
        refine ⟨j + 1, a3, c3, by omega, by go_num, rfl, ?_, unhide B3⟩
        rw [unhide hst]
        exact unhide M3
      case measure => simp [intOf]; omega
    · have hjn : j = 20 := by omega
      subst hjn
      rw [n20_is] at hM
      have HM := hide hM
      have HB := hide hB
      clear hM hB
      go_wp2_with fail
      go_ret
      exact ⟨ao, _, c, rfl, unhide HM, unhide HB⟩

theorem pw_is : nums { data := #[112, 119] } = [112, 119] := rfl

set_option maxHeartbeats 2000000 in
set_option maxRecDepth 20000 in
theorem lives_any (w : World) (hv : Vars w) : Calls Tryd.prog 12 #[] w fun e w' => e = .returned (.bool true) ∧ Below w.heap.size w w' := by
  have HV := hide hv
  have c0 := hide (stored_any 1 { data := #[112, 119] } w hv (by decide))
  rw [stoA_is (.inl rfl), stoE_is (.inl rfl), pw_is] at c0
  clear hv
  go_enter Tryd.func12, Tryd.ntmps12
  go_wp2_with fail
  refine (unhide c0).mono ?_
  rintro e w1 ⟨a1, n1, c1, rfl, m1, b1⟩
  have B1 := hide b1
  have P1 := hide m1.bs
  have nc := hide (lawNonce_any w1)
  clear m1 b1 c0
  go_wp2_with fail
  refine (unhide nc).mono ?_
  rintro e w2 ⟨a2, n2, c2, rfl, m2, b2⟩
  have B2 := hide ((unhide B1).trans (b2.mono (unhide B1).size))
  have P2 := hide ((unhide P1).later b2)
  have rc := hide (native_any { data := #[112, 119] } a2 n2 c2 n20 w2 m2.bs ((unhide HV).low (unhide B2)) (by decide))
  rw [rspA_is n20_ok, n20_ok, pw_is] at rc
  clear m2 b2 nc B1 P1
  go_wp2_with fail
  refine (unhide rc).mono ?_
  rintro e w3 ⟨a3, n3, c3, rfl, m3, b3⟩
  have B3 := hide ((unhide B2).trans (b3.mono (unhide B2).size))
  have P3 := hide ((unhide P2).later b3)
  have R3 := hide m3.bs
  have l3 := m3.len
  rw [rsp_len, show (if ([112, 119] : List Int).length = 0 then 0 else hsz 1) = 20 from rfl] at l3
  have nc := hide (lawNonce_any w3)
  clear m3 b3 rc B2 P2
  subst l3
  go_wp2_with fail
  refine (unhide nc).mono ?_
  rintro e w4 ⟨a4, n4, c4, rfl, m4, b4⟩
  have B4 := hide ((unhide B3).trans (b4.mono (unhide B3).size))
  have P4 := (unhide P3).later b4
  have l1 := P4.len
  rw [sto_len, show (if ([112, 119] : List Int).length = 0 then 0 else hsz 1) = 20 from rfl] at l1
  have qc := hide (right_any 1 a1 n1 c1 _ a4 n4 c4 n20 a3 20 c3 _ w4 P4 m4.bs ((unhide R3).later b4) ((unhide HV).low (unhide B4)) (by omega) (by omega))
  rw [rgA_sto 1 _ _ _ (.inl rfl) n20_ok, rgE_sto 1 _ _ (.inl rfl) n20_ok, rgt_same 1 _ _ _ rfl] at qc
  clear m4 b4 nc B3 P3 R3 P4 l1
  go_wp2_with fail
  refine (unhide qc).mono ?_
  rintro e w5 ⟨rfl, b5⟩
  have B5 := hide ((unhide B4).trans (b5.mono (unhide B4).size))
  clear b5 qc
  go_wp2_with fail
  go_ret
  exact ⟨rfl, unhide B5⟩

end Go.Proofs.YtfnnafhifpolmaaDoor
