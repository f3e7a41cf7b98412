/-
  What the reader's methods stop, bit, field and toByte, of package inflate, do to a stream. Conditions: the state's own bounds.
-/
import Derived.Test.YtalkeooejobjhaaDoorInfMem
import Derived.Test.YtalkeooejobjhaaDoorInfBits
namespace Go.Proofs.YtalkeooejobjhaaDoor
open Go.RowKit
set_option linter.unusedVariables false
set_option linter.unusedSimpArgs false

section
variable {E : Env} {g : Nat} {oo : Option Addr} {oc : Nat} {s : PS} {ov : Bool}

set_option maxHeartbeats 1000000 in
theorem stop_any (w : World) (z : Int) (h0 : 0 ≤ z) (h1 : z ≤ 100) (h : St E g w oo oc s ov) :
    Calls Tryd.prog 26 #[.pointer (some ⟨g, 0, none⟩), .int .i64 z] w fun e w' => e = .returned (.tuple #[]) ∧ St E g w' oo oc (stopS z s) ov ∧ Gb g w w' := by
  have c2 := h.c2
  have f2 := h.free 2
  have H := hide h
  clear h
  by_cases he : s.e = 0
  · have hs := hide (stopS_live (z := z) he)
    have he' : (s.e == 0) = true := by simpa using he
    go_enter Tryd.func26, Tryd.ntmps26
    go_wp2_with fail
    go_end0
    exact ⟨rfl, by rw [unhide hs]; exact (unhide H).putE z h0 h1, (Gb.refl _ _).set _ _⟩
  · have hs := hide (stopS_dead (z := z) he)
    have he' : (s.e == 0) = false := by simpa using he
    go_enter Tryd.func26, Tryd.ntmps26
    go_wp2_with fail
    go_end0
    exact ⟨rfl, by rw [unhide hs]; exact unhide H, Gb.refl _ _⟩

set_option maxHeartbeats 1000000 in
theorem toByte_any (w : World) (h : St E g w oo oc s ov) :
    Calls Tryd.prog 44 #[.pointer (some ⟨g, 0, none⟩)] w fun e w' => e = .returned (.tuple #[]) ∧ St E g w' oo oc (tobS s) ov ∧ Gb g w w' := by
  have c2 := h.c2
  have c1 := h.c1
  have f1 := h.free 1
  have hp := h.fit.p
  have hb := h.fit.bn
  have H := hide h
  clear h
  by_cases he : s.e = 0
  · have hs := hide (show tobS s = { s with p := (s.p + 7) / 8 * 8 } from if_pos he)
    have he' : (s.e == 0) = true := by simpa using he
    go_enter Tryd.func44, Tryd.ntmps44
    go_wp2_with fail
    go_end0
    refine ⟨rfl, by rw [unhide hs]; exact (unhide H).putP ((s.p + 7) / 8 * 8) _ (by omega) (by omega), (Gb.refl _ _).set _ _⟩
  · have hs := hide (show tobS s = s from if_neg he)
    have he' : (s.e == 0) = false := by simpa using he
    go_enter Tryd.func44, Tryd.ntmps44
    go_wp2_with fail
    go_end0
    exact ⟨rfl, by rw [unhide hs]; exact unhide H, Gb.refl _ _⟩

set_option maxHeartbeats 1000000 in
theorem bit_any (w : World) (h : St E g w oo oc s ov) :
    Calls Tryd.prog 43 #[.pointer (some ⟨g, 0, none⟩)] w fun e w' => e = .returned (.int .i64 (bitS E.bs s).1) ∧ St E g w' oo oc (bitS E.bs s).2 ov ∧ Gb g w w' := by
  have c0 := h.c0
  have c1 := h.c1
  have c2 := h.c2
  have f1 := h.free 1
  have hp := h.fit.p
  have hb := h.fit.bn
  have bc := h.fit.bc
  have bx := h.fit.bx
  have H := hide h
  by_cases hs : s.p / 8 < E.bn
  · have hs' : (s.p : Int) / 8 < (E.bn : Int) := by omega
    obtain ⟨bb, o, hix, hcx⟩ := h.bs.idx hs ((s.p : Int) / 8) (by omega)
    have hby := h.bs.byt.at (s.p / 8)
    clear h
    obtain ⟨v, hv⟩ : ∃ v, v = E.bs[s.p / 8]?.getD 0 := ⟨_, rfl⟩
    rw [← hv] at hcx hby
    have hy := shr_bd v (s.p % 8) hby.1 hby.2
    have ha := and1_i64 (v / 2 ^ (s.p % 8))
    by_cases he : s.e = 0
    · have he' : (s.e != 0) = false := by simpa using he
      have hr := hide (bitS_live (b := E.bs) he (by rw [(unhide H).fit.bl]; exact hs))
      have hbit := hide (show bitAt E.bs s.p = v / 2 ^ (s.p % 8) % 2 by unfold bitAt; rw [hv])
      clear hv hs
      go_enter Tryd.func43, Tryd.ntmps43
      go_wp2_with fail
      go_quiet (fail)
      go_wp2_with fail
      go_quiet (fail)
      go_wp2_with fail
      go_ret
      rw [unhide hr]
      refine ⟨?_, ?_, ?_⟩
      · rw [unhide hbit]; rfl
      · exact ((unhide H).drewN _).putP (s.p + 1) _ (by omega) (by omega)
      · exact ((Gb.refl _ _).drewN _).set _ _
    · have he' : (s.e != 0) = true := by simpa using he
      have hr := hide (bitS_dead (b := E.bs) he)
      clear hv hs
      go_enter Tryd.func43, Tryd.ntmps43
      go_wp2_with fail
      go_quiet (fail)
      go_wp2_with fail
      go_ret
      rw [unhide hr]
      exact ⟨rfl, (unhide H).drewN _, (Gb.refl _ _).drewN _⟩
  · have hs' : ¬ (s.p : Int) / 8 < (E.bn : Int) := by omega
    have hs'' : (E.bn : Int) ≤ (s.p : Int) / 8 := by omega
    clear h
    have hr := hide (show bitS E.bs s = (0, stopS 4 s) by
      by_cases he : s.e = 0
      · rw [bitS_short he (by rw [(unhide H).fit.bl]; exact hs), stopS_live he]
      · rw [bitS_dead he, stopS_dead he])
    have hne := stopS_e 4 s (by omega)
    have hne' : ((stopS 4 s).e != 0) = true := by simpa using hne
    clear hs hne
    go_enter Tryd.func43, Tryd.ntmps43
    go_wp2_with fail
    go_quiet (fail)
    go_wp2_with fail
    refine (stop_any _ 4 (by omega) (by omega) ((unhide H).drewN _)).mono ?_
    rintro e w1 ⟨rfl, s1, g1⟩
    have c2' := s1.c2
    have S1 := hide s1
    clear s1
    go_wp2_with fail
    go_ret
    rw [unhide hr]
    exact ⟨rfl, unhide S1, ((Gb.refl _ _).drewN _).trans g1⟩

theorem two20 {i : Nat} (h : i ≤ 19) : (1 : Int) ≤ 2 ^ i ∧ (2 : Int) ^ i ≤ 1048576 := by
  have := Nat.pow_le_pow_right (show 0 < 2 by omega) (show i ≤ 20 by omega)
  have h2 : (2 : Int) ^ i ≤ 2 ^ 20 := by exact_mod_cast this
  exact ⟨Int.pow_pos (by omega), by omega⟩

set_option maxHeartbeats 1000000 in
theorem field_any (w : World) (n : Nat) (hn : n ≤ 19) (N : Int) (hN : N = (n : Int)) (h : St E g w oo oc s ov) :
    Calls Tryd.prog 27 #[.pointer (some ⟨g, 0, none⟩), .int .i64 N] w fun e w' => e = .returned (.int .i64 (fldN E.bs n s).1) ∧ St E g w' oo oc (fldN E.bs n s).2 ov ∧ Gb g w w' := by
  have H := hide h
  clear h
  subst hN
  go_enter Tryd.func27, Tryd.ntmps27
  go_wp2_with fail
  go_loopw [5, 8] (fun x i wr => ∃ k : Nat, k ≤ n ∧ i = .int .i64 (k : Int) ∧ x = .int .i64 (fldN E.bs k s).1 ∧ St E g wr oo oc (fldN E.bs k s).2 ov ∧ Gb g w wr) (fun _ i _ => n - (intOf i).toNat)
  case atStart => exact ⟨0, by omega, rfl, rfl, unhide H, Gb.refl _ _⟩
  case round =>
    obtain ⟨k, hk, rfl, rfl, st, gb⟩ := hrel
    have bd := fldN_bd E.bs k s
    have hst := hide st
    clear st
    by_cases hlt : k < n
    · have nx := hide (show fldN E.bs (k + 1) s = ((fldN E.bs k s).1 + (bitS E.bs (fldN E.bs k s).2).1 * 2 ^ k, (bitS E.bs (fldN E.bs k s).2).2) from rfl)
      have bb := bitS_bd E.bs (fldN E.bs k s).2
      have bc := hide (bit_any wr (unhide hst))
      have pk := two20 (show k ≤ 19 by omega)
      have hor := or_i64 (fldN E.bs k s).1 (bitS E.bs (fldN E.bs k s).2).1 k (by omega) bd.1 bd.2 bb.1 bb.2
      have hm : 0 ≤ (bitS E.bs (fldN E.bs k s).2).1 * 2 ^ k ∧ (bitS E.bs (fldN E.bs k s).2).1 * 2 ^ k ≤ 1048576 := by
        have hb : (bitS E.bs (fldN E.bs k s).2).1 = 0 ∨ (bitS E.bs (fldN E.bs k s).2).1 = 1 := by omega
        rcases hb with h | h <;> rw [h] <;> omega
      generalize (bitS E.bs (fldN E.bs k s).2).1 = V at *
      generalize (fldN E.bs k s).1 = X at *
      go_wp2_with fail
      refine (unhide bc).mono ?_
      rintro e w1 ⟨rfl, s1, g1⟩
      have S1 := hide s1
      clear s1
      go_wp2_with fail
      go_roundw
      case rel =>
        refine ⟨k + 1, by omega, by go_num, by rw [unhide nx], by rw [unhide nx]; exact unhide S1, gb.trans g1⟩
      case measure => simp [intOf]; omega
    · have hkn := hide (show k = n by omega)
      go_wp2_with fail
      go_ret
      rw [← unhide hkn]
      exact ⟨rfl, unhide hst, gb⟩
end
end Go.Proofs.YtalkeooejobjhaaDoor
