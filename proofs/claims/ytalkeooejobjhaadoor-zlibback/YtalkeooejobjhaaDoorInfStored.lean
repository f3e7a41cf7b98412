/-
  What stored, of package inflate, does to a stream. Conditions: the state's own bounds.
-/
import Derived.Test.YtalkeooejobjhaaDoorInfTell
namespace Go.Proofs.YtalkeooejobjhaaDoor
open Go.RowKit
set_option linter.unusedVariables false
set_option linter.unusedSimpArgs false

section
variable {E : Env} {g : Nat} {w0 : World} {oo : Option Addr} {oc : Nat} {s : PS} {ov : Bool}

set_option maxHeartbeats 2000000 in
theorem stored_any (w : World) (h : St E g w oo oc s ov) :
    Calls Tryd.prog 28 #[.pointer (some ⟨g, 0, none⟩)] w fun e w' => e = .returned (.tuple #[]) ∧ Out E g w oo (stoS E.bs E.m s) ov w' := by
  have tc := hide (toByte_any w h)
  have fc := hide (fun w1 (h1 : St E g w1 oo oc (tobS s) ov) => field_any w1 16 (by omega) 16 rfl h1)
  have fd := hide (fun w1 (h1 : St E g w1 oo oc (fldN E.bs 16 (tobS s)).2 ov) => field_any w1 16 (by omega) 16 rfl h1)
  have b1 := fldN_bd E.bs 16 (tobS s)
  have b2 := fldN_bd E.bs 16 (fldN E.bs 16 (tobS s)).2
  have hr := hide (show stoS E.bs E.m s = sttS E.bs E.m (fldN E.bs 16 (tobS s)).1 (fldN E.bs 16 (fldN E.bs 16 (tobS s)).2).1 (fldN E.bs 16 (fldN E.bs 16 (tobS s)).2).2 from rfl)
  rw [unhide hr]
  clear h hr
  generalize (fldN E.bs 16 (fldN E.bs 16 (tobS s)).2).1 = T at *
  generalize (fldN E.bs 16 (fldN E.bs 16 (tobS s)).2).2 = t2 at *
  generalize (fldN E.bs 16 (tobS s)).1 = C at *
  generalize (fldN E.bs 16 (tobS s)).2 = t1 at *
  generalize tobS s = t0 at *
  have hx := xor16 C b1.1 (by omega)
  obtain ⟨c, rfl⟩ : ∃ c : Nat, C = (c : Int) := ⟨C.toNat, by omega⟩
  have hc : c ≤ 65535 := by omega
  have hT : 0 ≤ T ∧ T ≤ 65535 := by omega
  clear b1 b2
  by_cases hq : T = 65535 - (c : Int)
  · have hq' : (T != 65535 - (c : Int)) = false := by simpa using hq
    have hr := hide (show sttS E.bs E.m (c : Int) T t2 = stoL E.bs E.m c t2 by unfold sttS; rw [if_pos hq]; simp)
    rw [unhide hr]
    generalize hR : stoL E.bs E.m c t2 = R
    have HR := hide hR
    clear hR hr
    go_enter Tryd.func28, Tryd.ntmps28
    go_wp2_with fail
    refine (unhide tc).mono ?_
    rintro e w1 ⟨rfl, s1, g1⟩
    have S1 := hide s1
    clear s1
    go_wp2_with fail
    refine ((unhide fc) _ (unhide S1)).mono ?_
    rintro e w2 ⟨rfl, s2, g2⟩
    have S2 := hide s2
    clear s2
    go_wp2_with fail
    refine ((unhide fd) _ (unhide S2)).mono ?_
    rintro e w3 ⟨rfl, s3, g3⟩
    have S3 := hide s3
    have GG := hide ((g1.trans g2).trans g3)
    clear s3 g1 g2 g3
    go_wp2_with fail
    go_loopw [4] (fun i wr => ∃ (k : Nat) (t : PS) (oo1 : Option Addr) (oc1 : Nat), k ≤ c ∧ i = .int .i64 (k : Int) ∧ stoL E.bs E.m (c - k) t = R ∧ St E g wr oo1 oc1 t ov ∧ Fr g oo w oo1 wr) (fun i _ => c - (intOf i).toNat)
    case atStart => exact ⟨0, t2, oo, oc, by omega, rfl, unhide HR, unhide S3, (unhide GG).fr oo⟩
    case round =>
      clear S1 S2 S3 GG hx hq hq' hT
      obtain ⟨k, t, oo1, oc1, hk, rfl, hst, st, fr⟩ := hrel
      have c2 := st.c2
      have HC := hide hst
      have ST := hide st
      have FR := hide fr
      clear hst st fr
      by_cases hlt : k < c
      · have hlt' : (k : Int) < (c : Int) := by omega
        by_cases he : t.e = 0
        · have he' : (t.e == 0) = true := by simpa using he
          have fe := hide (field_any wr 8 (by omega) 8 rfl (unhide ST))
          have bd := fldN_bd E.bs 8 t
          have hnx := hide (show stoL E.bs E.m (c - (k + 1)) (telS E.m (fldN E.bs 8 t).1 (fldN E.bs 8 t).2) = R by
            obtain ⟨j, hj⟩ : ∃ j, c - k = j + 1 := ⟨c - k - 1, by omega⟩
            rw [← unhide HC, hj, show c - (k + 1) = j by omega]
            rfl)
          have hcv : 0 ≤ (fldN E.bs 8 t).1 ∧ (fldN E.bs 8 t).1 ≤ 255 := by omega
          clear bd
          generalize (fldN E.bs 8 t).1 = V at *
          generalize (fldN E.bs 8 t).2 = t8 at *
          go_wp2_with fail
          refine (unhide fe).mono ?_
          rintro e w4 ⟨rfl, s4, g4⟩
          have te := hide (tell_any w4 V hcv.1 hcv.2 s4)
          clear s4
          go_wp2_with fail
          refine (unhide te).mono ?_
          rintro e w5 ⟨rfl, oo5, oc5, s5, f5⟩
          have S5 := hide s5
          clear s5
          go_wp2_with fail
          go_roundw
          case rel => exact ⟨k + 1, _, oo5, oc5, by omega, by go_num, unhide hnx, unhide S5, ((unhide FR).trans (g4.fr oo1)).trans f5⟩
          case measure => simp [intOf]; omega
        · have he' : (t.e == 0) = false := by simpa using he
          have hfin := hide (show R = t by rw [← unhide HC]; exact stoL_dead he _)
          go_wp2_with fail
          go_end0
          rw [unhide hfin]
          exact ⟨rfl, oo1, oc1, unhide ST, unhide FR⟩
      · have hkn : k = c := by omega
        have hfin := hide (show R = t by rw [← unhide HC, hkn, Nat.sub_self]; rfl)
        have hlt' : ¬ (k : Int) < (c : Int) := by omega
        clear hkn
        go_wp2_with fail
        go_end0
        rw [unhide hfin]
        exact ⟨rfl, oo1, oc1, unhide ST, unhide FR⟩
  · have hq' : (T != 65535 - (c : Int)) = true := by simpa using hq
    have hne := stopS_e 5 t2 (by omega)
    have hr := hide (show sttS E.bs E.m (c : Int) T t2 = stopS 5 t2 by unfold sttS; rw [if_neg hq]; exact stoL_dead hne _)
    rw [unhide hr]
    have hne' : ((stopS 5 t2).e == 0) = false := by simpa using hne
    clear hr
    go_enter Tryd.func28, Tryd.ntmps28
    go_wp2_with fail
    refine (unhide tc).mono ?_
    rintro e w1 ⟨rfl, s1, g1⟩
    have S1 := hide s1
    clear s1
    go_wp2_with fail
    refine ((unhide fc) _ (unhide S1)).mono ?_
    rintro e w2 ⟨rfl, s2, g2⟩
    have S2 := hide s2
    clear s2
    go_wp2_with fail
    refine ((unhide fd) _ (unhide S2)).mono ?_
    rintro e w3 ⟨rfl, s3, g3⟩
    have S3 := hide s3
    clear s3
    go_wp2_with fail
    refine (stop_any w3 5 (by omega) (by omega) (unhide S3)).mono ?_
    rintro e w4 ⟨rfl, s4, g4⟩
    have c2 := s4.c2
    have S4 := hide s4
    have GG := hide (((g1.trans g2).trans g3).trans g4)
    clear s4 g1 g2 g3 g4
    go_wp2_with fail
    go_loopw [4] (fun i wr => i = .int .i64 0 ∧ wr = w4) (fun _ _ => 0)
    case atStart => exact ⟨rfl, rfl⟩
    case round =>
      obtain ⟨rfl, rfl⟩ := hrel
      by_cases hn0 : 0 < c
      · have hn0' : (0 : Int) < (c : Int) := by omega
        go_wp2_with fail
        go_end0
        exact ⟨rfl, oo, oc, unhide S4, (unhide GG).fr oo⟩
      · have hn0' : ¬ (0 : Int) < (c : Int) := by omega
        go_wp2_with fail
        go_end0
        exact ⟨rfl, oo, oc, unhide S4, (unhide GG).fr oo⟩
end
end Go.Proofs.YtalkeooejobjhaaDoor
