/-
  What copy, of package inflate, does to a stream. Conditions: the state's own bounds; where nothing went wrong the distance is not 0.
-/
import Derived.Test.YtalkeooejobjhaaDoorInfDist
namespace Go.Proofs.YtalkeooejobjhaaDoor
open Go.RowKit
set_option linter.unusedVariables false
set_option linter.unusedSimpArgs false

section
variable {E : Env} {g : Nat} {w0 : World} {oo : Option Addr} {oc : Nat} {s : PS} {ov : Bool}

set_option maxHeartbeats 2000000 in
set_option maxRecDepth 20000 in
theorem copy_any (w : World) (n d : Nat) (hn : n ≤ 100000) (hd : d ≤ 100000) (h1 : s.e = 0 → 1 ≤ d) (h : St E g w oo oc s ov) :
    Calls Tryd.prog 48 #[.pointer (some ⟨g, 0, none⟩), .int .i64 (n : Int), .int .i64 (d : Int)] w fun e w' => e = .returned (.tuple #[]) ∧ Out E g w oo (cpyS E.m n d s) ov w' := by
  have c4 := h.c4
  have ho := h.fit.o
  have key : ∀ w1 (t : PS) (Q : Ending → World → Prop), St E g w1 oo oc t ov → Fr g oo w oo w1 → (t.e = 0 → 1 ≤ d ∧ d ≤ t.o.length) → True := fun _ _ _ _ _ _ => trivial
  have H := hide h
  have H1 := hide h1
  clear h key h1
  by_cases hfar : s.o.length < d
  · have hr := hide (show cpyS E.m n d s = stopS 5 s by unfold cpyS farS; rw [if_pos hfar, cpyL_dead (stopS_e 5 s (by omega))])
    have hfar' : (s.o.length : Int) < (d : Int) := by omega
    have hne := stopS_e 5 s (by omega)
    have sc := hide (stop_any w 5 (by omega) (by omega) (unhide H))
    generalize stopS 5 s = t at *
    go_enter Tryd.func48, Tryd.ntmps48
    go_wp2_with fail
    refine (unhide sc).mono ?_
    rintro e w1 ⟨rfl, s1, g1⟩
    have rd : romS E.m t = t := romS_dead hne
    have rc := room_st w1 s1
    rw [rd] at rc
    have hdd : decide (t.e = 0) = false := by simpa using hne
    rw [hdd] at rc
    have RC := hide rc
    have S1 := hide s1
    clear rc rd hdd s1 hne
    go_wp2_with fail
    go_loopw [6] (fun i wr => i = .int .i64 0 ∧ wr = w1) (fun _ _ => 0)
    case atStart => exact ⟨rfl, rfl⟩
    case round =>
      obtain ⟨rfl, rfl⟩ := hrel
      by_cases hn0 : 0 < n
      · have hn0' : (0 : Int) < (n : Int) := by omega
        go_wp2_with fail
        refine (unhide RC).mono ?_
        rintro e w2 ⟨rfl, s2, g2⟩
        go_wp2_with fail
        go_end0
        rw [unhide hr]
        exact ⟨rfl, oo, oc, s2, (g1.trans g2).fr oo⟩
      · have hn0' : ¬ (0 : Int) < (n : Int) := by omega
        go_wp2_with fail
        go_end0
        rw [unhide hr]
        exact ⟨rfl, oo, oc, unhide S1, g1.fr oo⟩
  · have hfar' : ¬ (s.o.length : Int) < (d : Int) := by omega
    have hr := hide (show cpyS E.m n d s = cpyL E.m d n s by unfold cpyS farS; rw [if_neg hfar])
    rw [unhide hr]
    generalize hR : cpyL E.m d n s = R
    have HR := hide hR
    have h2 := hide (show s.e = 0 → 1 ≤ d ∧ d ≤ s.o.length from fun q => ⟨unhide H1 q, by omega⟩)
    clear hR hfar
    go_enter Tryd.func48, Tryd.ntmps48
    go_wp2_with fail
    go_loopw [6] (fun i wr => ∃ (k : Nat) (t : PS) (oo1 : Option Addr) (oc1 : Nat), k ≤ n ∧ i = .int .i64 (k : Int) ∧ cpyL E.m d (n - k) t = R ∧ (t.e = 0 → 1 ≤ d ∧ d ≤ t.o.length) ∧ St E g wr oo1 oc1 t ov ∧ Fr g oo w oo1 wr) (fun i _ => n - (intOf i).toNat)
    case atStart => exact ⟨0, s, oo, oc, by omega, rfl, unhide HR, unhide h2, unhide H, Fr.refl _ _ _⟩
    case round =>
      clear c4 ho
      obtain ⟨k, t, oo1, oc1, hk, rfl, hc, hdl, st, fr⟩ := hrel
      have HC := hide hc
      have HD := hide hdl
      have ST := hide st
      have FR := hide fr
      clear hc hdl st fr hfar' hr h2
      by_cases hlt : k < n
      · have rc := hide (room_st wr (unhide ST))
        have hlt' : (k : Int) < (n : Int) := by omega
        by_cases he : (romS E.m t).e = 0
        · have hd : decide ((romS E.m t).e = 0) = true := by simpa using he
          obtain ⟨hl1, hl2, hl3⟩ := romS_live he
          rw [hd, hl1] at rc
          have dl := unhide HD hl2
          obtain ⟨j, hj⟩ : ∃ j, n - k = j + 1 := ⟨n - k - 1, by omega⟩
          have hnx := hide (show cpyL E.m d (n - (k + 1)) { t with o := t.o ++ [t.o[t.o.length - d]?.getD 0] } = R by
            rw [← unhide HC, hj, show n - (k + 1) = j by omega]
            simp only [cpyL, bckS]
            rw [telS_live hl2 hl3])
          have HL := hide (And.intro hl2 hl3)
          clear hd he hl1 hl2 hl3 hj
          go_wp2_with fail
          refine (unhide rc).mono ?_
          rintro e w1 ⟨rfl, s1, g1⟩
          have ho := s1.fit.o
          have c4 := s1.c4
          have f4 := s1.free 4
          obtain ⟨bb, of, hix, hcx⟩ := s1.out.bs.idx (show t.o.length - d < t.o.length by omega) (IntKind.i64.wrap ((t.o.length : Int) - (d : Int))) (by rw [IntKind.wrap_i64]; omega)
          have hby := s1.out.byt.at (t.o.length - d)
          generalize t.o[t.o.length - d]?.getD 0 = V at *
          have c4a := (s1.later (below_alloc w1 (.cells #[.int .u8 V] 5))).c4
          have s2 := (s1.drew).later (below_alloc w1.drew (.cells #[.int .u8 V] 5))
          have hone := hide (Bs.one w1.drew V hby.1 hby.2)
          have hlt2 := s2.lt
          have S1 := hide s1
          have S2 := hide s2
          clear s1 s2
          go_wp2_with fail
          go_region_law (refine step_appF rfl (.tmp 31) (.tmp 45) rfl (g + 1) oo1 t.o.length oc1 t.o (by simp [Act.eval, Act.put]) (unhide S2).out _ 1 1 [V] (by simp [Act.eval, Act.put]) (unhide hone) (by omega) hlt2 ?_; intro oo2 c2 w3 hM hgr hsrc; have hg3 := (unhide S2).grown hgr; have c4' := (World.cell?_of_block (a := ⟨g, 4, none⟩) hg3).trans (unhide S2).c4; have f4' := (World.frozen?_of_block (a := ⟨g, 4, none⟩) hg3).trans ((unhide S2).free 4))
          all_goals have told := hide ((unhide S2).told (unhide HL).1 (unhide HL).2 hM (fr_app hlt2 hgr hsrc) hg3)
          all_goals clear hM hgr hsrc hg3 hix hcx
          all_goals go_wp2_with fail
          all_goals go_roundw
          all_goals first
            | exact ⟨k + 1, _, oo2, c2, by omega, by go_num, unhide hnx, fun _ => ⟨dl.1, by simp; omega⟩, (unhide told).1, ((unhide FR).trans ((g1.drew.trans (Gb.of (below_alloc w1.drew _))).fr oo1)).trans (unhide told).2⟩
            | (simp [intOf]; omega)
        · have hd : decide ((romS E.m t).e = 0) = false := by simpa using he
          rw [hd] at rc
          have hfin := hide (show R = romS E.m t by
            obtain ⟨j, hj⟩ : ∃ j, n - k = j + 1 := ⟨n - k - 1, by omega⟩
            rw [← unhide HC, hj]
            simp only [cpyL, bckS]
            rw [show telS E.m (t.o[t.o.length - d]?.getD 0) t = romS E.m t from if_neg he]
            exact cpyL_dead he j)
          clear hd he
          go_wp2_with fail
          refine (unhide rc).mono ?_
          rintro e w1 ⟨rfl, s1, g1⟩
          go_wp2_with fail
          go_end0
          rw [unhide hfin]
          exact ⟨rfl, oo1, oc1, s1, (unhide FR).trans (g1.fr oo1)⟩
      · have hkn : k = n := by omega
        have hfin := hide (show R = t by rw [← unhide HC, hkn, Nat.sub_self]; rfl)
        have hlt' : ¬ (k : Int) < (n : Int) := by omega
        clear hkn
        go_wp2_with fail
        go_end0
        rw [unhide hfin]
        exact ⟨rfl, oo1, oc1, unhide ST, unhide FR⟩
end
end Go.Proofs.YtalkeooejobjhaaDoor
