/-
  What room, tell, count and goesOn, of package inflate, do to a stream. Conditions: the state's own bounds.
-/
import Derived.Test.YtalkeooejobjhaaDoorInfSym
namespace Go.Proofs.YtalkeooejobjhaaDoor
open Go.RowKit
set_option linter.unusedVariables false
set_option linter.unusedSimpArgs false

section
variable {E : Env} {g : Nat} {w0 : World} {oo : Option Addr} {oc : Nat} {s : PS} {ov : Bool}

set_option maxHeartbeats 1000000 in
theorem room_st (w : World) (h : St E g w oo oc s ov) :
    Calls Tryd.prog 64 #[.pointer (some ⟨g, 0, none⟩)] w fun e w' => e = .returned (.bool (decide ((romS E.m s).e = 0))) ∧ St E g w' oo oc (romS E.m s) ov ∧ Gb g w w' := by
  have c2 := h.c2
  have c3 := h.c3
  have c4 := h.c4
  have ho := h.fit.o
  have m0 := h.fit.m0
  have m1 := h.fit.m1
  have H := hide h
  clear h
  by_cases hm : (s.o.length : Int) < E.m
  · have hr := hide (show romS E.m s = s from if_pos hm)
    have hd := hide (show decide (s.e = 0) = (s.e == 0) from rfl)
    go_enter Tryd.func64, Tryd.ntmps64
    go_wp2_with fail
    go_quiet (fail)
    go_wp2_with fail
    go_ret
    rw [unhide hr]
    exact ⟨by rw [unhide hd]; rfl, (unhide H).drewN _, (Gb.refl _ _).drewN _⟩
  · have hr := hide (show romS E.m s = stopS 3 s from if_neg hm)
    have hm' : E.m ≤ (s.o.length : Int) := by omega
    have hd := hide (show decide ((stopS 3 s).e = 0) = ((stopS 3 s).e == 0) from rfl)
    go_enter Tryd.func64, Tryd.ntmps64
    go_wp2_with fail
    go_quiet (fail)
    go_wp2_with fail
    refine (stop_any _ 3 (by omega) (by omega) ((unhide H).drewN _)).mono ?_
    rintro e w1 ⟨rfl, s1, g1⟩
    have d2 := s1.c2
    have S1 := hide s1
    clear s1
    go_wp2_with fail
    go_ret
    rw [unhide hr]
    exact ⟨by rw [unhide hd]; rfl, unhide S1, ((Gb.refl _ _).drewN _).trans g1⟩

theorem St.told (h : St E g w0 oo oc s ov) (he : s.e = 0) (hm : (s.o.length : Int) < E.m) {c : Int} {oo1 : Option Addr} {c1 : Nat} {w1 : World} (hM : Mine (g + 1) w1 oo1 (s.o.length + 1) c1 (s.o ++ [c])) (f : Fr g oo w0 oo1 w1) (hg : w1.heap[g]? = w0.heap[g]?) :
    St E g (w1.setCell ⟨g, 4, none⟩ (.slice oo1 (s.o.length + 1) c1)) oo1 c1 { s with o := s.o ++ [c] } ov ∧ Fr g oo w0 oo1 (w1.setCell ⟨g, 4, none⟩ (.slice oo1 (s.o.length + 1) c1)) := by
  have hb : Below g w0 w1 := h.below f
  have hb2 : Below g w1 (w1.setCell ⟨g, 4, none⟩ (.slice oo1 (s.o.length + 1) c1)) := (Below.refl g w1).setCell (by simp) _
  have hst : w1.heap[g]? = some (.cells (sv E s.p s.e oo s.o.length oc ov) 49 (0, 0)) := by rw [hg]; exact h.st
  refine ⟨⟨?_, ?_, fun w2 q => h.b w2 ((hb.trans hb2).trans q), h.v.later h.g3 (hb.trans hb2), h.g3, ?_⟩, f.trans (((Gb.refl g w1).set 4 _).fr oo1)⟩
  · rw [heap_setCell_same w1 g 4 _ _ _ hst]
    simp [sv]
  · have e1 : ({ s with o := s.o ++ [c] } : PS).o.length = s.o.length + 1 := by simp
    rw [e1]
    exact hM.keep fun k hk _ => heap_setCell_other w1 ⟨g, 4, none⟩ k _ (by simp; omega)
  · have hf := h.fit
    refine ⟨hf.p, ?_, hf.e0, hf.e1, hf.bn, hf.m0, hf.m1, hf.bc, hf.bx, hf.bl⟩
    have := hf.m1
    simp
    omega
theorem romS_live {m : Int} {s : PS} (h : (romS m s).e = 0) : romS m s = s ∧ s.e = 0 ∧ (s.o.length : Int) < m := by
  unfold romS at h ⊢
  by_cases hm : (s.o.length : Int) < m
  · rw [if_pos hm] at h ⊢
    exact ⟨rfl, h, hm⟩
  · rw [if_neg hm] at h
    exact absurd h (stopS_e 3 s (by omega))
/-- The struct's block is not the row's. -/
theorem St.grown (h : St E g w0 oo oc s ov) {w1 : World} {n c : Nat} (hgr : w0.grownBy w1 (Value.slice oo n c).ownBlock) : w1.heap[g]? = w0.heap[g]? := by
  refine hgr.block g h.lt fun e => ?_
  cases oo with
  | none => simp [Value.ownBlock] at e
  | some z =>
    have := (h.out.ob ⟨z, rfl, by simpa [Value.ownBlock] using e.symm⟩).1
    omega

set_option maxHeartbeats 1000000 in
theorem tell_any (w : World) (c : Int) (h0 : 0 ≤ c) (h1 : c ≤ 255) (h : St E g w oo oc s ov) :
    Calls Tryd.prog 45 #[.pointer (some ⟨g, 0, none⟩), .int .u8 c] w fun e w' => e = .returned (.tuple #[]) ∧ Out E g w oo (telS E.m c s) ov w' := by
  have rc := hide (room_st w h)
  clear h
  by_cases he : (romS E.m s).e = 0
  · have hd : decide ((romS E.m s).e = 0) = true := by simpa using he
    obtain ⟨hl1, hl2, hl3⟩ := romS_live he
    have hr := hide (telS_live (c := c) hl2 hl3)
    rw [hd, hl1] at rc
    have HL := hide (And.intro hl2 hl3)
    clear hd he hl1 hl2 hl3
    go_enter Tryd.func45, Tryd.ntmps45
    go_wp2_with fail
    refine (unhide rc).mono ?_
    rintro e w1 ⟨rfl, s1, g1⟩
    have ho := s1.fit.o
    have c4 := s1.c4
    have s2 := s1.later (below_alloc w1 (.cells #[.int .u8 c] 5))
    have S1 := hide s1
    have S2 := hide s2
    have hlt := s2.lt
    clear s1 s2
    go_wp2_with (at_builtin; refine wpList_appF rfl (.tmp 10) (.tmp 12) rfl (g + 1) _ _ _ s.o rfl (unhide S2).out _ 1 1 [c] rfl (Bs.one w1 c h0 h1) (by omega) hlt ?_; intro oo1 c1 w3 hM hgr hsrc; have hg3 := (unhide S2).grown hgr; have c4' := (World.cell?_of_block (a := ⟨g, 4, none⟩) hg3).trans (unhide S2).c4; have f4' := (World.frozen?_of_block (a := ⟨g, 4, none⟩) hg3).trans ((unhide S2).free 4))
    go_end0
    refine ⟨rfl, oo1, c1, ?_⟩
    have fr := fr_app hlt hgr hsrc
    obtain ⟨r1, r2⟩ := (unhide S2).told (unhide HL).1 (unhide HL).2 hM fr hg3
    rw [unhide hr]
    exact ⟨r1, ((g1.trans (Gb.of (below_alloc w1 _))).fr oo).trans r2⟩
  · have hd : decide ((romS E.m s).e = 0) = false := by simpa using he
    have hr := hide (show telS E.m c s = romS E.m s from if_neg he)
    rw [hd] at rc
    clear hd he
    go_enter Tryd.func45, Tryd.ntmps45
    go_wp2_with fail
    refine (unhide rc).mono ?_
    rintro e w1 ⟨rfl, s1, g1⟩
    go_wp2_with fail
    go_end0
    rw [unhide hr]
    exact ⟨rfl, oo, oc, s1, g1.fr oo⟩

set_option maxHeartbeats 1000000 in
theorem count_any (w : World) (least most : Int) (h0 : 0 ≤ least) (h1 : least ≤ 1000) (h2 : 0 ≤ most) (h3 : most ≤ 1000) (h : St E g w oo oc s ov) :
    Calls Tryd.prog 51 #[.pointer (some ⟨g, 0, none⟩), .int .i64 least, .int .i64 most] w fun e w' => e = .returned (.int .i64 (cntS E.bs least most s).1) ∧ St E g w' oo oc (cntS E.bs least most s).2 ov ∧ Gb g w w' := by
  have fc := hide (field_any w 5 (by omega) 5 rfl h)
  have bd := fldN_bd E.bs 5 s
  clear h
  by_cases hm : least + (fldN E.bs 5 s).1 ≤ most
  · have hr := hide (show cntS E.bs least most s = (least + (fldN E.bs 5 s).1, (fldN E.bs 5 s).2) by unfold cntS; rw [if_pos hm])
    generalize (fldN E.bs 5 s).1 = X at *
    generalize (fldN E.bs 5 s).2 = t at *
    go_enter Tryd.func51, Tryd.ntmps51
    go_wp2_with fail
    refine (unhide fc).mono ?_
    rintro e w1 ⟨rfl, s1, g1⟩
    go_wp2_with fail
    go_ret
    rw [unhide hr]
    exact ⟨rfl, s1, g1⟩
  · have hr := hide (show cntS E.bs least most s = (least + (fldN E.bs 5 s).1, stopS 5 (fldN E.bs 5 s).2) by unfold cntS; rw [if_neg hm])
    generalize (fldN E.bs 5 s).1 = X at *
    generalize (fldN E.bs 5 s).2 = t at *
    go_enter Tryd.func51, Tryd.ntmps51
    go_wp2_with fail
    refine (unhide fc).mono ?_
    rintro e w1 ⟨rfl, s1, g1⟩
    have sc := hide (stop_any w1 5 (by omega) (by omega) s1)
    go_wp2_with fail
    refine (unhide sc).mono ?_
    rintro e w2 ⟨rfl, s2, g2⟩
    go_wp2_with fail
    go_ret
    rw [unhide hr]
    exact ⟨rfl, s2, g1.trans g2⟩

set_option maxHeartbeats 1000000 in
theorem goesOn_any (w : World) (h : St E g w oo oc s ov) :
    Calls Tryd.prog 19 #[.pointer (some ⟨g, 0, none⟩)] w fun e w' => e = .returned (.bool (decide (ov = false ∧ s.e = 0))) ∧ w' = w := by
  have c2 := h.c2
  have c5 := h.c5
  clear h
  cases ov with
  | true =>
    go_enter Tryd.func19, Tryd.ntmps19
    go_wp2_with fail
    go_ret
    exact ⟨by simp, rfl⟩
  | false =>
    by_cases he : s.e = 0
    · have he' : (s.e == 0) = true := by simpa using he
      go_enter Tryd.func19, Tryd.ntmps19
      go_wp2_with fail
      go_ret
      exact ⟨by simp [he], rfl⟩
    · have he' : (s.e == 0) = false := by simpa using he
      go_enter Tryd.func19, Tryd.ntmps19
      go_wp2_with fail
      go_ret
      exact ⟨by simp [he], rfl⟩
end
end Go.Proofs.YtalkeooejobjhaaDoor
