/-
  What part and step of a squeezed reader do: the plain functions. Conditions: the state's own bounds; the bytes of a step lie apart from the reader; the tables hold what the program's text says.
-/
import Derived.Test.YtnoabdafmgmenaaGreatDoorSqMem
import Derived.Test.YtnoabdafmgmenaaGreatDoorSqLit
import Derived.Deep.RegionHeld3
namespace Go.Proofs.YtnoabdafmgmenaaGreatDoor
open Go.RowKit
set_option linter.unusedVariables false
set_option linter.unusedSimpArgs false

section
variable {g : Nat} {M : Int} {ho : Option Addr} {hc : Nat} {s : QS}

/-- Behind part. -/
def OutPt (w : World) (ho : Option Addr) (r : List Int × Int) (e : Ending) (w' : World) : Prop :=
  ∃ pa pn pc', e = .returned (.tuple #[.slice pa pn pc', .int .i64 r.2]) ∧ Bs w' pa pn pc' r.1 ∧ (∀ k, ob pa k → ob ho k ∨ w.heap.size ≤ k ∧ k < w'.heap.size) ∧ Below w.heap.size w w'

set_option maxHeartbeats 2000000 in
theorem qPart_any (w : World) (h : Rq w g M ho hc s) (hv : Vars w) (hl : s.held.length = 7 + qN s.held) (hT : qT s.held ≤ 1000) :
    Calls Tryz.prog 28 #[.pointer (some ⟨g, 0, none⟩)] w fun e w' => OutPt w ho (qfr s.held) e w' := by
  have c2 := h.c2
  have hb := h.own.bs
  obtain ⟨ao, c', hs, hcut⟩ := hb.cut_l (show 7 ≤ s.held.length by omega) (7 : Int) rfl
  have hao : ∀ k, ob ao k → ob ho k := by
    have h1 := hs default
    rw [run_cut_l ho s.held.length hc 7 (by omega) (7 : Int) rfl default] at h1
    simp only [Result.ok.injEq, Value.slice.injEq, and_true] at h1
    intro k hk
    rw [← h1.1] at hk
    exact ob_cut hk
  have ct := hide (fun j => qLength_any (w.drewN j) (h.drewN j) 4 (by omega) 4 rfl)
  have hi := qT_int h.own.byt
  rw [← hi] at ct
  have hh := h.ok.hl
  have hr := hide (show qfr s.held = qF (s.held.drop 7) (qT s.held) by unfold qfr; rw [List.take_of_length_le (by rw [List.length_drop]; omega)])
  rw [unhide hr]
  have cu := hide (fun j => unpack_any 100000 (w.drewN j) ao (s.held.length - 7) c' (s.held.drop 7) (qT s.held : Int) (hcut.drewN j) (hv.low (below_drewN w j)) (by omega) (by omega) (by omega))
  have HC := hide (fun w' (q : Below w.heap.size w w') => hcut.later q)
  have HO := hide hao
  have ul := unp_le 100000 (by omega) (s.held.drop 7) (qT s.held : Int) (by omega)
  clear h hb hcut hao hi hr hv hl
  generalize s.held.drop 7 = D at *
  generalize qT s.held = T at *
  generalize hH : s.held.length = H at *
  clear hH
  by_cases a0 : T = 0
  · subst a0
    have hq : qF D 0 = (D, 0) := by unfold qF; rw [if_pos rfl]
    rw [hq]
    clear hq cu ul
    go_enter Tryz.func28, Tryz.ntmps28
    go_wp2_with fail
    go_quiet (first | (go_at_call 26; refine Calls.quiet_of_same (unhide ct _)))
    go_wp2_with fail
    go_ret2
    exact ⟨ao, H - 7, c', rfl, unhide HC _ (below_drewN w nq), fun k q => .inl (unhide HO k q), below_drewN w nq⟩
  · have b0 : (T == 0) = false := by simpa using a0
    have b0' : ((T : Int) == 0) = false := by simpa using a0
    have Q := hide (show qF D T = if (unp 100000 D (T : Int)).2 = 8 then ([], 8) else if (unp 100000 D (T : Int)).2 ≠ 0 ∨ (unp 100000 D (T : Int)).1.length < T then ([], 5) else ((unp 100000 D (T : Int)).1, 0) by unfold qF; rw [if_neg a0])
    rw [unhide Q]
    clear Q
    generalize unp 100000 D (T : Int) = U at *
    obtain ⟨u1, u2⟩ := U
    simp only at ul ⊢
    by_cases a1 : u2 = 8
    · rw [if_pos a1]
      subst a1
      go_enter Tryz.func28, Tryz.ntmps28
      go_wp2_with fail
      go_quiet (first | (go_at_call 26; refine Calls.quiet_of_same (unhide ct _)))
      go_wp2_with (go_at_call 34; refine (unhide cu _).mono ?_; rintro e w2 ⟨a2, n2, k2, rfl, m2, b2⟩; have M2 := hide m2; have B2 := hide b2; clear m2 b2)
      go_ret2
      exact ⟨none, 0, 0, rfl, Bs.nought _, fun k q => absurd q ob_none, (below_drewN w nq).trans (unhide B2)⟩
    · have b1 : (u2 == 8) = false := by simpa using a1
      rw [if_neg a1]
      by_cases a2 : u2 ≠ 0 ∨ u1.length < T
      · rw [if_pos a2]
        by_cases a3 : u2 = 0
        · subst a3
          have a4 : u1.length < T := a2.resolve_left (by simp)
          clear a2
          go_enter Tryz.func28, Tryz.ntmps28
          go_wp2_with fail
          go_quiet (first | (go_at_call 26; refine Calls.quiet_of_same (unhide ct _)))
          go_wp2_with (go_at_call 34; refine (unhide cu _).mono ?_; rintro e w2 ⟨a2, n2, k2, rfl, m2, b2⟩; have hn2 := m2.len; have a5 : (n2 : Int) < (T : Int) := (by simp only at hn2; omega); have M2 := hide m2; have B2 := hide b2; clear m2 b2 hn2)
          go_ret2
          exact ⟨none, 0, 0, rfl, Bs.nought _, fun k q => absurd q ob_none, (below_drewN w nq).trans (unhide B2)⟩
        · have b3 : (u2 != 0) = true := by simpa using a3
          clear a2
          go_enter Tryz.func28, Tryz.ntmps28
          go_wp2_with fail
          go_quiet (first | (go_at_call 26; refine Calls.quiet_of_same (unhide ct _)))
          go_wp2_with (go_at_call 34; refine (unhide cu _).mono ?_; rintro e w2 ⟨a2, n2, k2, rfl, m2, b2⟩; have M2 := hide m2; have B2 := hide b2; clear m2 b2)
          go_ret2
          exact ⟨none, 0, 0, rfl, Bs.nought _, fun k q => absurd q ob_none, (below_drewN w nq).trans (unhide B2)⟩
      · rw [if_neg a2]
        have a3 : u2 = 0 := by
          by_cases q : u2 = 0
          · exact q
          · exact absurd (.inl q) a2
        subst a3
        have a4 : ¬ u1.length < T := fun q => a2 (.inr q)
        clear a2
        go_enter Tryz.func28, Tryz.ntmps28
        go_wp2_with fail
        go_quiet (first | (go_at_call 26; refine Calls.quiet_of_same (unhide ct _)))
        go_wp2_with (go_at_call 34; refine (unhide cu _).mono ?_; rintro e w2 ⟨a2, n2, k2, rfl, m2, b2⟩; have hn2 := m2.len; have a5 : ¬ (n2 : Int) < (T : Int) := (by simp only at hn2; omega); have M2 := hide m2; have B2 := hide b2; clear m2 b2 hn2)
        go_ret2
        exact ⟨a2, n2, k2, rfl, (unhide M2).bs, fun k q => .inr ((unhide M2).ob q), (below_drewN w nq).trans (unhide B2)⟩
end
end Go.Proofs.YtnoabdafmgmenaaGreatDoor
