/-
  What SamePackets of the statements' helpers returns for two lists that say the same: true. It writes nothing. Conditions: none but that the lists can be read.
-/
import Derived.Test.YtoblnmbbdhagbaaPktMem
import Derived.Deep.QuietTactic
import Derived.BigQuiet
import Derived.WalkSmall
namespace Go.Proofs.Ytoblnmbbdhagbaa
open Go.RowKit
set_option linter.unusedVariables false
set_option linter.unusedSimpArgs false

set_option maxHeartbeats 2000000 in
set_option maxRecDepth 20000 in
theorem samePackets_any (w : World) (ao : Option Addr) (n c : Nat) (bo : Option Addr) (m d : Nat) (l r : List Pm) (h : Pks w ao n c l) (k : Pks w bo m d r) (e : l.map pl = r.map pl) :
    Calls Try.prog 13 #[.slice ao n c, .slice bo m d] w fun e w' => e = .returned (.bool true) ∧ ∃ j, w' = w.drewN j := by
  have hmn : m = n := by have := congrArg List.length e; simp only [List.length_map] at this; rw [← h.len, ← k.len, this]
  subst hmn
  have hle := h.le
  have hmx := h.max
  have kle := k.le
  have kmx := k.max
  have hlen := hide h.len
  have klen := hide k.len
  have H := hide h
  have K := hide k
  have HE := hide e
  clear h k e
  go_enter Try.func13, Try.ntmps13
  go_wp2_with fail
  go_loopw [5] (fun i wr => ∃ k j : Nat, k ≤ m ∧ i = .int .i64 (k : Int) ∧ wr = w.drewN j) (fun i _ => m - (intOf i).toNat)
  case atStart => exact ⟨0, 0, by omega, rfl, rfl⟩
  case round =>
    obtain ⟨k, j, hk, rfl, hwr⟩ := hrel
    have H := hide (show Pks wr ao m c l by rw [hwr]; exact (unhide H).later (below_drewN w j))
    have K := hide (show Pks wr bo m d r by rw [hwr]; exact (unhide K).later (below_drewN w j))
    have HW := hide hwr
    clear hwr
    by_cases hlt : k < m
    · have hlt' : (k : Int) < (m : Int) := by omega
      obtain ⟨p, hp⟩ : ∃ p, l[k]? = some p := ⟨_, List.getElem?_eq_getElem (show k < l.length by rw [unhide hlen]; exact hlt)⟩
      obtain ⟨q, hq⟩ : ∃ q, r[k]? = some q := ⟨_, List.getElem?_eq_getElem (show k < r.length by rw [unhide klen]; exact hlt)⟩
      have epq : pl p = pl q := by
        have := congrArg (·[k]?) (unhide HE)
        simp only [List.getElem?_map, hp, hq, Option.map_some, Option.some.injEq] at this
        exact this
      obtain ⟨ib, io, hix, x0, x1, x2⟩ := (unhide H).idx hp (k : Int) rfl
      obtain ⟨jb, jo, hjx, y0, y1, y2⟩ := (unhide K).idx hq (k : Int) rfl
      have hB := (unhide H).bod p (List.mem_of_getElem? hp)
      have kB := (unhide K).bod q (List.mem_of_getElem? hq)
      obtain ⟨s1, n1, a1, c1, b1⟩ := p
      obtain ⟨s2, n2, a2, c2, b2⟩ := q
      simp only [pl, Prod.mk.injEq] at epq
      obtain ⟨rfl, rfl, rfl⟩ := epq
      simp only at x0 x1 x2 y0 y1 y2 hB kB
      have cs := hide (fun jj => sameBytes_any a1 b1.length c1 b1 a2 b1.length c2 b1 (wr.drewN jj) (hB.later (below_drewN wr jj)) (kB.later (below_drewN wr jj)))
      rw [show decide (b1 = b1) = true by simp] at cs
      clear hp hq hB kB
      generalize b1.length = BL at *
      go_wp2_with fail
      go_quiet (first | (go_at_call 10; refine Calls.quiet_of_same (unhide cs _)))
      go_wp2_with fail
      go_roundw
      case rel => exact ⟨k + 1, _, by omega, by go_num, (by rw [unhide HW]; exact World.drewN_drewN ..)⟩
      case measure => simp [intOf]; omega
    · have hlt' : ¬ (k : Int) < (m : Int) := by omega
      go_wp2_with fail
      go_ret
      exact ⟨rfl, j, unhide HW⟩

end Go.Proofs.Ytoblnmbbdhagbaa
