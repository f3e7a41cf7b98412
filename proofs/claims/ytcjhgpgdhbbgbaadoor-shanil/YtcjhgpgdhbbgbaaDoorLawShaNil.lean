/-
  The law ShaNil returns true for any bytes: a hash that is not there, or that nobody made, refuses every call. Conditions: the table of constants holds what the program's text says.
-/
import Derived.Test.YtcjhgpgdhbbgbaaDoorShaLives
namespace Go.Proofs.YtcjhgpgdhbbgbaaDoor
open Go.RowKit
set_option linter.unusedVariables false
set_option linter.unusedSimpArgs false

theorem wpList_hBuild0 {ops : Array Oper} {rest : List Oper} {o : Oper} {a : Act} {w : World} {Q : Exit → Act → World → Prop} (hgd : o.guard = none) (ho : o.op = .build 41 #[])
    (h : wpList Tryd.prog ops Q rest (a.put o.dst (.agg (hv 0 (zs 8) (zs 64) 0))) w) : wpList Tryd.prog ops Q (o :: rest) a w :=
  wpList_bld hgd 41 #[] ho _ (by simp only [List.map_toArray, List.map_nil]; exact hBuilt0) h

set_option maxHeartbeats 4000000 in
set_option maxRecDepth 20000 in
theorem lawShaNil (bo : Option Addr) (bn bc : Nat) (bs : List Int) (w : World) (hv : Vars w) (h : Bs w bo bn bc bs) :
    Calls Tryd.prog 6 #[.slice bo bn bc] w fun e w' => e = .returned (.bool true) ∧ Below w.heap.size w w' := by
  have HV := hide hv
  clear hv h
  go_enter Tryd.func6, Tryd.ntmps6
  go_wp2_with (first
    | (with_reducible show wpList Tryd.prog _ _ (Oper.mk _ (Op.build 41 _) _ _ _ none :: _) _ _; refine wpList_hBuild0 rfl rfl ?_)
    | (with_reducible show wpList Tryd.prog _ _ (Oper.mk _ (Op.box 41 _) _ _ _ none :: _) _ _; refine wpList_hBox rfl (.tmp 5) rfl 0 (zs 8) (zs 64) 0 (zs_len 8) (zs_len 64) rfl ?_; intro w1 h1 b1 s1; have H1 := hide h1; have B1 := hide b1; have S1 := hide s1; clear h1 b1 s1))
  obtain ⟨w2, hw2⟩ : ∃ w2, w1.alloc (.cells #[.pointer none, .pointer (some ⟨w.heap.size, 0, none⟩)] 22) = w2 := ⟨_, rfl⟩
  have c0 : w2.cell? ⟨w1.heap.size, 0, none⟩ = some (.pointer none) := by rw [← hw2]; simp
  have c1 : w2.cell? ⟨w1.heap.size, 1, none⟩ = some (.pointer (some ⟨w.heap.size, 0, none⟩)) := by rw [← hw2]; simp
  have H2 := hide (show Hs w2 w.heap.size 0 (zs 8) (zs 64) 0 by rw [← hw2]; exact (unhide H1).later (below_alloc w1 _))
  have B2 := hide (show Below w.heap.size w w2 by rw [← hw2]; exact (unhide B1).trans ((below_alloc w1 _).mono (unhide B1).size))
  rw [hw2]
  have n0 := hide (show Nobody w2 none from .inl rfl)
  have n1 := hide (show Nobody w2 (some ⟨w.heap.size, 0, none⟩) from .inr ⟨_, _, _, _, rfl, unhide H2⟩)
  have lc := hide (shalives_any w2 ((unhide HV).low (unhide B2)))
  clear hw2 H1 B1 S1 H2
  go_loop [4] (fun i => ∃ j : Nat, j ≤ 2 ∧ i = .int .i64 j) (fun i => 2 - (intOf i).toNat)
  case atStart => exact ⟨0, by omega, rfl⟩
  case round =>
    obtain ⟨j, hj, rfl⟩ := hrel
    by_cases h0 : j = 0
    · subst h0
      have q1 := hide (write_no none (.slice bo bn bc) w2 (unhide n0))
      have q2 := hide (sum_no none w2 (unhide n0))
      have q3 := hide (len_no none w2 (unhide n0))
      go_wp2_with fail
      refine same_world (unhide q1) ?_
      go_wp2_with fail
      refine same_world (unhide q2) ?_
      go_wp2_with fail
      refine same_world (unhide q3) ?_
      go_wp2_with fail
      go_round
      case rel => exact ⟨1, by omega, rfl⟩
      case measure => simp [intOf]
    · by_cases h1 : j = 1
      · subst h1
        have q1 := hide (write_no _ (.slice bo bn bc) w2 (unhide n1))
        have q2 := hide (sum_no _ w2 (unhide n1))
        have q3 := hide (len_no _ w2 (unhide n1))
        go_wp2_with fail
        refine same_world (unhide q1) ?_
        go_wp2_with fail
        refine same_world (unhide q2) ?_
        go_wp2_with fail
        refine same_world (unhide q3) ?_
        go_wp2_with fail
        go_round
        case rel => exact ⟨2, by omega, rfl⟩
        case measure => simp [intOf]
      · have hj2 : j = 2 := by omega
        subst hj2
        go_wp2_with fail
        refine (unhide lc).mono ?_
        rintro e w3 ⟨rfl, b3⟩
        have B3 := hide ((unhide B2).trans (b3.mono (unhide B2).size))
        go_wp2_with fail
        go_ret
        exact ⟨rfl, unhide B3⟩

end Go.Proofs.YtcjhgpgdhbbgbaaDoor
