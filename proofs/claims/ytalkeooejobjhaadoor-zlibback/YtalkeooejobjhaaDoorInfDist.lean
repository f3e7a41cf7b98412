/-
  What distance, of package inflate, does to a stream. Conditions: the state's own bounds.
-/
import Derived.Test.YtalkeooejobjhaaDoorInfTell
import Derived.Deep.MidRow
import Derived.Deep.RegionLaw
namespace Go.Proofs.YtalkeooejobjhaaDoor
open Go.RowKit
set_option linter.unusedVariables false
set_option linter.unusedSimpArgs false

theorem dst_bd : ∀ i, i < 30 → 1 ≤ dstB[i]?.getD 0 ∧ dstB[i]?.getD 0 ≤ 24577 ∧ dstX[i]?.getD 0 ≤ 13 := by decide
theorem len_bd : ∀ i, i < 29 → lenB[i]?.getD 0 ≤ 258 ∧ lenX[i]?.getD 0 ≤ 5 := by decide

section
variable {E : Env} {g : Nat} {w0 : World} {oo : Option Addr} {oc : Nat} {s : PS} {ov : Bool}

set_option maxHeartbeats 1000000 in
set_option maxRecDepth 20000 in
theorem distance_any (w : World) (ao : Option Addr) (n c : Nat) (D : List Int) (hL : Is w ao n c D) (h : St E g w oo oc s ov) :
    Calls Tryd.prog 49 #[.pointer (some ⟨g, 0, none⟩), .slice ao n c] w fun e w' => e = .returned (.int .i64 (dstS D E.bs s).1) ∧ St E g w' oo oc (dstS D E.bs s).2 ov ∧ Gb g w w' := by
  have sc := hide (symbol_any w ao n c D hL h)
  have bd := symS_bd D E.bs s
  have b2 := symS_320 D E.bs s
  have hr := hide (show dstS D E.bs s = dsyS E.bs (symS D E.bs s).1 (symS D E.bs s).2 from rfl)
  clear h hL
  generalize (symS D E.bs s).1 = X at *
  generalize (symS D E.bs s).2 = t at *
  obtain ⟨i, rfl⟩ : ∃ i : Nat, X = (i : Int) := ⟨X.toNat, by omega⟩
  by_cases h30 : i < 30
  · have hr2 := hide (show dsyS E.bs (i : Int) t = wthS E.bs (dstB[i]?.getD 0) (dstX[i]?.getD 0) t by unfold dsyS; rw [if_pos (by omega)]; simp)
    have db := dst_bd i h30
    obtain ⟨B, hB⟩ : ∃ B, B = dstB[i]?.getD 0 := ⟨_, rfl⟩
    obtain ⟨K, hK⟩ : ∃ K, K = dstX[i]?.getD 0 := ⟨_, rfl⟩
    rw [← hB, ← hK] at hr2 db
    have HB := hide hB
    have HK := hide hK
    clear hB hK
    have i1 : 0 ≤ (i : Int) ∧ (i : Int) < 30 := by omega
    go_enter Tryd.func49, Tryd.ntmps49
    go_wp2_with fail
    refine (unhide sc).mono ?_
    rintro e w1 ⟨rfl, s1, g1⟩
    have v1 := s1.vars.dstB i h30
    have v2 := s1.vars.dstX i h30
    rw [← unhide HB] at v1
    rw [← unhide HK] at v2
    have rl : ∀ wx : World, wx.heap = w1.heap → (Instr.loadAt 89 (.pointer (some ⟨1, i * 2, none⟩))).run Tryd.prog wx = .ok (.agg #[.int .i64 (B : Int), .int .i64 (K : Int)]) wx := by
      intro wx hx
      refine run_loadAt_mid wx 1 (i * 2) 89 [.int .i64 (B : Int), .int .i64 (K : Int)] _ ?_ Tryd.underlying89 rfl (by kernel_rfl)
      intro j u hj
      have e : ∀ a : Addr, wx.cell? a = w1.cell? a := fun a => by unfold World.cell?; rw [hx]
      match j, hj with
      | 0, hj => rw [e, ← Option.some.inj hj]; exact v1
      | 1, hj => rw [e, ← Option.some.inj hj]; exact v2
    have rl1 := rl w1.drew rfl
    have wc := hide (within_any w1.drew B K (by omega) (by omega) s1.drew)
    clear s1 rl
    go_wp2_with fail
    go_region_with (go_at_call 47; refine (unhide wc).mono ?_; rintro e w2 ⟨rfl, s2, g2⟩)
    all_goals have S2 := hide s2
    all_goals clear s2
    all_goals go_wp2_with fail
    all_goals go_ret
    all_goals rw [unhide hr, unhide hr2]
    all_goals exact ⟨rfl, unhide S2, (g1.drew).trans g2⟩
  · have hr2 := hide (show dsyS E.bs (i : Int) t = (0, stopS 5 t) by unfold dsyS; rw [if_neg (by omega)])
    have i1 : (30 : Int) ≤ (i : Int) := by omega
    go_enter Tryd.func49, Tryd.ntmps49
    go_wp2_with fail
    refine (unhide sc).mono ?_
    rintro e w1 ⟨rfl, s1, g1⟩
    have tc := hide (stop_any w1 5 (by omega) (by omega) s1)
    clear s1
    go_wp2_with fail
    refine (unhide tc).mono ?_
    rintro e w2 ⟨rfl, s2, g2⟩
    go_wp2_with fail
    go_ret
    rw [unhide hr, unhide hr2]
    exact ⟨rfl, s2, g1.trans g2⟩

end
end Go.Proofs.YtalkeooejobjhaaDoor
