/-
  The law DeflatePieces returns true for any pieces: they are put together, and made a stream, as the document's own answer does it.
-/
import Derived.Test.YtmlodlmmfkpibaaDefLives
import Derived.Test.YtmlodlmmfkpibaaRefFix
import Derived.Test.YtmlodlmmfkpibaaDefExp2
namespace Go.Proofs.Ytmlodlmmfkpibaa
open Go.RowKit
set_option linter.unusedVariables false
set_option linter.unusedSimpArgs false

set_option maxHeartbeats 4000000 in
set_option maxRecDepth 20000 in
theorem lawDefPieces (ao : Option Addr) (n c : Nat) (l : List Pc) (w : World) (h : Ps w ao n c l) :
    Calls Try.prog 5 #[.slice ao n c] w fun e w' => e = .returned (.bool true) ∧ Below w.heap.size w w' := by
  have hle := h.le
  have hmx := h.max
  have hlen := hide h.len
  have H := hide h
  clear h
  go_enter Try.func5, Try.ntmps5
  go_wp2_with fail
  refine (dlives_any w).mono ?_
  rintro e w0 ⟨rfl, b0⟩
  by_cases hbig : 300 < n
  · have hbig' : (300 : Int) < (n : Int) := by omega
    go_wp2_with fail
    go_ret
    exact ⟨rfl, b0⟩
  · have hbig' : ¬ (300 : Int) < (n : Int) := by omega
    have hn3 : n ≤ 300 := by omega
    have H0 := hide ((unhide H).later b0)
    have B0 := hide b0
    have xc := hide (expand_any w0 ao n c l (unhide H0) (by omega))
    obtain ⟨E, hE⟩ : ∃ E, E = exq l := ⟨_, rfl⟩
    obtain ⟨F, hF⟩ : ∃ F, F = fxq l := ⟨_, rfl⟩
    rw [← hE] at xc
    have HE := hide hE
    have HF := hide hF
    obtain ⟨E1, E2⟩ := E
    obtain ⟨F1, F2⟩ := F
    simp only at xc
    clear hbig b0 hE hF
    go_wp2_with fail
    refine (unhide xc).mono ?_
    rintro e w1 ⟨a1, n1, c1, rfl, m1, b1⟩
    have rc := hide (expand_ref w1 ao n c l ((unhide H0).later b1) (by omega))
    rw [← unhide HE] at rc
    simp only at rc
    have X1 := hide m1.bs
    have B1 := hide ((unhide B0).trans (b1.mono (unhide B0).size))
    clear m1 b1 xc B0
    go_wp2_with fail
    refine (unhide rc).mono ?_
    rintro e w2 ⟨a2, n2, c2, rfl, m2, b2⟩
    have X2 := hide ((unhide X1).later b2)
    have Y2 := hide m2.bs
    have B2 := hide ((unhide B1).trans (b2.mono (unhide B1).size))
    have fc := hide (fixed_pc w2 ao n c l ((unhide H).later (unhide B2)) (by omega))
    rw [← unhide HF] at fc
    simp only at fc
    clear m2 b2 rc B1 X1
    go_wp2_with fail
    refine (unhide fc).mono ?_
    rintro e w3 ⟨a3, n3, c3, rfl, m3, b3⟩
    have X3 := hide ((unhide X2).later b3)
    have Y3 := hide ((unhide Y2).later b3)
    have Z3 := hide m3.bs
    have B3 := hide ((unhide B2).trans (b3.mono (unhide B2).size))
    have gc := hide (fixed_ref w3 ao n c l ((unhide H).later (unhide B3)) (by omega))
    rw [← unhide HF] at gc
    simp only at gc
    clear m3 b3 fc B2 X2 Y2
    go_wp2_with fail
    refine (unhide gc).mono ?_
    rintro e w4 ⟨a4, n4, c4, rfl, m4, b4⟩
    have s1 := hide (sameBytes_any a1 n1 c1 E1 a2 n2 c2 E1 w4 ((unhide X3).later b4) ((unhide Y3).later b4))
    have s2 := hide (sameBytes_any a3 n3 c3 F1 a4 n4 c4 F1 w4 ((unhide Z3).later b4) m4.bs)
    rw [show decide (E1 = E1) = true by simp] at s1
    rw [show decide (F1 = F1) = true by simp] at s2
    have B4 := hide ((unhide B3).trans (b4.mono (unhide B3).size))
    clear m4 b4 gc B3 X3 Y3 Z3
    go_wp2_with fail
    refine same_world (unhide s1) ?_
    go_wp2_with fail
    refine same_world (unhide s2) ?_
    go_wp2_with fail
    go_ret
    exact ⟨by first | rfl | simp, unhide B4⟩
end Go.Proofs.Ytmlodlmmfkpibaa
