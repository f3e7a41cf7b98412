/-
  The law ScrambleCalls returns true for any password, nonce, stored bytes, response and kind: what package scramble answers is what the document's own answer says. Conditions: the table of constants holds what the program's text says.
-/
import Derived.Test.YtfnnafhifpolmaaDoorScrLives
import Derived.Test.YtfnnafhifpolmaaDoorScrRef
import Derived.Test.YtfnnafhifpolmaaDoorSameB
namespace Go.Proofs.YtfnnafhifpolmaaDoor
open Go.RowKit
set_option linter.unusedVariables false
set_option linter.unusedSimpArgs false

theorem same_self {w : World} {ao bo : Option Addr} {n c m d : Nat} {l : List Int} (h : Bs w ao n c l) (k : Bs w bo m d l) :
    Calls Tryd.prog 17 #[.slice ao n c, .slice bo m d] w fun e w' => e = .returned (.bool true) ∧ w' = w := by
  have := sameBytes_any ao n c l bo m d l w h k
  rw [show decide (l = l) = true by simp] at this
  exact this

set_option maxHeartbeats 4000000 in
set_option maxRecDepth 20000 in
theorem lawScrCalls (p : ByteArray) (no : Option Addr) (nn nc : Nat) (ns : List Int) (so : Option Addr) (sn sc : Nat) (ss : List Int) (ro : Option Addr) (rn rc : Nat) (rs : List Int) (k : Int) (w : World) (hv : Vars w)
    (hn : Bs w no nn nc ns) (hs : Bs w so sn sc ss) (hr : Bs w ro rn rc rs) :
    Calls Tryd.prog 4 #[.string p, .slice no nn nc, .slice so sn sc, .slice ro rn rc, .int .i64 k] w fun e w' => e = .returned (.bool true) ∧ Below w.heap.size w w' := by
  have nle := hn.le
  have nmx := hn.max
  have sle := hs.le
  have smx := hs.max
  have rle := hr.le
  have rmx := hr.max
  have lv := hide (lives_any w hv)
  have HV := hide hv
  have HN := hide hn
  have HS := hide hs
  have HR := hide hr
  clear hv hn hs hr
  by_cases g1 : 500 < p.size
  · have g1' : (500 : Int) < (p.size : Int) := by omega
    go_enter Tryd.func4, Tryd.ntmps4
    go_wp2_with fail
    refine (unhide lv).mono ?_
    rintro e w0 ⟨rfl, b0⟩
    go_wp2_with fail
    go_ret
    exact ⟨rfl, b0⟩
  by_cases g2 : 500 < nn
  · have g1' : ¬ (500 : Int) < (p.size : Int) := by omega
    have g2' : (500 : Int) < (nn : Int) := by omega
    go_enter Tryd.func4, Tryd.ntmps4
    go_wp2_with fail
    refine (unhide lv).mono ?_
    rintro e w0 ⟨rfl, b0⟩
    go_wp2_with fail
    go_ret
    exact ⟨rfl, b0⟩
  by_cases g3 : 500 < sn
  · have g1' : ¬ (500 : Int) < (p.size : Int) := by omega
    have g2' : ¬ (500 : Int) < (nn : Int) := by omega
    have g3' : (500 : Int) < (sn : Int) := by omega
    go_enter Tryd.func4, Tryd.ntmps4
    go_wp2_with fail
    refine (unhide lv).mono ?_
    rintro e w0 ⟨rfl, b0⟩
    go_wp2_with fail
    go_ret
    exact ⟨rfl, b0⟩
  by_cases g4 : 500 < rn
  · have g1' : ¬ (500 : Int) < (p.size : Int) := by omega
    have g2' : ¬ (500 : Int) < (nn : Int) := by omega
    have g3' : ¬ (500 : Int) < (sn : Int) := by omega
    have g4' : (500 : Int) < (rn : Int) := by omega
    go_enter Tryd.func4, Tryd.ntmps4
    go_wp2_with fail
    refine (unhide lv).mono ?_
    rintro e w0 ⟨rfl, b0⟩
    go_wp2_with fail
    go_ret
    exact ⟨rfl, b0⟩
  have g1' : ¬ (500 : Int) < (p.size : Int) := by omega
  have g2' : ¬ (500 : Int) < (nn : Int) := by omega
  have g3' : ¬ (500 : Int) < (sn : Int) := by omega
  have g4' : ¬ (500 : Int) < (rn : Int) := by omega
  have hp : p.size ≤ 500 := by omega
  have hnn : nn ≤ 500 := by omega
  have hsn : sn ≤ 500 := by omega
  have hrn : rn ≤ 500 := by omega
  obtain ⟨E, hE⟩ : ∃ E, E = nck ns := ⟨_, rfl⟩
  have HE := hide hE
  clear g1 g2 g3 g4 hE
  go_enter Tryd.func4, Tryd.ntmps4
  go_wp2_with fail
  refine (unhide lv).mono ?_
  rintro e w0 ⟨rfl, b0⟩
  have B0 := hide b0
  have c1 := hide (native_any p no nn nc ns w0 ((unhide HN).later b0) ((unhide HV).low b0) (by omega))
  rw [← unhide HE] at c1
  clear b0 lv
  go_wp2_with fail
  refine (unhide c1).mono ?_
  rintro e w1 ⟨a1, n1, c1, rfl, m1, b1⟩
  have B1 := hide ((unhide B0).trans (b1.mono (unhide B0).size))
  have P1 := hide m1.bs
  have c2 := hide (native_ref p no nn nc ns w1 ((unhide HN).later (unhide B1)) (by omega))
  rw [← unhide HE] at c2
  clear m1 b1 B0
  go_wp2_with fail
  refine (unhide c2).mono ?_
  rintro e w2 ⟨a2, n2, c2, rfl, m2, b2⟩
  have B2 := hide ((unhide B1).trans (b2.mono (unhide B1).size))
  have P1 := hide ((unhide P1).later b2)
  have P2 := hide m2.bs
  have c3 := hide (fast_any p no nn nc ns w2 ((unhide HN).later (unhide B2)) ((unhide HV).low (unhide B2)) (by omega))
  rw [← unhide HE] at c3
  clear m2 b2 B1
  go_wp2_with fail
  refine (unhide c3).mono ?_
  rintro e w3 ⟨a3, n3, c3, rfl, m3, b3⟩
  have B3 := hide ((unhide B2).trans (b3.mono (unhide B2).size))
  have P1 := hide ((unhide P1).later b3)
  have P2 := hide ((unhide P2).later b3)
  have P3 := hide m3.bs
  have c4 := hide (fast_ref p no nn nc ns w3 ((unhide HN).later (unhide B3)) (by omega))
  rw [← unhide HE] at c4
  clear m3 b3 B2
  go_wp2_with fail
  refine (unhide c4).mono ?_
  rintro e w4 ⟨a4, n4, c4, rfl, m4, b4⟩
  have B4 := hide ((unhide B3).trans (b4.mono (unhide B3).size))
  have s1 := hide (same_self ((unhide P1).later b4) ((unhide P2).later b4))
  have s2 := hide (same_self ((unhide P3).later b4) m4.bs)
  have k1 := hide (check_any no nn nc ns w4 ((unhide HN).later (unhide B4)))
  have k2 := hide (check_ref no nn nc ns w4 ((unhide HN).later (unhide B4)))
  rw [← unhide HE] at k1 k2
  have d1 := hide (nonce_any no nn nc ns w4 ((unhide HN).later (unhide B4)))
  clear m4 b4 B3 P1 P2 P3
  go_wp2_with fail
  refine same_world (unhide s1) ?_
  go_wp2_with fail
  refine same_world (unhide s2) ?_
  go_wp2_with fail
  refine same_world (unhide k1) ?_
  go_wp2_with fail
  refine same_world (unhide k2) ?_
  clear s1 s2 k1 k2 HE
  obtain ⟨F, hF⟩ : ∃ F, F = nonE ns := ⟨_, rfl⟩
  rw [← hF] at d1
  have HF := hide hF
  clear hF
  go_wp2_with fail
  refine (unhide d1).mono ?_
  rintro e w5 ⟨a5, n5, c5, rfl, m5, b5⟩
  have B5 := hide ((unhide B4).trans (b5.mono (unhide B4).size))
  have P5 := hide m5.bs
  have d2 := hide (nonce_ref no nn nc ns w5 ((unhide HN).later (unhide B5)))
  rw [← unhide HF] at d2
  clear m5 b5 B4
  go_wp2_with fail
  refine (unhide d2).mono ?_
  rintro e w6 ⟨a6, n6, c6, rfl, m6, b6⟩
  have B6 := hide ((unhide B5).trans (b6.mono (unhide B5).size))
  have P5 := hide ((unhide P5).later b6)
  have P6 := hide m6.bs
  have d3 := hide (stored_any k p w6 ((unhide HV).low (unhide B6)) (by omega))
  obtain ⟨G, hG⟩ : ∃ G, G = stoE k := ⟨_, rfl⟩
  rw [← hG] at d3
  have HG := hide hG
  clear m6 b6 B5 hG
  go_wp2_with fail
  refine (unhide d3).mono ?_
  rintro e w7 ⟨a7, n7, c7, rfl, m7, b7⟩
  have B7 := hide ((unhide B6).trans (b7.mono (unhide B6).size))
  have P5 := hide ((unhide P5).later b7)
  have P6 := hide ((unhide P6).later b7)
  have P7 := hide m7.bs
  have d4 := hide (stored_ref k p w7 (by omega))
  rw [← unhide HG] at d4
  clear m7 b7 B6
  go_wp2_with fail
  refine (unhide d4).mono ?_
  rintro e w8 ⟨a8, n8, c8, rfl, m8, b8⟩
  have B8 := hide ((unhide B7).trans (b8.mono (unhide B7).size))
  have s1 := hide (same_self ((unhide P5).later b8) ((unhide P6).later b8))
  have s2 := hide (same_self ((unhide P7).later b8) m8.bs)
  have q1 := hide (right_any k so sn sc ss no nn nc ns ro rn rc rs w8 ((unhide HS).later (unhide B8)) ((unhide HN).later (unhide B8)) ((unhide HR).later (unhide B8)) ((unhide HV).low (unhide B8)) (by omega) (by omega))
  obtain ⟨X, hX⟩ : ∃ X, X = rgE k ss ns := ⟨_, rfl⟩
  obtain ⟨Y, hY⟩ : ∃ Y, Y = rgA k ss ns rs := ⟨_, rfl⟩
  rw [← hX, ← hY] at q1
  have HX := hide hX
  have HY := hide hY
  clear m8 b8 B7 P5 P6 P7 hX hY
  go_wp2_with fail
  refine same_world (unhide s1) ?_
  go_wp2_with fail
  refine same_world (unhide s2) ?_
  go_wp2_with fail
  refine (unhide q1).mono ?_
  rintro e w9 ⟨rfl, b9⟩
  have B9 := hide ((unhide B8).trans (b9.mono (unhide B8).size))
  have q2 := hide (right_ref k so sn sc ss no nn nc ns ro rn rc rs w9 ((unhide HS).later (unhide B9)) ((unhide HN).later (unhide B9)) ((unhide HR).later (unhide B9)) (by omega) (by omega))
  rw [← unhide HX, ← unhide HY] at q2
  clear b9 B8
  go_wp2_with fail
  refine (unhide q2).mono ?_
  rintro e w10 ⟨rfl, b10⟩
  have B10 := hide ((unhide B9).trans (b10.mono (unhide B9).size))
  clear b10 B9
  go_wp2_with fail
  go_ret
  exact ⟨by first | rfl | simp, unhide B10⟩
end Go.Proofs.YtfnnafhifpolmaaDoor
