/-
  The law DeflateCalls returns true for any bytes: they are cut into pieces, and made a stream, as the document's own answer does it, and what was handed in is kept.
-/
import Derived.Test.YtmlodlmmfkpibaaDefSame
import Derived.Test.YtmlodlmmfkpibaaRefSto
import Derived.Test.YtmlodlmmfkpibaaKit
namespace Go.Proofs.Ytmlodlmmfkpibaa
open Go.RowKit
set_option linter.unusedVariables false
set_option linter.unusedSimpArgs false

set_option maxHeartbeats 4000000 in
set_option maxRecDepth 20000 in
theorem lawDefCalls (bo : Option Addr) (bn bc : Nat) (bs : List Int) (w : World) (h : Bs w bo bn bc bs) :
    Calls Try.prog 4 #[.slice bo bn bc] w fun e w' => e = .returned (.bool true) ∧ Below w.heap.size w w' := by
  have hle := h.le
  have hmx := h.max
  have hlen := hide h.len
  have H := hide h
  clear h
  go_enter Try.func4, Try.ntmps4
  go_wp2_with fail
  refine (dlives_any w).mono ?_
  rintro e w0 ⟨rfl, b0⟩
  by_cases hbig : 1200 < bn
  · have hbig' : (1200 : Int) < (bn : Int) := by omega
    go_wp2_with fail
    go_ret
    exact ⟨rfl, b0⟩
  · have hbig' : ¬ (1200 : Int) < (bn : Int) := by omega
    have hn : bn ≤ 1200 := by omega
    have oc := hide (own_any bo bn bc bs w0 ((unhide H).later b0) (by omega))
    have B0 := hide b0
    clear hbig b0
    go_wp2_with fail
    refine (unhide oc).mono ?_
    rintro e w1 ⟨g, rfl, o1, b1⟩
    have O1 := hide o1
    have B1 := hide ((unhide B0).trans (b1.mono (unhide B0).size))
    have pc := hide (pieces_any w1 (some ⟨g, 0, none⟩) bn (bn + 8) bs (o1.pre (unhide hlen)) (by omega))
    clear o1 b1 oc B0
    go_wp2_with fail
    refine (unhide pc).mono ?_
    rintro e w2 ⟨a2, n2, c2, rfl, m2, b2⟩
    have O2 := hide ((unhide O1).later b2)
    have B2 := hide ((unhide B1).trans (b2.mono (unhide B1).size))
    have P2 := hide m2.ps
    have rc := hide (pieces_ref w2 bo bn bc bs ((unhide H).later (unhide B2)) (by omega))
    clear m2 b2 pc O1 B1
    go_wp2_with fail
    refine (unhide rc).mono ?_
    rintro e w3 ⟨a3, n3, c3, rfl, m3, b3⟩
    have O3 := hide ((unhide O2).later b3)
    have B3 := hide ((unhide B2).trans (b3.mono (unhide B2).size))
    have sp := hide (samePcs_any w3 a2 n2 c2 a3 n3 c3 (pieces bs) ((unhide P2).later b3) m3.ps)
    clear m3 b3 rc O2 B2 P2
    go_wp2_with fail
    refine (unhide sp).mono ?_
    rintro e w4 ⟨rfl, b4⟩
    have O4 := hide ((unhide O3).later b4)
    have B4 := hide ((unhide B3).trans (b4.mono (unhide B3).size))
    have sc := hide (stored_bs w4 (some ⟨g, 0, none⟩) bn (bn + 8) bs ((unhide O4).pre (unhide hlen)) (by omega))
    clear b4 sp O3 B3
    go_wp2_with fail
    refine (unhide sc).mono ?_
    rintro e w5 ⟨a5, n5, c5, rfl, m5, b5⟩
    have O5 := hide ((unhide O4).later b5)
    have B5 := hide ((unhide B4).trans (b5.mono (unhide B4).size))
    have X5 := hide m5.bs
    have sr := hide (stored_ref w5 bo bn bc bs ((unhide H).later (unhide B5)) (by omega))
    clear m5 b5 sc O4 B4
    go_wp2_with fail
    refine (unhide sr).mono ?_
    rintro e w6 ⟨a6, n6, c6, rfl, m6, b6⟩
    have O6 := hide ((unhide O5).later b6)
    have B6 := hide ((unhide B5).trans (b6.mono (unhide B5).size))
    have s1 := hide (sameBytes_any a5 n5 c5 (sto bs) a6 n6 c6 (sto bs) w6 ((unhide X5).later b6) m6.bs)
    rw [show decide (sto bs = sto bs) = true by simp] at s1
    have dc := hide (deflate_any w6 (some ⟨g, 0, none⟩) bn (bn + 8) bs ((unhide O6).pre (unhide hlen)) (by omega))
    clear m6 b6 sr O5 B5 X5
    go_wp2_with fail
    refine same_world (unhide s1) ?_
    go_wp2_with fail
    refine (unhide dc).mono ?_
    rintro e w7 ⟨a7, n7, c7, rfl, m7, b7⟩
    have O7 := hide ((unhide O6).later b7)
    have B7 := hide ((unhide B6).trans (b7.mono (unhide B6).size))
    have X7 := hide m7.bs
    have dr := hide (deflate_ref w7 bo bn bc bs ((unhide H).later (unhide B7)) (by omega))
    clear m7 b7 dc s1 O6 B6
    go_wp2_with fail
    refine (unhide dr).mono ?_
    rintro e w8 ⟨a8, n8, c8, rfl, m8, b8⟩
    have B8 := hide ((unhide B7).trans (b8.mono (unhide B7).size))
    have s2 := hide (sameBytes_any a7 n7 c7 (dfl bs) a8 n8 c8 (dfl bs) w8 ((unhide X7).later b8) m8.bs)
    rw [show decide (dfl bs = dfl bs) = true by simp] at s2
    have kc := hide (kept_any g bn bc bo bs w8 ((unhide O7).later b8) ((unhide H).later (unhide B8)) (by omega))
    clear m8 b8 dr O7 B7 X7
    go_wp2_with fail
    refine same_world (unhide s2) ?_
    go_wp2_with fail
    refine same_world (unhide kc) ?_
    go_wp2_with fail
    go_ret
    exact ⟨by first | rfl | simp, unhide B8⟩
end Go.Proofs.Ytmlodlmmfkpibaa
