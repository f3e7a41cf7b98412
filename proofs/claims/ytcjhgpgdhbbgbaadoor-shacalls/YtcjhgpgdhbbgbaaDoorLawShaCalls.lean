/-
  The law ShaCalls returns true for any bytes: their hashes are those of the document's own answer, and what was handed in is kept. Conditions: the table of constants holds what the program's text says.
-/
import Derived.Test.YtcjhgpgdhbbgbaaDoorShaLives
import Derived.Test.YtcjhgpgdhbbgbaaDoorShaRef1
import Derived.Test.YtcjhgpgdhbbgbaaDoorShaRef2
import Derived.Test.YtcjhgpgdhbbgbaaDoorKit
namespace Go.Proofs.YtcjhgpgdhbbgbaaDoor
open Go.RowKit
set_option linter.unusedVariables false
set_option linter.unusedSimpArgs false

set_option maxHeartbeats 4000000 in
set_option maxRecDepth 20000 in
theorem lawShaCalls (bo : Option Addr) (bn bc : Nat) (bs : List Int) (w : World) (hv : Vars w) (h : Bs w bo bn bc bs) :
    Calls Tryd.prog 4 #[.slice bo bn bc] w fun e w' => e = .returned (.bool true) ∧ Below w.heap.size w w' := by
  have hle := h.le
  have hmx := h.max
  have hlen := hide h.len
  have H := hide h
  have HV := hide hv
  have hsz := hv.size
  have lv := hide (shalives_any w hv)
  clear h hv
  go_enter Tryd.func4, Tryd.ntmps4
  go_wp2_with fail
  refine (unhide lv).mono ?_
  rintro e w0 ⟨rfl, b0⟩
  by_cases hbig : 5000 < bn
  · have hbig' : (5000 : Int) < (bn : Int) := by omega
    go_wp2_with fail
    go_ret
    exact ⟨rfl, b0⟩
  · have hbig' : ¬ (5000 : Int) < (bn : Int) := by omega
    have hn : bn ≤ 5000 := by omega
    have oc := hide (own_any bo bn bc bs w0 ((unhide H).later b0) (by omega))
    have B0 := hide b0
    clear hbig b0 lv
    go_wp2_with fail
    refine (unhide oc).mono ?_
    rintro e w1 ⟨g, rfl, o1, b1⟩
    have O1 := hide o1
    have B1 := hide ((unhide B0).trans (b1.mono (unhide B0).size))
    have pc := hide (sum1_any (some ⟨g, 0, none⟩) bn (bn + 8) bs w1 (o1.pre (unhide hlen)) ((unhide HV).later hsz (unhide B1)) (by omega))
    clear o1 b1 oc B0
    go_wp2_with fail
    refine (unhide pc).mono ?_
    rintro e w2 ⟨a2, n2, c2, rfl, m2, b2⟩
    have O2 := hide ((unhide O1).later b2)
    have B2 := hide ((unhide B1).trans (b2.mono (unhide B1).size))
    have P2 := hide m2.bs
    have rc := hide (sum1_ref bo bn bc bs w2 ((unhide H).later (unhide B2)) (by omega))
    clear m2 b2 pc O1 B1
    go_wp2_with fail
    refine (unhide rc).mono ?_
    rintro e w3 ⟨a3, n3, c3, rfl, m3, b3⟩
    have O3 := hide ((unhide O2).later b3)
    have B3 := hide ((unhide B2).trans (b3.mono (unhide B2).size))
    have s1 := hide (sameBytes_any a2 n2 c2 (sumk 1 bs) a3 n3 c3 (sumk 1 bs) w3 ((unhide P2).later b3) m3.bs)
    rw [show decide (sumk 1 bs = sumk 1 bs) = true by simp] at s1
    have sc := hide (sum256_any (some ⟨g, 0, none⟩) bn (bn + 8) bs w3 ((unhide O3).pre (unhide hlen)) ((unhide HV).later hsz (unhide B3)) (by omega))
    clear m3 b3 rc O2 B2 P2
    go_wp2_with fail
    refine same_world (unhide s1) ?_
    go_wp2_with fail
    refine (unhide sc).mono ?_
    rintro e w4 ⟨a4, n4, c4, rfl, m4, b4⟩
    have O4 := hide ((unhide O3).later b4)
    have B4 := hide ((unhide B3).trans (b4.mono (unhide B3).size))
    have P4 := hide m4.bs
    have rr := hide (sum256_ref bo bn bc bs w4 ((unhide H).later (unhide B4)) (by omega))
    clear m4 b4 s1 sc O3 B3
    go_wp2_with fail
    refine (unhide rr).mono ?_
    rintro e w5 ⟨a5, n5, c5, rfl, m5, b5⟩
    have B5 := hide ((unhide B4).trans (b5.mono (unhide B4).size))
    have s2 := hide (sameBytes_any a4 n4 c4 (sumk 2 bs) a5 n5 c5 (sumk 2 bs) w5 ((unhide P4).later b5) m5.bs)
    rw [show decide (sumk 2 bs = sumk 2 bs) = true by simp] at s2
    have kc := hide (kept_any g bn bc bo bs w5 ((unhide O4).later b5) ((unhide H).later (unhide B5)) (by omega))
    clear m5 b5 rr O4 B4 P4
    go_wp2_with fail
    refine same_world (unhide s2) ?_
    go_wp2_with fail
    refine same_world (unhide kc) ?_
    go_wp2_with fail
    go_ret
    exact ⟨by first | rfl | simp, unhide B5⟩
end Go.Proofs.YtcjhgpgdhbbgbaaDoor
