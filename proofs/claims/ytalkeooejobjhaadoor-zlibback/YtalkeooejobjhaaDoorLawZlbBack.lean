/-
  The law ZlibBack returns true for any bytes and any number: whatever is wrapped is read back, just as long as it was. Conditions: the tables hold what the program's text says.
-/
import Derived.Test.YtalkeooejobjhaaDoorZlbLives
namespace Go.Proofs.YtalkeooejobjhaaDoor
open Go.RowKit
set_option linter.unusedVariables false
set_option linter.unusedSimpArgs false

set_option maxHeartbeats 4000000 in
set_option maxRecDepth 20000 in
theorem lawZlbBack (bo : Option Addr) (bn bc : Nat) (bs : List Int) (mo : Int) (w : World) (hv : Vars w) (h : Bs w bo bn bc bs) (hi : mo ≤ 9223372036854775807) :
    Calls Tryd.prog 4 #[.slice bo bn bc, .int .i64 mo] w fun e w' => e = .returned (.bool true) ∧ Below w.heap.size w w' := by
  have hle := h.le
  have hmx := h.max
  have hlen := hide h.len
  have H := hide h
  have HV := hide hv
  have lc := hide (zlives_any w hv)
  clear h hv
  by_cases hbig : 1200 < bn
  · have hbig' : (1200 : Int) < (bn : Int) := by omega
    go_enter Tryd.func4, Tryd.ntmps4
    go_wp2_with fail
    refine (unhide lc).mono ?_
    rintro e w0 ⟨rfl, b0⟩
    go_wp2_with fail
    go_ret
    exact ⟨rfl, b0⟩
  have hbig' : ¬ (1200 : Int) < (bn : Int) := by omega
  by_cases hneg : mo < 0
  · go_enter Tryd.func4, Tryd.ntmps4
    go_wp2_with fail
    refine (unhide lc).mono ?_
    rintro e w0 ⟨rfl, b0⟩
    go_wp2_with fail
    go_ret
    exact ⟨rfl, b0⟩
  have hb12 : bn ≤ 1200 := by omega
  clear hbig
  go_enter Tryd.func4, Tryd.ntmps4
  go_wp2_with fail
  refine (unhide lc).mono ?_
  rintro e w0 ⟨rfl, b0⟩
  have H0 := hide ((unhide H).later b0)
  have B0 := hide b0
  have hby := (unhide H).byt
  have hbl : bs.length ≤ 1200 := by rw [unhide hlen]; exact hb12
  have hlI : (bs.length : Int) = (bn : Int) := by rw [unhide hlen]
  have e1 := hide (unp_back (F := 100000) (bs := bs) (m := (bn : Int)) (by omega) hby (by omega) (by omega))
  have e2 := hide (fun (M : Int) (q : (bn : Int) ≤ M) => unp_back (F := 100000) (bs := bs) (m := M) (by omega) hby (by omega) (by omega))
  have e3 := hide (fun q : 0 < bn => unp_long (F := 100000) (bs := bs) (m := (bn : Int) - 1) (by omega) hby (by omega) (by omega) (by omega))
  have e4 := hide (show hdE (pkd bs) = 0 from hdE_fine _)
  have hpl := hide (pkd_len bs)
  have hdl := hide (dfl_le bs)
  have pc := hide (pack_any w0 bo bn bc bs (unhide H0) (by omega))
  clear b0 lc hby hbl hlI
  go_wp2_with fail
  refine (unhide pc).mono ?_
  rintro e w1 ⟨a1, n1, c1, rfl, m1, b1⟩
  have P1 := hide m1.bs
  have H1 := hide ((unhide H0).later b1)
  have B1 := hide ((unhide B0).trans (b1.mono (unhide B0).size))
  have hn1 : n1 ≤ 1211 := by have := m1.len; have := unhide hpl; have := unhide hdl; have := unhide hlen; omega
  have u1 := hide (unpack_any 100000 w1 a1 n1 c1 (pkd bs) (bn : Int) (unhide P1) ((unhide HV).low (unhide B1)) (by omega) (by omega) (by omega))
  rw [unhide e1] at u1
  clear m1 b1 pc H0 B0
  go_wp2_with fail
  refine (unhide u1).mono ?_
  rintro e w2 ⟨a2, n2, c2, rfl, m2, b2⟩
  have X2 := hide m2.bs
  have P2 := hide ((unhide P1).later b2)
  have H2 := hide ((unhide H1).later b2)
  have B2 := hide ((unhide B1).trans (b2.mono (unhide B1).size))
  have u2 : Hid (∀ M : Int, (bn : Int) ≤ M → M ≤ 30000 → Calls Tryd.prog 7 #[.slice a1 n1 c1, .int .i64 M] w2 fun e w' => OutU w2 (bs, 0) e w') := hide (fun M q1 q2 => by
    have := unpack_any 100000 w2 a1 n1 c1 (pkd bs) M (unhide P2) ((unhide HV).low (unhide B2)) (by omega) (by omega) (by omega)
    rw [unhide e2 M q1] at this
    exact this)
  clear m2 b2 u1 H1 B1 P1
  go_wp2_with fail
  all_goals
    refine (unhide u2 _ (by omega) (by omega)).mono ?_
    rintro e w3 ⟨a3, n3, c3, rfl, m3, b3⟩
    have H3 := hide ((unhide H2).later b3)
    have P3 := hide ((unhide P2).later b3)
    have B3 := hide ((unhide B2).trans (b3.mono (unhide B2).size))
    have s1 := hide (sameBytes_any a2 n2 c2 bs bo bn bc bs w3 ((unhide X2).later b3) (unhide H3))
    have s2 := hide (sameBytes_any a3 n3 c3 bs bo bn bc bs w3 m3.bs (unhide H3))
    have hc := hide (head_any w3 a1 n1 c1 (pkd bs) (unhide P3))
    have ht : decide (bs = bs) = true := by simp
    rw [ht] at s1 s2
    rw [unhide e4] at hc
    clear m3 b3 u2 H2 B2 P2 X2 ht
    go_wp2_with fail
    refine same_world (unhide s1) ?_
    go_wp2_with fail
    refine same_world (unhide s2) ?_
    go_wp2_with fail
    refine (unhide hc).mono ?_
    rintro e w4 ⟨rfl, b4⟩
    have P4 := hide ((unhide P3).later b4)
    have B4 := hide ((unhide B3).trans (b4.mono (unhide B3).size))
    clear b4 s1 s2 hc H3 B3 P3
    by_cases h0 : bn = 0
    · have h0' : ((bn : Int) == 0) = true := by simp [h0]
      go_wp2_with fail
      go_ret
      exact ⟨rfl, unhide B4⟩
    · have h0' : ((bn : Int) == 0) = false := by simp [h0]
      have u3 := hide (unpack_any 100000 w4 a1 n1 c1 (pkd bs) ((bn : Int) - 1) (unhide P4) ((unhide HV).low (unhide B4)) (by omega) (by omega) (by omega))
      rw [unhide e3 (by omega)] at u3
      go_wp2_with fail
      refine (unhide u3).mono ?_
      rintro e w5 ⟨a5, n5, c5, rfl, m5, b5⟩
      have B5 := hide ((unhide B4).trans (b5.mono (unhide B4).size))
      clear m5 b5
      go_wp2_with fail
      go_ret
      exact ⟨rfl, unhide B5⟩
end Go.Proofs.YtalkeooejobjhaaDoor
