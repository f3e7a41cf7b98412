/-
  The law DeflateBack returns true for any bytes: whatever is made a stream is read back, to its last byte, and never much longer. Conditions: the tables hold what the program's text says.
-/
import Derived.Test.YtmlodlmmfkpibaaDoorMBack
import Derived.Test.YtmlodlmmfkpibaaDoorDefLives
namespace Go.Proofs.YtmlodlmmfkpibaaDoor
open Go.RowKit
set_option linter.unusedVariables false
set_option linter.unusedSimpArgs false

theorem Vars.low {w w' : World} (h : Vars w) (hb : Below w.heap.size w w') : Vars w' := h.later (Nat.le_refl 3) (hb.mono h.size)

set_option maxHeartbeats 4000000 in
set_option maxRecDepth 20000 in
theorem lawDefBack (bo : Option Addr) (bn bc : Nat) (bs : List Int) (w : World) (hv : Vars w) (h : Bs w bo bn bc bs) :
    Calls Tryd.prog 3 #[.slice bo bn bc] w fun e w' => e = .returned (.bool true) ∧ Below w.heap.size w w' := by
  have hle := h.le
  have hmx := h.max
  have hlen := hide h.len
  have H := hide h
  have HV := hide hv
  clear h hv
  go_enter Tryd.func3, Tryd.ntmps3
  go_wp2_with fail
  refine (dlives_any w).mono ?_
  rintro e w0 ⟨rfl, b0⟩
  by_cases hbig : 1200 < bn
  · have hbig' : (1200 : Int) < (bn : Int) := by omega
    go_wp2_with fail
    go_ret
    exact ⟨rfl, b0⟩
  · have hbig' : ¬ (1200 : Int) < (bn : Int) := by omega
    have hb12 : bn ≤ 1200 := by omega
    have hbl : bs.length ≤ 1200 := by rw [unhide hlen]; exact hb12
    have hby := (unhide H).byt
    have H0 := hide ((unhide H).later b0)
    have B0 := hide b0
    have pc := hide (pieces_any w0 bo bn bc bs (unhide H0) (by omega))
    have e1 := hide (exq_pieces bs (by omega))
    have e2 := hide (inf_stored (F := 100000) (bs := bs) (m := (bn : Int)) (by omega) hby (by omega) (by rw [unhide hlen]; exact Int.le_refl _))
    have e3 := hide (inf_dfl (F := 100000) (bs := bs) (m := (bn : Int)) (by omega) hby (by omega) (by rw [unhide hlen]; exact Int.le_refl _))
    have e4 := hide (dfl_le bs)
    have e5 := hide (sto_len bs)
    have hpl := hide (pieces_le bs)
    clear hbig b0 hbl hby
    go_wp2_with fail
    refine (unhide pc).mono ?_
    rintro e w1 ⟨a1, n1, c1, rfl, m1, b1⟩
    have xc := hide (expand_any w1 a1 n1 c1 (pieces bs) m1.ps (by have := m1.len; have := unhide hpl; have := unhide hlen; omega))
    rw [unhide e1] at xc
    have H1 := hide ((unhide H0).later b1)
    have B1 := hide ((unhide B0).trans (b1.mono (unhide B0).size))
    clear m1 b1 pc B0 H0
    go_wp2_with fail
    refine (unhide xc).mono ?_
    rintro e w2 ⟨a2, n2, c2, rfl, m2, b2⟩
    have H2 := hide ((unhide H1).later b2)
    have X2 := hide m2.bs
    have B2 := hide ((unhide B1).trans (b2.mono (unhide B1).size))
    have sc := hide (stored_bs w2 bo bn bc bs (unhide H2) (by omega))
    clear m2 b2 xc B1 H1
    go_wp2_with fail
    refine (unhide sc).mono ?_
    rintro e w3 ⟨a3, n3, c3, rfl, m3, b3⟩
    have H3 := hide ((unhide H2).later b3)
    have X3 := hide ((unhide X2).later b3)
    have S3 := hide m3.bs
    have B3 := hide ((unhide B2).trans (b3.mono (unhide B2).size))
    have dc := hide (deflate_any w3 bo bn bc bs (unhide H3) (by omega))
    clear m3 b3 sc B2 H2 X2
    go_wp2_with fail
    refine (unhide dc).mono ?_
    rintro e w4 ⟨a4, n4, c4, rfl, m4, b4⟩
    have H4 := hide ((unhide H3).later b4)
    have X4 := hide ((unhide X3).later b4)
    have S4 := hide ((unhide S3).later b4)
    have D4 := hide m4.bs
    have B4 := hide ((unhide B3).trans (b4.mono (unhide B3).size))
    have n3e := (unhide S4).len
    have n4e := (unhide D4).len
    have hn3 : n3 ≤ 1205 := by have := unhide e5; have := unhide hlen; omega
    have hn4 : n4 ≤ bn + 5 := by have := unhide e4; have := unhide hlen; omega
    have l3 := (unhide S4).le
    have x3 := (unhide S4).max
    have l4 := (unhide D4).le
    have x4 := (unhide D4).max
    have ic := hide (inflate_any 100000 w4 a3 n3 c3 (sto bs) (bn : Int) (unhide S4) ((unhide HV).low (unhide B4)) (by omega) (by omega) (by omega) (by omega))
    rw [unhide e2, n3e] at ic
    have N3 := hide n3e
    have N4 := hide n4e
    clear m4 b4 dc B3 H3 X3 S3 n3e n4e
    go_wp2_with fail
    refine (unhide ic).mono ?_
    rintro e w5 ⟨a5, n5, c5, rfl, m5, b5⟩
    have H5 := hide ((unhide H4).later b5)
    have X5 := hide ((unhide X4).later b5)
    have D5 := hide ((unhide D4).later b5)
    have Y5 := hide m5.bs
    have B5 := hide ((unhide B4).trans (b5.mono (unhide B4).size))
    have jc := hide (inflate_any 100000 w5 a4 n4 c4 (dfl bs) (bn : Int) (unhide D5) ((unhide HV).low (unhide B5)) (by omega) (by omega) (by omega) (by omega))
    rw [unhide e3, unhide N4] at jc
    clear m5 b5 ic B4 H4 X4 S4 D4
    go_wp2_with fail
    refine (unhide jc).mono ?_
    rintro e w6 ⟨a6, n6, c6, rfl, m6, b6⟩
    have H6 := (unhide H5).later b6
    have s1 := hide (sameBytes_any a2 n2 c2 bs bo bn bc bs w6 ((unhide X5).later b6) H6)
    have s2 := hide (sameBytes_any a5 n5 c5 bs bo bn bc bs w6 ((unhide Y5).later b6) H6)
    have s3 := hide (sameBytes_any a6 n6 c6 bs bo bn bc bs w6 m6.bs H6)
    have ht : decide (bs = bs) = true := by simp
    rw [ht] at s1 s2 s3
    have B6 := hide ((unhide B5).trans (b6.mono (unhide B5).size))
    have hn4' : (n4 : Int) ≤ (bn : Int) + 5 := by omega
    clear m6 b6 jc B5 H5 X5 D5 Y5 H6 ht
    go_wp2_with fail
    refine same_world (unhide s1) ?_
    go_wp2_with fail
    refine same_world (unhide s2) ?_
    go_wp2_with fail
    refine same_world (unhide s3) ?_
    go_wp2_with fail
    go_ret
    exact ⟨by first | rfl | simp, unhide B6⟩
end Go.Proofs.YtmlodlmmfkpibaaDoor
