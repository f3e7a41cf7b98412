/-
  The statement PacketCalls, as a call: any payload is cut into frames, and any bytes joined, as the document says. Conditions: the bytes can be read.
-/
import Derived.Test.YtoblnmbbdhagbaaRefJoin
import Derived.Test.YtoblnmbbdhagbaaRefSplit
import Derived.Test.YtoblnmbbdhagbaaKit
namespace Go.Proofs.Ytoblnmbbdhagbaa
open Go.RowKit
set_option linter.unusedVariables false
set_option linter.unusedSimpArgs false

set_option maxHeartbeats 4000000 in
set_option maxRecDepth 20000 in
theorem lawPktCalls (ao : Option Addr) (n c : Nat) (bs : List Int) (q M L : Int) (w : World) (h : Bs w ao n c bs) (q0 : 0 ≤ q) (q1 : q ≤ 255) :
    Calls Try.prog 4 #[.slice ao n c, .int .u8 q, .int .i64 M, .int .i64 L] w fun e w' => e = .returned (.bool true) ∧ Below w.heap.size w w' := by
  have cl := hide (lives_any w)
  have hle := h.le
  have hmx := h.max
  have H := hide h
  have HL := hide h.len
  clear h
  by_cases a1 : n ≤ 3000
  · have a1' : ¬ (3000 : Int) < (n : Int) := by omega
    go_enter Try.func4, Try.ntmps4
    go_wp2_with (first
      | (go_at_call 16; refine (unhide cl).mono ?_; rintro e w1 ⟨rfl, b1⟩; have B1 := hide b1; have z1 := b1.size; clear b1))
    refine (own_any ao n c bs w1 ((unhide H).later (unhide B1)) (by omega)).mono ?_
    rintro e w2 ⟨g, rfl, o2, b2⟩
    have B2 := hide ((unhide B1).trans (b2.mono z1))
    have z2 := (unhide B2).size
    have O2 := hide o2
    clear o2 b2 B1 cl
    go_wp2_with fail
    obtain ⟨R, hR⟩ : ∃ R, R = splitR M bs q := ⟨_, rfl⟩
    have c1 := split_any (some ⟨g, 0, none⟩) n (n + 8) bs q M w2 ((unhide O2).pre (unhide HL)) q0 q1 (by omega)
    rw [← hR] at c1
    have HR := hide hR
    clear hR
    refine c1.mono ?_
    rintro e w3 ⟨a3, c3, rfl, m3, b3⟩
    have B3 := hide ((unhide B2).trans (b3.mono z2))
    have z3 := (unhide B3).size
    have O3 := hide ((unhide O2).later b3)
    have P3 := hide m3.bs
    clear c1 m3 b3 B2 O2
    go_wp2_with fail
    have c2 := split_ref ao n c bs q M w3 ((unhide H).later (unhide B3)) q0 q1 (by omega)
    rw [← unhide HR] at c2
    refine c2.mono ?_
    rintro e w4 ⟨a4, c4, rfl, m4, b4⟩
    have B4 := hide ((unhide B3).trans (b4.mono z3))
    have z4 := (unhide B4).size
    have O4 := hide ((unhide O3).later b4)
    have cs := hide (sameBytes_any a3 R.1.length c3 R.1 a4 R.1.length c4 R.1 w4 ((unhide P3).later b4) m4.bs)
    rw [show decide (R.1 = R.1) = true by simp] at cs
    have ck := hide (kept_any g n c ao bs w4 (unhide O4) ((unhide H).later (unhide B4)) (by omega))
    clear c2 m4 b4 B3 O3 P3 HR
    generalize R.2.1 = X1 at *
    generalize R.2.2 = X2 at *
    generalize R.1.length = X3 at *
    go_wp2_with (first
      | (go_at_call 10; refine same_world (unhide cs) ?_)
      | (go_at_call 20; refine same_world (unhide ck) ?_))
    obtain ⟨J, hJ⟩ : ∃ J, J = joinR M L bs := ⟨_, rfl⟩
    have c5 := join_any (some ⟨g, 0, none⟩) n (n + 8) bs M L w4 ((unhide O4).pre (unhide HL)) (by omega)
    rw [← hJ] at c5
    have HJ := hide hJ
    clear hJ
    refine c5.mono ?_
    rintro e w5 ⟨t5, n5, k5, l5, rfl, p5, m5, b5⟩
    have B5 := hide ((unhide B4).trans (b5.mono z4))
    have z5 := (unhide B5).size
    have P5 := hide p5
    have M5 := hide m5
    clear c5 p5 m5 b5 B4 O4 cs ck
    go_wp2_with fail
    have c6 := join_ref ao n c bs M L w5 ((unhide H).later (unhide B5)) (by omega)
    rw [← unhide HJ] at c6
    refine c6.mono ?_
    rintro e w6 ⟨t6, n6, k6, l6, rfl, p6, m6, b6⟩
    have B6 := hide ((unhide B5).trans (b6.mono z5))
    have cp := hide (samePackets_any w6 t5 n5 k5 t6 n6 k6 l5 l6 ((unhide P5).later b6) p6 (by rw [unhide M5, m6]))
    clear c6 p6 m6 b6 B5 P5 M5 HJ
    generalize J.2.1 = Y1 at *
    generalize J.2.2 = Y2 at *
    go_wp2_with (first
      | (go_at_call 13; refine (unhide cp).mono ?_; rintro e w7 ⟨rfl, j, rfl⟩))
    go_ret
    exact ⟨by simp, (unhide B6).trans ⟨rfl, rfl, rfl, Nat.le_refl _, fun _ _ => rfl⟩⟩
  · have a1' : (3000 : Int) < (n : Int) := by omega
    go_enter Try.func4, Try.ntmps4
    go_wp2_with (first
      | (go_at_call 16; refine (unhide cl).mono ?_; rintro e w1 ⟨rfl, b1⟩; have B1 := hide b1; clear b1))
    go_ret
    exact ⟨rfl, unhide B1⟩

end Go.Proofs.Ytoblnmbbdhagbaa
