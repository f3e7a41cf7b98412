/-
  The statement on checking, codes and reading returns true for any lengths, bytes and place, and writes nothing that was there. Conditions: none but that the arguments can be read.
-/
import Derived.Test.YtgphglghjpeojaaHufLives
import Derived.Test.YtgphglghjpeojaaHufRefAll
namespace Go.Proofs.Ytgphglghjpeojaa
open Go.RowKit
set_option linter.unusedVariables false
set_option linter.unusedSimpArgs false

set_option maxHeartbeats 8000000 in
set_option maxRecDepth 20000 in
theorem lawCalls (ao : Option Addr) (n c : Nat) (L : List Int) (bo : Option Addr) (m d : Nat) (bs : List Int) (A : Int) (w : World) (h : Is w ao n c L) (hb : Bs w bo m d bs) (hA : A ≤ 9223372036854775807) :
    Calls Try.prog 4 #[.slice ao n c, .slice bo m d, .int .i64 A] w fun e w' => e = .returned (.bool true) ∧ Below w.heap.size w w' := by
  have H := hide h
  have HB := hide hb
  have hmax := h.max
  have hle := h.le
  have smax := hb.max
  have sle := hb.le
  have HA := hide hA
  clear h hb hA
  by_cases h1 : (400 : Int) < (n : Int)
  · have g1 : decide ((400 : Int) < (n : Int)) = true := by simpa using h1
    go_enter Try.func4, Try.ntmps4
    go_wp2_with (go_at_call 10; refine (lives_any _).mono ?_; rintro e w1 ⟨rfl, hb1⟩)
    go_ret
    exact ⟨rfl, hb1⟩
  have g1 : decide ((400 : Int) < (n : Int)) = false := by simpa using h1
  by_cases h2 : (400 : Int) < (m : Int)
  · have g2 : decide ((400 : Int) < (m : Int)) = true := by simpa using h2
    go_enter Try.func4, Try.ntmps4
    go_wp2_with (go_at_call 10; refine (lives_any _).mono ?_; rintro e w1 ⟨rfl, hb1⟩)
    go_ret
    exact ⟨rfl, hb1⟩
  have g2 : decide ((400 : Int) < (m : Int)) = false := by simpa using h2
  have hm6 := hide (show m ≤ 1000000 by omega)
  go_enter Try.func4, Try.ntmps4
  go_wp2_with fail
  refine (lives_any _).mono ?_
  rintro e w1 ⟨rfl, b1⟩
  have z1 := b1.size
  have e1 : Below w1.heap.size w1 (w1.alloc (.cells #[] 3)) := below_alloc w1 _
  have A1 := hide (((unhide H).later b1).later e1)
  have M1 := hide (IMine.empty w1)
  go_wp2_with (at_builtin; refine wpList_iapp rfl (.tmp 33) (.tmp 34) rfl w1.heap.size _ _ _ _ rfl (unhide M1) _ _ _ _ rfl (unhide A1) (by omega) (by simp) ?_; intro oo oc w2 m2 b2; rw [Nat.zero_add, List.nil_append] at m2; rw [Nat.zero_add])
  have b12 : Below w1.heap.size w1 w2 := e1.trans b2
  have bb2 : Below w.heap.size w w2 := b1.trans (b12.mono z1)
  have z2 := bb2.size
  have O2 := hide m2.is
  clear m2 b2 e1 A1 M1
  refine (check_any _ _ _ _ _ (unhide O2)).mono ?_
  rintro e w3 ⟨rfl, b3⟩
  have bb3 : Below w.heap.size w w3 := bb2.trans (b3.mono z2)
  have z3 := bb3.size
  have O3 := hide ((unhide O2).later b3)
  have ck := hide (check_ref _ _ _ _ _ ((unhide H).later bb3))
  have ca := hide (codes_any _ _ _ _ _ (unhide O3))
  have cr := hide (fun (w' : World) (q : Below w.heap.size w w') => codes_ref _ _ _ _ w' ((unhide H).later q))
  clear O2 b3
  generalize whole L = WB at *
  have t0 : (WB != WB) = false := by simp
  generalize hEE : cer L = EE at *
  have t1 : (EE != EE) = false := by simp
  clear hEE
  go_wp2_with fail
  refine same_world (unhide ck) ?_
  go_wp2_with fail
  refine (unhide ca).mono ?_
  rintro e w4 ⟨⟨xo, xn, xc, rfl, hx4⟩, b4⟩
  have bb4 : Below w.heap.size w w4 := bb3.trans (b4.mono z3)
  have z4 := bb4.size
  have X4 := hide hx4
  have O4 := hide ((unhide O3).later b4)
  clear hx4 b4 O3 ca ck
  go_wp2_with fail
  refine (unhide cr _ bb4).mono ?_
  rintro e w5 ⟨⟨yo, yn, yc, rfl, hy5⟩, b5⟩
  have bb5 : Below w.heap.size w w5 := bb4.trans (b5.mono z4)
  have z5 := bb5.size
  have O5 := hide ((unhide O4).later b5)
  have cs := sameInts_any _ _ _ _ _ _ _ _ _ ((unhide X4).later b5) hy5
  rw [show decide (cdd L = cdd L) = true by simp] at cs
  have CS := hide cs
  clear cs hy5 b5 O4 X4 cr
  go_wp2_with fail
  refine (unhide CS).mono ?_
  rintro e w6 ⟨rfl, b6⟩
  have bb6 : Below w.heap.size w w6 := bb5.trans (b6.mono z5)
  have z6 := bb6.size
  have O6 := hide ((unhide O5).later b6)
  have cs := sameInts_any _ _ _ _ _ _ _ _ _ (unhide O6) ((unhide H).later bb6)
  rw [show decide (L = L) = true by simp] at cs
  have CS2 := hide cs
  clear cs b6 O5 CS
  go_wp2_with fail
  refine (unhide CS2).mono ?_
  rintro e w7 ⟨rfl, b7⟩
  have bb7 : Below w.heap.size w w7 := bb6.trans (b7.mono z6)
  have z7 := bb7.size
  have O7 := hide ((unhide O6).later b7)
  have c1 := hide (readq_any _ _ _ _ _ _ _ _ A _ (unhide O7) ((unhide HB).later bb7) (unhide hm6) (unhide HA))
  have c2 := hide (fun (w' : World) (q : Below w.heap.size w w') => read_ref _ _ _ _ _ _ _ _ A w' ((unhide H).later q) ((unhide HB).later q) (unhide hm6) (unhide HA))
  clear b7 O6 CS2
  generalize rdq L bs A = RR at *
  obtain ⟨q1, q2, q3⟩ := RR
  have t2 : (q1 != q1) = false := by simp
  have t3 : (q2 != q2) = false := by simp
  have t4 : (q3 != q3) = false := by simp
  go_wp2_with fail
  refine (unhide c1).mono ?_
  rintro e w8 ⟨rfl, b8⟩
  have bb8 : Below w.heap.size w w8 := bb7.trans (b8.mono z7)
  have z8 := bb8.size
  have O8 := hide ((unhide O7).later b8)
  clear b8 O7 c1
  go_wp2_with fail
  refine (unhide c2 _ bb8).mono ?_
  rintro e w9 ⟨rfl, b9⟩
  have bb9 : Below w.heap.size w w9 := bb8.trans (b9.mono z8)
  have z9 := bb9.size
  have O9 := hide ((unhide O8).later b9)
  clear b9 O8 c2
  obtain ⟨K, hK⟩ : ∃ K, (if (500 : Int) < A then (500 : Int) else A) = K := ⟨_, rfl⟩
  have hK5 := hide (show K ≤ 1000000000 by rw [← hK]; split <;> omega)
  have c1 := hide (all_any _ _ _ _ _ _ _ _ K _ (unhide O9) ((unhide HB).later bb9) (unhide hm6) (unhide hK5))
  have c2 := hide (fun (w' : World) (q : Below w.heap.size w w') => all_ref _ _ _ _ _ _ _ _ K w' ((unhide H).later q) ((unhide HB).later q) (unhide hm6) (unhide hK5))
  generalize alq L bs K = RA at *
  obtain ⟨p1, p2, p3⟩ := RA
  have t5 : (p2 == p2) = true := by simp
  have t6 : (p3 == p3) = true := by simp
  go_wp2_with fail
  refine (unhide c1).mono ?_
  rintro e wa ⟨⟨uo, un, uc, rfl, hu⟩, ba⟩
  have bba : Below w.heap.size w wa := bb9.trans (ba.mono z9)
  have za := bba.size
  have U := hide hu
  clear hu ba O9 c1
  go_wp2_with fail
  refine (unhide c2 _ bba).mono ?_
  rintro e wb ⟨⟨vo, vn, vc, rfl, hv⟩, bb⟩
  have bbb : Below w.heap.size w wb := bba.trans (bb.mono za)
  have zb := bbb.size
  have cs := sameInts_any _ _ _ _ _ _ _ _ _ ((unhide U).later bb) hv
  rw [show decide (p1 = p1) = true by simp] at cs
  have CS := hide cs
  clear cs hv bb U c2
  go_wp2_with fail
  refine (unhide CS).mono ?_
  rintro e wc ⟨rfl, bc⟩
  go_wp2_with fail
  go_ret
  exact ⟨rfl, bbb.trans (bc.mono zb)⟩

end Go.Proofs.Ytgphglghjpeojaa
