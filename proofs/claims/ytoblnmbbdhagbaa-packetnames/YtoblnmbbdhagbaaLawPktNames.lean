/-
  The statement PacketNames, as a call: the worked examples of the chapter on frames come out as they are written. Conditions: none.
-/
import Derived.Test.YtoblnmbbdhagbaaPktLow
namespace Go.Proofs.Ytoblnmbbdhagbaa
open Go.RowKit
set_option linter.unusedVariables false
set_option linter.unusedSimpArgs false

def exC : List Int := [97, 98, 99, 100]
def exD : List Int := [4, 0, 0, 0, 97, 98, 99, 100, 0, 0, 0, 1]
def exE1 : List Int := [5, 0, 0, 0]
def exF : List Int := [4, 0, 0, 0, 97, 98, 99, 100, 4, 0, 0, 1, 97, 98, 99, 100, 2, 0, 0, 2]
theorem split_C : splitR 4 exC 0 = (exD, 2, 0) := by kernel_rfl
theorem feed_1 : feed 4 9 ps0 [2, 0, 0] = (⟨0, [], [2, 0, 0], 0⟩, [], 0) := by kernel_rfl
theorem feed_2 : feed 4 9 ⟨0, [], [2, 0, 0], 0⟩ [0, 97] = (⟨0, [], [2, 0, 0, 0, 97], 0⟩, [], 0) := by kernel_rfl
theorem feed_3 : feed 4 9 ⟨0, [], [2, 0, 0, 0, 97], 0⟩ [98, 1, 0, 0] = (⟨1, [], [1, 0, 0], 0⟩, [(0, 1, [97, 98])], 0) := by kernel_rfl
theorem feed_4 : feed 4 9 ps0 [1, 0, 0, 1] = (⟨0, [], [], 6⟩, [], 6) := by kernel_rfl
theorem join_E : joinR 4 9 exE1 = ([], 0, 5) := by kernel_rfl
theorem join_F : joinR 4 9 exF = ([], 0, 3) := by kernel_rfl
theorem no_packets {w : World} {to : Option Addr} {tn tc : Nat} {l : List Pm} (h : Pks w to tn tc l) (e : l.map pl = []) : tn = 0 := by
  rw [← h.len]
  have := congrArg List.length e
  simpa using this

set_option maxHeartbeats 4000000 in
set_option maxRecDepth 20000 in
theorem lawPktNames (w : World) : Calls Try.prog 3 #[] w fun e w' => e = .returned (.bool true) ∧ Below w.heap.size w w' := by
  have hcv := run_const w #[.int .u8 97, .int .u8 98, .int .u8 99, .int .u8 100] 4 4
  have B0 := hide (show Below w.heap.size w (w.alloc (.cells #[.int .u8 97, .int .u8 98, .int .u8 99, .int .u8 100] 5 (4, 5))) from below_alloc w _)
  have c0 := hide (split_any (some ⟨w.heap.size, 0, none⟩) 4 4 exC 0 4 _ (Bs.const w (4, 5) exC (byt_lit rfl) (by decide)) (by decide) (by decide) (by decide))
  rw [split_C] at c0
  go_enter Try.func3, Try.ntmps3
  go_wp2_with fail
  refine (unhide c0).mono ?_
  rintro e w1 ⟨a1, c1, rfl, m1, b1⟩
  have B1 := hide ((unhide B0).trans (b1.mono (by simp)))
  have z1 := (unhide B1).size
  have bb := below_alloc w1 (.cells (exD.map (Value.int .u8)).toArray 5)
  have cs := hide (sameBytes_any a1 exD.length c1 exD (some ⟨w1.heap.size, 0, none⟩) 12 12 exD _ (m1.bs.later bb) (Bs.lit w1 exD (byt_lit rfl) (by decide)))
  rw [show decide (exD = exD) = true by simp] at cs
  obtain ⟨w2, hw2⟩ : ∃ wx, wx = w1.alloc (.cells (exD.map (Value.int .u8)).toArray 5) := ⟨_, rfl⟩
  rw [← hw2] at cs bb
  have B2 := hide ((unhide B1).trans (bb.mono z1))
  have hw2' := hw2.symm
  simp only [exD, List.map_cons, List.map_nil] at hw2'
  have z2 := (unhide B2).size
  have cn := hide (new_ok 4 9 w2 (by decide) (by decide) (by decide) (by decide))
  clear m1 b1 bb hw2 c0 hcv B0 B1
  go_wp2_with (first
    | (go_at_call 10; refine same_world (unhide cs) ?_)
    | (go_at_call 11; refine (unhide cn).mono ?_; rintro e w3 ⟨rfl, r3, b3⟩; have R3 := hide (Ra.new (B := w.heap.size) r3 z2); have B3 := hide ((unhide B2).trans (b3.mono z2)); clear r3 b3 cn cs))
  have z3 := (unhide B3).size
  clear hw2' B2
  refine (feed_lit (unhide R3) z3 [2, 0, 0] (byt_lit rfl) (by decide) (by decide) _ feed_1).mono ?_
  rintro e w4 ⟨t4, n4, k4, l4, bo4, bc4, ho4, hc4, rfl, p4, q4, r4, b4⟩
  have e4 := no_packets p4 q4
  subst e4
  have R4 := hide r4
  have B4 := hide ((unhide B3).trans b4)
  have z4 := (unhide B4).size
  clear p4 q4 r4 b4 R3 B3
  go_wp2_with fail
  refine (feed_lit (unhide R4) z4 [0, 97] (byt_lit rfl) (by decide) (by decide) _ feed_2).mono ?_
  rintro e w5 ⟨t5, n5, k5, l5, bo5, bc5, ho5, hc5, rfl, p5, q5, r5, b5⟩
  have e5 := no_packets p5 q5
  subst e5
  have R5 := hide r5
  have B5 := hide ((unhide B4).trans b5)
  have z5 := (unhide B5).size
  clear p5 q5 r5 b5 R4 B4
  go_wp2_with fail
  refine (feed_lit (unhide R5) z5 [98, 1, 0, 0] (byt_lit rfl) (by decide) (by decide) _ feed_3).mono ?_
  rintro e w6 ⟨t6, n6, k6, l6, bo6, bc6, ho6, hc6, rfl, p6, q6, r6, b6⟩
  have hcv := run_const w6 #[.int .u8 97, .int .u8 98] 2 2
  have q3 : Bs (w6.alloc (.cells #[.int .u8 97, .int .u8 98] 5 (2, 3))) (some ⟨w6.heap.size, 0, none⟩) 2 2 [97, 98] := Bs.const w6 (2, 3) [97, 98] (byt_lit rfl) (by decide)
  have qk : Pks ((w6.alloc (.cells #[.int .u8 97, .int .u8 98] 5 (2, 3))).alloc (.cells #[.int .u8 0, .int .u8 1, .slice (some ⟨w6.heap.size, 0, none⟩) 2 2] 35)) (some ⟨w6.heap.size + 1, 0, none⟩) 1 1 [⟨0, 1, some ⟨w6.heap.size, 0, none⟩, 2, [97, 98]⟩] := by
    have := Pks.lit1 _ ⟨0, 1, some ⟨w6.heap.size, 0, none⟩, 2, [97, 98]⟩ ⟨by simp, by simp, by simp, by simp⟩ q3
    rw [show (w6.alloc (.cells #[.int .u8 97, .int .u8 98] 5 (2, 3))).heap.size = w6.heap.size + 1 by simp] at this
    exact this
  have x1 := below_alloc w6 (.cells #[.int .u8 97, .int .u8 98] 5 (2, 3))
  have x2 := below_alloc (w6.alloc (.cells #[.int .u8 97, .int .u8 98] 5 (2, 3))) (.cells #[.int .u8 0, .int .u8 1, .slice (some ⟨w6.heap.size, 0, none⟩) 2 2] 35)
  obtain ⟨w7, hw7⟩ : ∃ wx, wx = (w6.alloc (.cells #[.int .u8 97, .int .u8 98] 5 (2, 3))).alloc (.cells #[.int .u8 0, .int .u8 1, .slice (some ⟨w6.heap.size, 0, none⟩) 2 2] 35) := ⟨_, rfl⟩
  have hw7' := hw7.symm
  rw [← hw7] at qk x2
  have b7 : Below w6.heap.size w6 w7 := x1.trans (x2.mono (by simp))
  have cp := hide (samePackets_any w7 t6 n6 k6 _ 1 1 l6 _ (p6.later b7) qk (by rw [q6]; rfl))
  have R7 := hide (r6.later b7)
  have B6 := (unhide B5).trans b6
  have B7 := hide (B6.trans (b7.mono B6.size))
  have ch := hide (fun j => held_any (w7.drewN j) ((unhide R7).rd.rl.drewN j))
  have z7 := (unhide B7).size
  rw [show hln (⟨1, [], [1, 0, 0], 0⟩ : PS) = 3 from rfl] at ch
  clear p6 q6 r6 b6 R5 B5 q3 qk x1 x2 b7 hw7 B6
  go_wp2_with (first
    | (go_at_call 13; refine (unhide cp).mono ?_; rintro e w8 ⟨rfl, j, rfl⟩)
    | (go_at_call 14; refine (unhide ch j).mono ?_; rintro e w8 ⟨rfl, i, rfl⟩))
  have Bd := hide (show Below w.heap.size w (w7.drewN (j + i)) from (unhide B7).trans ⟨rfl, rfl, rfl, Nat.le_refl _, fun _ _ => rfl⟩)
  have j1 := join_any (some ⟨w7.heap.size, 0, none⟩) 4 4 exE1 4 9 _ (Bs.lit (w7.drewN (j + i)) exE1 (byt_lit rfl) (by decide)) (by decide)
  rw [join_E] at j1
  refine j1.mono ?_
  rintro e w8 ⟨t8, n8, k8, l8, rfl, p8, q8, b8⟩
  have B8 := hide ((unhide Bd).trans (((below_alloc (w7.drewN (j + i)) _).mono z7).trans (b8.mono (by simp; omega))))
  have z8 := (unhide B8).size
  have cn := hide (new_ok 4 9 w8 (by decide) (by decide) (by decide) (by decide))
  clear j1 p8 q8 b8 B7 R7 cp ch Bd
  go_wp2_with (first
    | (go_at_call 11; refine (unhide cn).mono ?_; rintro e w9 ⟨rfl, r9, b9⟩; have R9 := hide (Ra.new (B := w.heap.size) r9 z8); have B9 := hide ((unhide B8).trans (b9.mono z8)); clear r9 b9 cn))
  have z9 := (unhide B9).size
  refine (feed_lit (unhide R9) z9 [1, 0, 0, 1] (byt_lit rfl) (by decide) (by decide) _ feed_4).mono ?_
  rintro e wa ⟨ta, na, ka, la, boa, bca, hoa, hca, rfl, pa, qa, ra, ba⟩
  have Ra := hide ra
  have Ba := hide ((unhide B9).trans ba)
  have za := (unhide Ba).size
  clear pa qa ra ba R9 B9 B8
  go_wp2_with fail
  have j2 := join_any (some ⟨wa.heap.size, 0, none⟩) 20 20 exF 4 9 _ (Bs.lit wa exF (byt_lit rfl) (by decide)) (by decide)
  rw [join_F] at j2
  refine j2.mono ?_
  rintro e wb ⟨tb, nb, kb, lb, rfl, pb, qb, bb⟩
  have xa := below_alloc wa (.cells (exF.map (Value.int .u8)).toArray 5)
  have xb : Below wa.heap.size wa wb := xa.trans (bb.mono (by simp))
  have Rb := hide ((unhide Ra).later xb)
  have Bb := hide ((unhide Ba).trans (xb.mono za))
  have zb := (unhide Bb).size
  have cl := hide (lives_any wb)
  clear j2 pb qb bb xa xb Ra Ba
  go_wp2_with (first
    | (go_at_call 16; refine (unhide cl).mono ?_; rintro e wc ⟨rfl, bc⟩; have st := hide (stopped_any wc ((unhide Rb).later bc).rd.rl); have Bc := hide ((unhide Bb).trans (bc.mono zb)); clear bc)
    | (go_at_call 17; refine same_world (unhide st) ?_))
  go_ret
  exact ⟨rfl, unhide Bc⟩

end Go.Proofs.Ytoblnmbbdhagbaa
