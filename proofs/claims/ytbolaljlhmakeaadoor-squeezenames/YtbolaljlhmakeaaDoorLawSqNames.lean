/-
  The statement SqueezeNames, as a call: the worked examples of the chapter come out as they are written. Conditions: the tables hold what the program's text says.
-/
import Derived.Test.YtbolaljlhmakeaaDoorSqLives
namespace Go.Proofs.YtbolaljlhmakeaaDoor
open Go.RowKit
set_option linter.unusedVariables false
set_option linter.unusedSimpArgs false

def sixty : List Int := List.replicate 60 97
def exQ : List Int := (sqR 60 50 sixty 255).1
theorem qex1 : sqR 60 50 sixty 255 = (exQ, 0, 0) := by kernel_rfl
theorem qex2 : exQ.length = 18 := by kernel_rfl
theorem qex3 : exQ.take 7 = [11, 0, 0, 255, 60, 0, 0] := by kernel_rfl
def st1 : QS := ⟨0, [2, 0, 0, 0, 0, 0, 0, 97], 0⟩
def st2 : QS := ⟨1, [], 0⟩
theorem qex4 : qfeed 60 qz [2, 0, 0, 0, 0, 0, 0, 97] = (st1, [], 0) := by kernel_rfl
theorem qex5 : qfeed 60 st1 [98] = (st2, [97, 98], 0) := by kernel_rfl
theorem qex6 : (qfeed 60 qz [61, 0, 0, 0, 0, 0, 0]).2.2 = 5 := by kernel_rfl
theorem qex7 : (qfeed 60 qz [1, 0, 0, 1, 0, 0, 0]).2.2 = 6 := by kernel_rfl
theorem qex8 : (qfeed 60 qz [1, 0, 0, 0, 5, 0, 0, 7]).2.2 = 5 := by kernel_rfl
theorem qex9 : qE 60 st1 = 0 := by kernel_rfl
theorem qex10 : qN st1.held = 2 := by kernel_rfl

set_option maxHeartbeats 4000000 in
set_option maxRecDepth 20000 in
theorem lawSqNames (w : World) (hv : Vars w) :
    Calls Tryd.prog 3 #[] w fun e w' => e = .returned (.bool true) ∧ Below w.heap.size w w' := by
  have HV := hide hv
  have h3 := hv.size
  clear hv
  go_enter Tryd.func3, Tryd.ntmps3
  go_wp2_with fail
  obtain ⟨Z, hZ⟩ : ∃ Z : Int, (60 : Int) = Z := ⟨_, rfl⟩
  go_loopw [1, 2] (fun av iv wr => ∃ (k : Nat) (ao : Option Addr) (c : Nat), k ≤ 60 ∧ iv = .int .i64 (k : Int) ∧ av = .slice ao k c ∧ Mine w.heap.size wr ao k c (List.replicate k 97) ∧ Below w.heap.size w wr) (fun _ iv _ => 60 - (intOf iv).toNat)
  case atStart => exact ⟨0, none, 0, by omega, rfl, rfl, Mine.nought _ _, Below.refl _ _⟩
  case round =>
    obtain ⟨k, ao, c, hk, rfl, rfl, hm, hB⟩ := hrel
    have hz := hB.size
    by_cases hlt : k < 60
    · have hlt' : (k : Int) < 60 := by omega
      have ba := below_alloc wr (.cells #[.int .u8 97] 5)
      have one := hide (Bs.one wr 97 (by omega) (by omega))
      have HM := hide (hm.later ba)
      have HB := hide (hB.trans (ba.mono hz))
      clear hm hB ba
      go_wp2_with (at_builtin; refine wpList_app rfl (.tmp 18) (.tmp 19) rfl w.heap.size _ _ _ _ rfl (unhide HM) _ _ _ _ rfl (unhide one) (by omega) (by simp; omega) ?_; intro a2 c2 w2 m2 b2; have M2 := hide m2; have B2 := hide ((unhide HB).trans b2); clear m2 b2)
      go_roundw
      case rel => exact ⟨k + 1, a2, c2, by omega, by go_num, rfl, by have := unhide M2; rwa [← List.replicate_succ'] at this, unhide B2⟩
      case measure => simp [intOf]; omega
    · have hk6 : k = 60 := by omega
      subst hk6
      obtain ⟨w5, hw5⟩ : ∃ w5, w5 = wr := ⟨_, rfl⟩
      subst hw5
      have cs := hide (squeeze_any ao 60 c sixty 255 60 50 w5 hm.bs (by omega) (by omega) (by omega))
      rw [qex1] at cs
      have HB := hide hB
      clear hm hB hZ
      go_wp2_with fail
      refine (unhide cs).mono ?_
      rintro e w1 ⟨a1, n1, c1, rfl, m1, b1⟩
      have hn1 : n1 = 18 := by have := m1.len; rw [← this]; exact qex2
      subst hn1
      have B1 := hide ((unhide HB).trans (b1.mono hz))
      have hle1 := m1.bs.le
      obtain ⟨a7, c7, hs7, hb7⟩ := m1.bs.cut_h (hi := 7) (by omega) (7 : Int) rfl
      rw [show (exQ, (0 : Int), (0 : Int)).1 = exQ from rfl, qex3] at hb7
      have sc := hide (same_lit w1 a7 7 c7 _ hb7 _ rfl (byt8 (by decide)) (by decide) 7 rfl)
      clear m1 b1 cs hb7
      go_wp2_with fail
      refine (unhide sc).mono ?_
      rintro e w2 ⟨rfl, b2⟩
      have B2 := hide ((unhide B1).trans (b2.mono (unhide B1).size))
      have hz2 := (unhide B2).size
      have cn := hide (qNew_ok 60 w2 (by omega) (by omega) (isMost_any 60))
      clear b2 sc hs7
      go_wp2_with (go_at_call 8; refine (unhide cn).mono ?_; rintro e w3 ⟨rfl, r3, b3⟩; have R3 := hide r3; have B3 := hide ((unhide B2).trans (b3.mono hz2)); have hz3 := r3.lt; clear r3 b3)
      have hlow : ∀ k, fq w2.heap.size none k → w2.heap.size ≤ k := fun k q => by
        rcases q with q | q
        · omega
        · exact absurd q ob_none
      have f1 := hide (qfeed_lit w2.heap.size w3 w2.heap.size 60 none 0 qz (unhide R3) ((unhide HV).low (unhide B3)) hlow (by omega) (by omega) (fun _ => .inl (by simp [qz])) _ [2, 0, 0, 0, 0, 0, 0, 97] rfl (byt8 (by decide)) (by decide) 8 rfl _ qex4)
      clear cn
      go_wp2_with fail
      refine (unhide f1).mono ?_
      rintro e w4 ⟨t4, n4, c4, h4, k4, rfl, m4, r4, l4, b4⟩
      have hn4 : n4 = 0 := by have := m4.len; simpa using this.symm
      subst hn4
      have B4 := hide ((unhide B3).trans (b4.mono hz2))
      have hz4 : w2.heap.size ≤ w4.heap.size := by have := b4.size; omega
      have f2 := hide (qfeed_lit w2.heap.size w4 w2.heap.size 60 h4 k4 st1 r4 ((unhide HV).low (unhide B4)) l4 hz4 (by omega) (fun _ => .inr ⟨qex9, by rw [qex10]; decide⟩) _ [98] rfl (byt8 (by decide)) (by decide) 1 rfl _ qex5)
      clear f1 m4 r4 l4 b4
      go_wp2_with fail
      refine (unhide f2).mono ?_
      rintro e w6 ⟨t6, n6, c6, h6, k6, rfl, m6, r6, l6, b6⟩
      have B6 := hide ((unhide B4).trans (b6.mono hz2))
      have st := hide (show strOfNums [97, 98] = { data := #[97, 98] } by kernel_rfl)
      have hstr := m6.str
      simp only [unhide st] at hstr
      have nx := hide (qNext_any w6 r6)
      rw [show (st2, [(97 : Int), 98], (0 : Int)).1.nx = 1 from rfl] at nx
      clear f2 m6 r6 l6 b6
      go_wp2_with (go_at_call 10; refine same_world (unhide nx) ?_)
      have g1 := hide (fed_lit w6 ((unhide HV).low (unhide B6)) _ [61, 0, 0, 0, 0, 0, 0] rfl (byt8 (by decide)) (by decide) 7 rfl _ rfl)
      rw [qex6] at g1
      clear nx hstr
      go_wp2_with fail
      refine (unhide g1).mono ?_
      rintro e w7 ⟨t7, n7, c7', rfl, b7⟩
      have B7 := hide ((unhide B6).trans (b7.mono (unhide B6).size))
      have g2 := hide (fed_lit w7 ((unhide HV).low (unhide B7)) _ [1, 0, 0, 1, 0, 0, 0] rfl (byt8 (by decide)) (by decide) 7 rfl _ rfl)
      rw [qex7] at g2
      clear g1 b7
      go_wp2_with fail
      refine (unhide g2).mono ?_
      rintro e w8 ⟨t8, n8, c8, rfl, b8⟩
      have B8 := hide ((unhide B7).trans (b8.mono (unhide B7).size))
      have g3 := hide (fed_lit w8 ((unhide HV).low (unhide B8)) _ [1, 0, 0, 0, 5, 0, 0, 7] rfl (byt8 (by decide)) (by decide) 8 rfl _ rfl)
      rw [qex8] at g3
      clear g2 b8
      go_wp2_with fail
      refine (unhide g3).mono ?_
      rintro e w9 ⟨t9, n9, c9, rfl, b9⟩
      have B9 := hide ((unhide B8).trans (b9.mono (unhide B8).size))
      have cl := hide (slives_any w9)
      clear g3 b9
      go_wp2_with (go_at_call 12; refine (unhide cl).mono ?_; rintro e w10 ⟨rfl, b10⟩; have B10 := hide ((unhide B9).trans (b10.mono (unhide B9).size)); clear b10)
      go_ret
      exact ⟨rfl, unhide B10⟩
end Go.Proofs.YtbolaljlhmakeaaDoor
