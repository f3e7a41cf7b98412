/-
  The statement on pieces one behind the other returns true for any three pieces, and writes nothing that was there. Conditions: none but that the arguments can be read.
-/
import Derived.Test.YtmndgdclcompjaaAdlLives
namespace Go.Proofs.Ytmndgdclcompjaa
open Go.RowKit
set_option linter.unusedVariables false
set_option linter.unusedSimpArgs false

set_option maxHeartbeats 2000000 in
set_option maxRecDepth 20000 in
theorem lawJoins (ao : Option Addr) (n c : Nat) (xs : List Int) (bo : Option Addr) (m d : Nat) (bs : List Int) (co : Option Addr) (k f : Nat) (cs : List Int) (w : World)
    (ha : Bs w ao n c xs) (hb : Bs w bo m d bs) (hc : Bs w co k f cs) :
    Calls Try.prog 5 #[.slice ao n c, .slice bo m d, .slice co k f] w fun e w' => e = .returned (.bool true) ∧ Below w.heap.size w w' := by
  have am := ha.max
  have al := ha.le
  have bm := hb.max
  have bl := hb.le
  have cm := hc.max
  have cl := hc.le
  have HA := hide ha
  have HB := hide hb
  have HC := hide hc
  clear ha hb hc
  by_cases h1 : (20000 : Int) < (n : Int)
  · have g1 : decide ((20000 : Int) < (n : Int)) = true := by simpa using h1
    go_enter Try.func5, Try.ntmps5
    go_wp2_with (go_at_call 10; refine (lives_any _).mono ?_; rintro e w1 ⟨rfl, hb1⟩)
    go_ret
    exact ⟨rfl, hb1⟩
  have g1 : decide ((20000 : Int) < (n : Int)) = false := by simpa using h1
  by_cases h2 : (20000 : Int) < (m : Int)
  · have g2 : decide ((20000 : Int) < (m : Int)) = true := by simpa using h2
    go_enter Try.func5, Try.ntmps5
    go_wp2_with (go_at_call 10; refine (lives_any _).mono ?_; rintro e w1 ⟨rfl, hb1⟩)
    go_ret
    exact ⟨rfl, hb1⟩
  have g2 : decide ((20000 : Int) < (m : Int)) = false := by simpa using h2
  by_cases h3 : (20000 : Int) < (k : Int)
  · have g3 : decide ((20000 : Int) < (k : Int)) = true := by simpa using h3
    go_enter Try.func5, Try.ntmps5
    go_wp2_with (go_at_call 10; refine (lives_any _).mono ?_; rintro e w1 ⟨rfl, hb1⟩)
    go_ret
    exact ⟨rfl, hb1⟩
  have g3 : decide ((20000 : Int) < (k : Int)) = false := by simpa using h3
  have j1 := hide (show joined (sumOf xs) (sumOf bs) (m : Int) = (sumOf (xs ++ bs), 0) by rw [← (unhide HB).len]; exact joined_sum xs bs)
  have j2 := hide (show joined (sumOf (xs ++ bs)) (sumOf cs) (k : Int) = (sumOf (xs ++ bs ++ cs), 0) by rw [← (unhide HC).len]; exact joined_sum (xs ++ bs) cs)
  have j3 := hide (show joined (sumOf bs) (sumOf cs) (k : Int) = (sumOf (bs ++ cs), 0) by rw [← (unhide HC).len]; exact joined_sum bs cs)
  have j4 := hide (show joined (sumOf xs) (sumOf (bs ++ cs)) ((m : Int) + (k : Int)) = (sumOf (xs ++ bs ++ cs), 0) by
    rw [List.append_assoc, ← joined_sum xs (bs ++ cs), ← (unhide HB).len, ← (unhide HC).len, List.length_append, Int.natCast_add])
  have m1 := hide (show more (sumOf xs) bs = sumOf (xs ++ bs) from more_more 1 xs bs)
  have m2 := hide (show more (sumOf (xs ++ bs)) cs = sumOf (xs ++ bs ++ cs) from more_more 1 (xs ++ bs) cs)
  have bd : ∀ l, 0 ≤ sumOf l ∧ sumOf l < 4294967296 := fun l => more_bounds 1 l
  have BD := hide bd
  clear bd
  have hb0 : ∀ w : World, Below w.heap.size w (w.alloc (.cells #[] 5)) := fun w => below_alloc w _
  go_enter Try.func5, Try.ntmps5
  go_wp2_with fail
  refine (lives_any _).mono ?_
  rintro e w1 ⟨rfl, hb1⟩
  have hz1 := hb1.size
  have e1 := hb0 w1
  have A1 := hide (((unhide HA).later hb1).later e1)
  have B1 := hide (((unhide HB).later hb1).later e1)
  have C1 := hide (((unhide HC).later hb1).later e1)
  have M1 := hide (Mine.empty w1)
  go_wp2_with (first
    | (at_builtin; refine wpList_app rfl (.tmp 32) (.tmp 33) rfl w1.heap.size _ _ _ _ rfl (unhide M1) _ _ _ _ rfl (unhide A1) (by omega) (by simp) ?_; intro ao2 c2 w2 hm2 hb2; rw [Nat.zero_add, List.nil_append] at hm2; rw [Nat.zero_add]; have hz2 := hb2.size; simp only [World.size_alloc] at hz2; have hb2' : Below w1.heap.size w1 w2 := e1.trans hb2; have B2 := hide (((unhide HB).later hb1).later hb2'); have M2 := hide hm2; clear hm2)
    | (at_builtin; refine wpList_app rfl (.tmp 34) (.tmp 35) rfl w1.heap.size _ _ _ _ rfl (unhide M2) _ _ _ _ rfl (unhide B2) (by omega) (by omega) ?_; intro ao3 c3 w3 hm3 hb3; have hz3 := hb3.size; have hb3' : Below w1.heap.size w1 w3 := hb2'.trans hb3; have C3 := hide (((unhide HC).later hb1).later hb3'); have M3 := hide hm3; clear hm3)
    | (at_builtin; refine wpList_app rfl (.tmp 36) (.tmp 37) rfl w1.heap.size _ _ _ _ rfl (unhide M3) _ _ _ _ rfl (unhide C3) (by omega) (by omega) ?_; intro ao4 c4 w4 hm4 hb4))
  have hz4 := hb4.size
  have hb4' : Below w1.heap.size w1 w4 := hb3'.trans hb4
  have A4 := hide (((unhide HA).later hb1).later hb4')
  have B4 := hide (((unhide HB).later hb1).later hb4')
  have C4 := hide (((unhide HC).later hb1).later hb4')
  have M4 := hide hm4.bs
  clear hm4
  have SA := hide (sum_any _ _ _ _ _ (unhide A4))
  have SB := hide (sum_any _ _ _ _ _ (unhide B4))
  have SC := hide (sum_any _ _ _ _ _ (unhide C4))
  refine same_world (sum_any _ _ _ _ _ (unhide M4)) ?_
  go_wp2_with fail
  refine same_world (unhide SA) ?_
  go_wp2_with fail
  refine same_world (unhide SB) ?_
  go_wp2_with fail
  have cc := joined_any (sumOf xs) (sumOf bs) (m : Int) w4 (unhide BD _).1 (unhide BD _).2 (unhide BD _).1 (unhide BD _).2 (by omega)
  rw [unhide j1] at cc
  refine same_world cc ?_
  clear cc
  go_wp2_with fail
  refine same_world (unhide SC) ?_
  go_wp2_with fail
  have cc := joined_any (sumOf (xs ++ bs)) (sumOf cs) (k : Int) w4 (unhide BD _).1 (unhide BD _).2 (unhide BD _).1 (unhide BD _).2 (by omega)
  rw [unhide j2] at cc
  refine same_world cc ?_
  clear cc
  go_wp2_with fail
  refine same_world (unhide SB) ?_
  go_wp2_with fail
  refine same_world (unhide SC) ?_
  go_wp2_with fail
  have cc := joined_any (sumOf bs) (sumOf cs) (k : Int) w4 (unhide BD _).1 (unhide BD _).2 (unhide BD _).1 (unhide BD _).2 (by omega)
  rw [unhide j3] at cc
  refine same_world cc ?_
  clear cc
  go_wp2_with fail
  refine same_world (unhide SA) ?_
  go_wp2_with fail
  have cc := joined_any (sumOf xs) (sumOf (bs ++ cs)) ((m : Int) + (k : Int)) w4 (unhide BD _).1 (unhide BD _).2 (unhide BD _).1 (unhide BD _).2 (by omega)
  rw [unhide j4] at cc
  refine same_world cc ?_
  clear cc
  go_wp2_with fail
  refine same_world (unhide SA) ?_
  go_wp2_with fail
  have cc := more_any (sumOf xs) _ _ _ _ _ (unhide B4) (unhide BD _).1 (unhide BD _).2
  rw [unhide m1] at cc
  refine same_world cc ?_
  clear cc
  go_wp2_with fail
  have cc := more_any (sumOf (xs ++ bs)) _ _ _ _ _ (unhide C4) (unhide BD _).1 (unhide BD _).2
  rw [unhide m2] at cc
  refine same_world cc ?_
  clear cc
  go_wp2_with fail
  go_ret
  exact ⟨rfl, hb1.trans (hb4'.mono hz1)⟩

end Go.Proofs.Ytmndgdclcompjaa
