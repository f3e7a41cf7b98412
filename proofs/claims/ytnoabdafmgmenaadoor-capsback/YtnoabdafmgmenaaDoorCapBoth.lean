/-
  What Both, Offered, Needed and Check of package caps return, and the document's. Conditions: the program's tables lie in memory.
-/
import Derived.Test.YtnoabdafmgmenaaDoorCapMem
import Derived.BigQuiet
namespace Go.Proofs.YtnoabdafmgmenaaDoor
open Go.RowKit
set_option linter.unusedVariables false
set_option linter.unusedSimpArgs false

/-- What is left behind k pairs. -/
def bst (a b : Nat) : Nat → Nat
  | 0 => a &&& b
  | 1 => wo (a &&& b) 512 29294760
  | 2 => wo (wo (a &&& b) 512 29294760) 524288 3145728
  | _ => bth a b
theorem bst_lt (a b k : Nat) (ha : a < 4294967296) : bst a b k < 4294967296 := by
  have h0 : a &&& b < 4294967296 := Nat.lt_of_le_of_lt Nat.and_le_left ha
  unfold bst
  split
  · exact h0
  · exact wo_lt _ _ _ h0
  · exact wo_lt _ _ _ (wo_lt _ _ _ h0)
  · exact bth_lt a b ha
theorem bst_step {w : World} {b0 off : Nat} (a b k : Nat) (hk : k < 3) (h2 : w.cell? ⟨b0, off, none⟩ = some (.int .u32 29294760)) (h3 : w.cell? ⟨b0, off + 1, none⟩ = some (.int .u32 512)) (h4 : w.cell? ⟨b0, off + 2, none⟩ = some (.int .u32 3145728)) (h5 : w.cell? ⟨b0, off + 3, none⟩ = some (.int .u32 524288)) (h6 : w.cell? ⟨b0, off + 4, none⟩ = some (.int .u32 65536)) (h7 : w.cell? ⟨b0, off + 5, none⟩ = some (.int .u32 131072)) :
    ∃ T O : Nat, w.cell? ⟨b0, off + k * 2, none⟩ = some (.int .u32 (T : Int)) ∧ w.cell? ⟨b0, off + k * 2 + 1, none⟩ = some (.int .u32 (O : Int)) ∧ bst a b (k + 1) = wo (bst a b k) O T ∧ T < 4294967296 ∧ O < 4294967296 := by
  match k, hk with
  | 0, _ => exact ⟨29294760, 512, h2, h3, rfl, by omega, by omega⟩
  | 1, _ => exact ⟨3145728, 524288, h4, h5, rfl, by omega, by omega⟩
  | 2, _ => exact ⟨65536, 131072, h6, h7, rfl, by omega, by omega⟩
/-- c without these, where none of on is there: as the walks meet it. -/
theorem wo_walk (c on these : Nat) (hc : c < 4294967296) (ho : on < 4294967296) (ht : these < 4294967296) : ∃ Y Z : Int, bits .and .u32 (c : Int) (on : Int) = Y ∧ bits .andNot .u32 (c : Int) (these : Int) = Z ∧ (Y = 0 → Z = (wo c on these : Nat)) ∧ (¬ Y = 0 → (c : Int) = (wo c on these : Nat)) := by
  refine ⟨_, _, u32_and_nat c on hc ho, u32_andNot_nat c these hc ht, fun h => ?_, fun h => ?_⟩
  · have : c &&& on = 0 := by omega
    simp [wo, this]
  · have : ¬ c &&& on = 0 := by omega
    simp [wo, this]

set_option maxHeartbeats 1000000 in
theorem both_any (a b : Nat) (w : World) (ha : a < 4294967296) (hb : b < 4294967296) (hV : Vars w) :
    Calls Tryd.prog 12 #[.int .u32 (a : Int), .int .u32 (b : Int)] w fun e w' => e = .returned (.int .u32 ((bth a b : Nat) : Int)) ∧ Below w.heap.size w w' := by
  obtain ⟨b0, off, c, p1, p2, p3, p4, p5, p6, p7⟩ := hV.prs
  obtain ⟨X, hX⟩ : ∃ X : Int, X = ((bst a b 0 : Nat) : Int) := ⟨_, rfl⟩
  have hx : bits .and .u32 (a : Int) (b : Int) = X := by rw [hX]; exact u32_and_nat a b ha hb
  obtain ⟨R, hR⟩ : ∃ R : Int, R = ((bth a b : Nat) : Int) := ⟨_, rfl⟩
  rw [← hR]
  have HR := hide hR
  have HX := hide hX
  have HA := hide ha
  clear hR hX ha hb hV
  generalize (a : Int) = A at hx ⊢
  generalize (b : Int) = B at hx ⊢
  go_enter Tryd.func12, Tryd.ntmps12
  go_wp2_with fail
  go_loopw [5, 13] (fun d i ws => ∃ k : Nat, k ≤ 3 ∧ i = .int .i64 (k : Int) ∧ d = .int .u32 ((bst a b k : Nat) : Int) ∧ Below w.heap.size w ws) (fun _ i _ => 3 - (intOf i).toNat)
  case atStart => exact ⟨0, by omega, rfl, by rw [unhide HX], Below.refl _ _⟩
  case round =>
    obtain ⟨k, hk, rfl, rfl, hW⟩ := hrel
    have hz := hW.size
    by_cases hlt : k < 3
    · obtain ⟨T, O, c1, c2, hst, hT, hO⟩ := bst_step a b k hlt (cell_later hW p2) (cell_later hW p3) (cell_later hW p4) (cell_later hW p5) (cell_later hW p6) (cell_later hW p7)
      have hl := bst_lt a b k (unhide HA)
      obtain ⟨Y, Z, hy, hz2, hq1, hq2⟩ := wo_walk (bst a b k) O T hl hO hT
      rw [← hst] at hq1 hq2
      have HQ1 := hide hq1
      have HQ2 := hide hq2
      clear hst hq1 hq2 hT hO hl p1 p2 p3 p4 p5 p6 p7
      generalize hD : ((bst a b k : Nat) : Int) = D at *
      have HD := hide hD
      clear hD
      generalize (T : Int) = TT at *
      generalize (O : Int) = OO at *
      by_cases h0 : Y = 0
      · go_wp2_with fail
        go_roundw
        case rel => exact ⟨k + 1, by omega, by go_num, by rw [unhide HQ1 h0], hW.alloc hz _⟩
        case measure => simp [intOf]; omega
      · go_wp2_with fail
        go_roundw
        case rel => exact ⟨k + 1, by omega, by go_num, by rw [unhide HQ2 h0], hW.alloc hz _⟩
        case measure => simp [intOf]; omega
    · have e3 : k = 3 := by omega
      subst e3
      go_wp2_with fail
      go_ret
      exact ⟨by rw [unhide HR]; rfl, hW⟩

theorem offered_any (w : World) : Calls Tryd.prog 13 #[] w fun e w' => e = .returned (.int .u32 29353903) ∧ w' = w := by
  go_enter Tryd.func13, Tryd.ntmps13
  go_wp2_with fail
  go_ret
  exact ⟨rfl, rfl⟩
theorem needed_any (w : World) : Calls Tryd.prog 15 #[] w fun e w' => e = .returned (.int .u32 565760) ∧ w' = w := by
  go_enter Tryd.func15, Tryd.ntmps15
  go_wp2_with fail
  go_ret
  exact ⟨rfl, rfl⟩
theorem offered_ref (w : World) : Calls Tryd.prog 17 #[] w fun e w' => e = .returned (.int .u32 29353903) ∧ w' = w := by
  go_enter Tryd.func17, Tryd.ntmps17
  go_wp2_with fail
  go_ret
  exact ⟨rfl, rfl⟩
theorem needed_ref (w : World) : Calls Tryd.prog 18 #[] w fun e w' => e = .returned (.int .u32 565760) ∧ w' = w := by
  go_enter Tryd.func18, Tryd.ntmps18
  go_wp2_with fail
  go_ret
  exact ⟨rfl, rfl⟩
/-- What Check answers. -/
def chkE (c : Nat) : Int := if 565760 &&& (4294967295 - c) = 0 then 0 else 5
theorem check_any (c : Nat) (w : World) (hc : c < 4294967296) : Calls Tryd.prog 14 #[.int .u32 (c : Int)] w fun e w' => e = .returned (.int .i64 (chkE c)) ∧ w' = w := by
  obtain ⟨Y, hY⟩ : ∃ Y : Int, Y = ((565760 &&& (4294967295 - c) : Nat) : Int) := ⟨_, rfl⟩
  have hy : bits .andNot .u32 565760 (c : Int) = Y := by rw [hY]; exact u32_andNot_nat 565760 c (by omega) hc
  obtain ⟨R, hR⟩ : ∃ R : Int, R = chkE c := ⟨_, rfl⟩
  rw [← hR]
  have h1 : Y = 0 → R = 0 := fun h => by rw [hR]; unfold chkE; rw [if_pos (by omega)]
  have h2 : ¬ Y = 0 → R = 5 := fun h => by rw [hR]; unfold chkE; rw [if_neg (by omega)]
  clear hY hR hc
  generalize (c : Int) = C at *
  by_cases h0 : Y = 0
  · have := h1 h0
    subst this
    clear h1 h2
    go_enter Tryd.func14, Tryd.ntmps14
    go_wp2_with fail
    go_ret
    exact ⟨rfl, rfl⟩
  · have := h2 h0
    subst this
    clear h1 h2
    have h0' : (Y != 0) = true := by simpa using h0
    go_enter Tryd.func14, Tryd.ntmps14
    go_wp2_with fail
    go_ret
    exact ⟨rfl, rfl⟩
theorem check_ref (c : Nat) (w : World) (hc : c < 4294967296) : Calls Tryd.prog 20 #[.int .u32 (c : Int)] w fun e w' => e = .returned (.int .i64 (chkE c)) ∧ w' = w := by
  obtain ⟨Y, hY⟩ : ∃ Y : Int, Y = ((c &&& 565760 : Nat) : Int) := ⟨_, rfl⟩
  have hy : bits .and .u32 (c : Int) 565760 = Y := by rw [hY]; exact u32_and_nat c 565760 hc (by omega)
  obtain ⟨R, hR⟩ : ∃ R : Int, R = chkE c := ⟨_, rfl⟩
  rw [← hR]
  have hn := need_two 565760 c (by omega) hc
  have h1 : Y = 565760 → R = 0 := fun h => by rw [hR]; unfold chkE; rw [if_pos (hn.2 (by omega))]
  have h2 : ¬ Y = 565760 → R = 5 := fun h => by rw [hR]; unfold chkE; rw [if_neg (fun q => h (by have := hn.1 q; omega))]
  clear hY hR hc hn
  generalize (c : Int) = C at *
  by_cases h0 : Y = 565760
  · have := h1 h0
    subst this
    clear h1 h2
    go_enter Tryd.func20, Tryd.ntmps20
    go_wp2_with (go_at_call 18; refine same_world (needed_ref _) ?_)
    go_ret
    exact ⟨rfl, rfl⟩
  · have := h2 h0
    subst this
    clear h1 h2
    have h0' : (Y != 565760) = true := by simpa using h0
    go_enter Tryd.func20, Tryd.ntmps20
    go_wp2_with (go_at_call 18; refine same_world (needed_ref _) ?_)
    go_ret
    exact ⟨rfl, rfl⟩
theorem without_ref (c on these : Nat) (w : World) (hc : c < 4294967296) (ho : on < 4294967296) (ht : these < 4294967296) : Calls Tryd.prog 25 #[.int .u32 (c : Int), .int .u32 (on : Int), .int .u32 (these : Int)] w fun e w' => e = .returned (.int .u32 ((wo c on these : Nat) : Int)) ∧ w' = w := by
  obtain ⟨Y, Z, hy, hz, h1, h2⟩ := wo_walk c on these hc ho ht
  generalize ((wo c on these : Nat) : Int) = R at *
  generalize (c : Int) = C at *
  generalize (on : Int) = O at *
  generalize (these : Int) = T at *
  by_cases h0 : Y = 0
  · have := h1 h0
    subst this
    clear h1 h2
    go_enter Tryd.func25, Tryd.ntmps25
    go_wp2_with fail
    go_ret
    exact ⟨rfl, rfl⟩
  · have := h2 h0
    subst this
    clear h1 h2
    go_enter Tryd.func25, Tryd.ntmps25
    go_wp2_with fail
    go_ret
    exact ⟨rfl, rfl⟩
theorem both_refI (A B X0 Y1 Y2 Y3 : Int) (w : World) (hx : bits .and .u32 A B = X0) (c1 : Calls Tryd.prog 25 #[.int .u32 X0, .int .u32 512, .int .u32 29294760] w fun e w' => e = .returned (.int .u32 Y1) ∧ w' = w)
    (c2 : Calls Tryd.prog 25 #[.int .u32 Y1, .int .u32 524288, .int .u32 3145728] w fun e w' => e = .returned (.int .u32 Y2) ∧ w' = w) (c3 : Calls Tryd.prog 25 #[.int .u32 Y2, .int .u32 131072, .int .u32 65536] w fun e w' => e = .returned (.int .u32 Y3) ∧ w' = w) :
    Calls Tryd.prog 19 #[.int .u32 A, .int .u32 B] w fun e w' => e = .returned (.int .u32 Y3) ∧ w' = w := by
  replace c1 := hide c1
  replace c2 := hide c2
  replace c3 := hide c3
  go_enter Tryd.func19, Tryd.ntmps19
  go_wp2_with (first
    | (go_at_call 25; with_reducible show Calls _ _ #[.int .u32 X0, _, _] _ _; refine same_world (unhide c1) ?_)
    | (go_at_call 25; with_reducible show Calls _ _ #[.int .u32 Y1, _, _] _ _; refine same_world (unhide c2) ?_)
    | (go_at_call 25; with_reducible show Calls _ _ #[.int .u32 Y2, _, _] _ _; refine same_world (unhide c3) ?_))
  go_ret
  exact ⟨rfl, rfl⟩
theorem without_refI (c on these : Nat) (O T : Int) (w : World) (hc : c < 4294967296) (ho : on < 4294967296) (ht : these < 4294967296) (hO : O = (on : Int)) (hT : T = (these : Int)) : Calls Tryd.prog 25 #[.int .u32 (c : Int), .int .u32 O, .int .u32 T] w fun e w' => e = .returned (.int .u32 ((wo c on these : Nat) : Int)) ∧ w' = w := by
  subst hO hT
  exact without_ref c on these w hc ho ht
theorem both_ref (a b : Nat) (w : World) (ha : a < 4294967296) (hb : b < 4294967296) :
    Calls Tryd.prog 19 #[.int .u32 (a : Int), .int .u32 (b : Int)] w fun e w' => e = .returned (.int .u32 ((bth a b : Nat) : Int)) ∧ w' = w := by
  have h0 : a &&& b < 4294967296 := Nat.lt_of_le_of_lt Nat.and_le_left ha
  have h1 := wo_lt (a &&& b) 512 29294760 h0
  have h2 := wo_lt _ 524288 3145728 h1
  refine both_refI _ _ _ _ _ _ w (u32_and_nat a b ha hb) (without_refI (a &&& b) 512 29294760 512 29294760 w h0 (by omega) (by omega) (by omega) (by omega)) (without_refI _ 524288 3145728 524288 3145728 w h1 (by omega) (by omega) (by omega) (by omega)) ?_
  unfold bth
  exact without_refI _ 131072 65536 131072 65536 w h2 (by omega) (by omega) (by omega) (by omega)

end Go.Proofs.YtnoabdafmgmenaaDoor
