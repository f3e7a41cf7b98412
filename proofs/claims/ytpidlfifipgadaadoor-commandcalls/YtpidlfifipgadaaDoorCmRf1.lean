/-
  The document's own answer for commands: shape, About, Check of a command that may be, a number behind bytes. They write nothing that was there. Conditions: the numbers fit; lengths below 2 to the 40.
-/
import Derived.Test.YtpidlfifipgadaaDoorCmFct
namespace Go.Proofs.YtpidlfifipgadaaDoor
open Go.RowKit
set_option linter.unusedVariables false
set_option linter.unusedSimpArgs false

/-- What a kind has, as a number. -/
def shp (k : Int) : Int :=
  if k = 1 ∨ k = 9 ∨ k = 14 ∨ k = 31 then 0 else if k = 2 ∨ k = 3 ∨ k = 22 then 1 else if k = 12 then 2 else if k = 23 then 3
  else if k = 24 then 4 else if k = 25 ∨ k = 26 then 5 else if k = 27 then 6 else if k = 28 then 7 else 8
theorem shp_fl (k : Int) : (shp k = 0 ∧ fl k = []) ∨ (shp k = 1 ∧ fl k = [0]) ∨ (shp k = 2 ∧ fl k = [5]) ∨ (shp k = 3 ∧ fl k = [1, 3, 4, 7]) ∨ (shp k = 4 ∧ fl k = [1, 2, 7]) ∨ (shp k = 5 ∧ fl k = [1]) ∨ (shp k = 6 ∧ fl k = [6]) ∨ (shp k = 7 ∧ fl k = [1, 5]) ∨ (shp k = 8 ∧ fl k = [7]) := by
  unfold shp fl
  by_cases h0 : k = 1 ∨ k = 9 ∨ k = 14 ∨ k = 31
  · rw [if_pos h0, if_pos h0]; simp
  rw [if_neg h0, if_neg h0]
  by_cases h1 : k = 2 ∨ k = 3 ∨ k = 22
  · rw [if_pos h1, if_pos h1]; simp
  rw [if_neg h1, if_neg h1]
  by_cases h2 : k = 12
  · rw [if_pos h2, if_pos h2]; simp
  rw [if_neg h2, if_neg h2]
  by_cases h3 : k = 23
  · rw [if_pos h3, if_pos h3]; simp
  rw [if_neg h3, if_neg h3]
  by_cases h4 : k = 24
  · rw [if_pos h4, if_pos h4]; simp
  rw [if_neg h4, if_neg h4]
  by_cases h5 : k = 25 ∨ k = 26
  · rw [if_pos h5, if_pos h5]; simp
  rw [if_neg h5, if_neg h5]
  by_cases h6 : k = 27
  · rw [if_pos h6, if_pos h6]; simp
  rw [if_neg h6, if_neg h6]
  by_cases h7 : k = 28
  · rw [if_pos h7, if_pos h7]; simp
  rw [if_neg h7, if_neg h7]
  simp

set_option maxHeartbeats 1000000 in
set_option maxRecDepth 100000 in
theorem shape_ref (k : Int) (w : World) : Calls Tryd.prog 30 #[.int .u8 k] w fun e w' => e = .returned (.int .i64 (shp k)) ∧ w' = w := by
  by_cases h1 : k = 1
  · subst h1
    go_enter Tryd.func30, Tryd.ntmps30
    go_wp2_with fail
    go_ret
    exact ⟨rfl, rfl⟩
  by_cases h9 : k = 9
  · subst h9
    go_enter Tryd.func30, Tryd.ntmps30
    go_wp2_with fail
    go_ret
    exact ⟨rfl, rfl⟩
  by_cases h14 : k = 14
  · subst h14
    go_enter Tryd.func30, Tryd.ntmps30
    go_wp2_with fail
    go_ret
    exact ⟨rfl, rfl⟩
  by_cases h31 : k = 31
  · subst h31
    go_enter Tryd.func30, Tryd.ntmps30
    go_wp2_with fail
    go_ret
    exact ⟨rfl, rfl⟩
  by_cases h2 : k = 2
  · subst h2
    go_enter Tryd.func30, Tryd.ntmps30
    go_wp2_with fail
    go_ret
    exact ⟨rfl, rfl⟩
  by_cases h3 : k = 3
  · subst h3
    go_enter Tryd.func30, Tryd.ntmps30
    go_wp2_with fail
    go_ret
    exact ⟨rfl, rfl⟩
  by_cases h22 : k = 22
  · subst h22
    go_enter Tryd.func30, Tryd.ntmps30
    go_wp2_with fail
    go_ret
    exact ⟨rfl, rfl⟩
  by_cases h12 : k = 12
  · subst h12
    go_enter Tryd.func30, Tryd.ntmps30
    go_wp2_with fail
    go_ret
    exact ⟨rfl, rfl⟩
  by_cases h23 : k = 23
  · subst h23
    go_enter Tryd.func30, Tryd.ntmps30
    go_wp2_with fail
    go_ret
    exact ⟨rfl, rfl⟩
  by_cases h24 : k = 24
  · subst h24
    go_enter Tryd.func30, Tryd.ntmps30
    go_wp2_with fail
    go_ret
    exact ⟨rfl, rfl⟩
  by_cases h25 : k = 25
  · subst h25
    go_enter Tryd.func30, Tryd.ntmps30
    go_wp2_with fail
    go_ret
    exact ⟨rfl, rfl⟩
  by_cases h26 : k = 26
  · subst h26
    go_enter Tryd.func30, Tryd.ntmps30
    go_wp2_with fail
    go_ret
    exact ⟨rfl, rfl⟩
  by_cases h27 : k = 27
  · subst h27
    go_enter Tryd.func30, Tryd.ntmps30
    go_wp2_with fail
    go_ret
    exact ⟨rfl, rfl⟩
  by_cases h28 : k = 28
  · subst h28
    go_enter Tryd.func30, Tryd.ntmps30
    go_wp2_with fail
    go_ret
    exact ⟨rfl, rfl⟩
  have f1 : (k == 1) = false := by simpa using h1
  have f9 : (k == 9) = false := by simpa using h9
  have f14 : (k == 14) = false := by simpa using h14
  have f31 : (k == 31) = false := by simpa using h31
  have f2 : (k == 2) = false := by simpa using h2
  have f3 : (k == 3) = false := by simpa using h3
  have f22 : (k == 22) = false := by simpa using h22
  have f12 : (k == 12) = false := by simpa using h12
  have f23 : (k == 23) = false := by simpa using h23
  have f24 : (k == 24) = false := by simpa using h24
  have f25 : (k == 25) = false := by simpa using h25
  have f26 : (k == 26) = false := by simpa using h26
  have f27 : (k == 27) = false := by simpa using h27
  have f28 : (k == 28) = false := by simpa using h28
  have e : shp k = 8 := by
    unfold shp
    rw [if_neg (by omega), if_neg (by omega), if_neg (by omega), if_neg (by omega), if_neg (by omega), if_neg (by omega), if_neg (by omega), if_neg (by omega)]
  rw [e]
  clear h1 h9 h14 h31 h2 h3 h22 h12 h23 h24 h25 h26 h27 h28 e
  go_enter Tryd.func30, Tryd.ntmps30
  go_wp2_with fail
  go_ret
  exact ⟨rfl, rfl⟩

theorem abt_shp (k : Int) : abt k = ((shp k == 3) || ((shp k == 4) || ((shp k == 5) || (shp k == 7)))) := by
  by_cases h1 : k = 1
  · subst h1
    rfl
  by_cases h9 : k = 9
  · subst h9
    rfl
  by_cases h14 : k = 14
  · subst h14
    rfl
  by_cases h31 : k = 31
  · subst h31
    rfl
  by_cases h2 : k = 2
  · subst h2
    rfl
  by_cases h3 : k = 3
  · subst h3
    rfl
  by_cases h22 : k = 22
  · subst h22
    rfl
  by_cases h12 : k = 12
  · subst h12
    rfl
  by_cases h23 : k = 23
  · subst h23
    rfl
  by_cases h24 : k = 24
  · subst h24
    rfl
  by_cases h25 : k = 25
  · subst h25
    rfl
  by_cases h26 : k = 26
  · subst h26
    rfl
  by_cases h27 : k = 27
  · subst h27
    rfl
  by_cases h28 : k = 28
  · subst h28
    rfl
  have f1 : (k == 1) = false := by simpa using h1
  have f9 : (k == 9) = false := by simpa using h9
  have f14 : (k == 14) = false := by simpa using h14
  have f31 : (k == 31) = false := by simpa using h31
  have f2 : (k == 2) = false := by simpa using h2
  have f3 : (k == 3) = false := by simpa using h3
  have f22 : (k == 22) = false := by simpa using h22
  have f12 : (k == 12) = false := by simpa using h12
  have f23 : (k == 23) = false := by simpa using h23
  have f24 : (k == 24) = false := by simpa using h24
  have f25 : (k == 25) = false := by simpa using h25
  have f26 : (k == 26) = false := by simpa using h26
  have f27 : (k == 27) = false := by simpa using h27
  have f28 : (k == 28) = false := by simpa using h28
  have e : shp k = 8 := by
    unfold shp
    rw [if_neg (by omega), if_neg (by omega), if_neg (by omega), if_neg (by omega), if_neg (by omega), if_neg (by omega), if_neg (by omega), if_neg (by omega)]
  rw [e]
  unfold abt
  rw [f23, f24, f25, f26, f28]
  rfl

set_option maxHeartbeats 1000000 in
set_option maxRecDepth 100000 in
theorem about_ref (k : Int) (w : World) : Calls Tryd.prog 20 #[.int .u8 k] w fun e w' => e = .returned (.bool (abt k)) ∧ w' = w := by
  have cS := hide (shape_ref k w)
  rw [abt_shp]
  have hs : shp k = 0 ∨ shp k = 1 ∨ shp k = 2 ∨ shp k = 3 ∨ shp k = 4 ∨ shp k = 5 ∨ shp k = 6 ∨ shp k = 7 ∨ shp k = 8 := by
    rcases shp_fl k with h | h | h | h | h | h | h | h | h <;> simp [h.1]
  generalize shp k = s at *
  rcases hs with rfl | rfl | rfl | rfl | rfl | rfl | rfl | rfl | rfl
  all_goals
    go_enter Tryd.func20, Tryd.ntmps20
    go_wp2_with (go_at_call 30; refine same_world (unhide cS) ?_)
    go_ret
    exact ⟨rfl, rfl⟩

set_option maxHeartbeats 400000 in
set_option maxRecDepth 100000 in
theorem appendFixed_ref (ao : Option Addr) (n c : Nat) (bs : List Int) (x k : Int) (w : World) (h : Bs w ao n c bs)
    (hx0 : 0 ≤ x) (hx1 : x < 18446744073709551616) (hbound : (n : Int) + 9 ≤ 140737488355328) (hk1 : 1 ≤ k) (hk8 : k ≤ 8) (hf : x < 2 ^ (8 * k.toNat)) :
    Calls Tryd.prog 41 #[.slice ao n c, .int .u64 x, .int .i64 k] w fun e w' => ∃ ao' c', e = .returned (.tuple #[.slice ao' (n + k.toNat) c', .int .i64 0]) ∧ Mine w.heap.size w' ao' (n + k.toNat) c' (bs ++ le x k.toNat) ∧ Below w.heap.size w w' := by
  have g1 : decide (k < 1) = false := by simp; omega
  have g2 : decide (8 < k) = false := by simp; omega
  have g4 : (x / 2 ^ (8 * k).toNat != 0) = false := by
    have e8 : (8 * k).toNat = 8 * k.toNat := by omega
    have hs := shr_zero x (2 ^ (8 * k.toNat)) hx0 (pow_pos8 _)
    rw [show decide (x < 2 ^ (8 * k.toNat)) = true by simpa using hf, ← e8] at hs
    simp only [bne, hs]; rfl
  clear hf hx1
  have hlen := hide h.len
  have hb0 := below_alloc w (.cells #[] 5)
  have hm0 := Mine.empty w
  have hs0 := h.later hb0
  have key : ∀ (q : Bool), decide (k < 8) = q → Calls Tryd.prog 41 #[.slice ao n c, .int .u64 x, .int .i64 k] w fun e w' => ∃ ao' c', e = .returned (.tuple #[.slice ao' (n + k.toNat) c', .int .i64 0]) ∧ Mine w.heap.size w' ao' (n + k.toNat) c' (bs ++ le x k.toNat) ∧ Below w.heap.size w w' := by
    intro q hq
    cases q
    all_goals
      go_enter Tryd.func41, Tryd.ntmps41
      go_wp2_with (at_builtin; refine wpList_app rfl (.tmp 28) (.tmp 29) rfl w.heap.size _ _ _ _ rfl hm0 _ _ _ _ rfl hs0 (by omega) (by simp) ?_; intro ao1 c1 w1 hm1 hb1)
      rw [Nat.zero_add, List.nil_append] at hm1
      have hm1' : Mine w.heap.size w1 ao1 (n + 0) c1 (bs ++ le x 0) := by simpa [le] using hm1
      have hbel1 : Below w.heap.size w w1 := hb0.trans hb1
      clear hm1 hb1 hm0 hs0 hb0
      go_loopw [8, 9] (fun v i wr => ∃ (m : Nat) (ao1 : Option Addr) (c1 : Nat), (m : Int) ≤ k ∧ i = .int .i64 m ∧ v = .slice ao1 (n + m) c1 ∧ Mine w.heap.size wr ao1 (n + m) c1 (bs ++ le x m) ∧ Below w.heap.size w wr) (fun _ i _ => (k - intOf i).toNat)
      case atStart => exact ⟨0, ao1, c1, by omega, rfl, rfl, hm1', hbel1⟩
      case round =>
        clear hm1' hbel1
        obtain ⟨m, ao1, c1, hm, rfl, rfl, hmine, hbel⟩ := hrel
        by_cases hlt : (m : Int) < k
        · have hsz := hbel.size
          have hb0 := below_alloc wr (.cells #[.int .u8 (x / 2 ^ (8 * m) % 256)] 5)
          have hs1 := Bs.one wr (x / 2 ^ (8 * m) % 256) (by omega) (by omega)
          have hm1 := hmine.later hb0
          have hsh := shr_step x m
          go_wp2_with (at_builtin; refine wpList_app rfl _ _ rfl w.heap.size _ _ _ _ rfl hm1 _ _ _ _ rfl hs1 (by omega) (by simp; omega) ?_; intro ao2 c2 w2 hm2 hb2)
          have hm3 : Mine w.heap.size w2 ao2 (n + (m + 1)) c2 (bs ++ le x (m + 1)) := by rw [List.append_assoc] at hm2; exact hm2
          have hb3 : Below w.heap.size w w2 := (hbel.trans (hb0.mono (by omega))).trans hb2
          go_roundw
          case rel => exact ⟨m + 1, ao2, c2, by omega, by go_num, rfl, hm3, hb3⟩
          case measure => simp [intOf]; omega
        · have e := hide (show m = k.toNat by omega)
          go_wp2
          go_ret2
          rw [unhide e] at hmine
          exact ⟨ao1, c1, by rw [← unhide e]; rfl, hmine, hbel⟩
  exact key _ rfl

set_option maxHeartbeats 400000 in
theorem fixed_ref (ao : Option Addr) (n c : Nat) (bs : List Int) (x k : Int) (w : World) (h : Bs w ao n c bs)
    (hx0 : 0 ≤ x) (hx1 : x < 18446744073709551616) (hbound : (n : Int) + 9 ≤ 140737488355328) (hk1 : 1 ≤ k) (hk8 : k ≤ 8) (hf : x < 2 ^ (8 * k.toNat)) :
    Calls Tryd.prog 31 #[.slice ao n c, .int .u64 x, .int .i64 k] w fun e w' => ∃ ao' c', e = .returned (.slice ao' (n + k.toNat) c') ∧ Mine w.heap.size w' ao' (n + k.toNat) c' (bs ++ le x k.toNat) ∧ Below w.heap.size w w' := by
  have cA := hide (appendFixed_ref ao n c bs x k w h hx0 hx1 hbound hk1 hk8 hf)
  clear h hf
  go_enter Tryd.func31, Tryd.ntmps31
  go_wp2_with fail
  refine (unhide cA).mono ?_
  rintro e w1 ⟨ao1, c1, rfl, hm, hb⟩
  go_wp2_with fail
  go_ret
  exact ⟨ao1, c1, rfl, hm, hb⟩


set_option maxHeartbeats 4000000 in
set_option maxRecDepth 100000 in
theorem check_ref_ok (c : Cm) (xo : Option Addr) (xn xc : Nat) (w : World) (hl : c.d.length = xn) (h : Nf c) :
    Calls Tryd.prog 16 #[.agg (c.cd xo xn xc).row] w fun e w' => e = .returned (.int .i64 0) ∧ Below w.heap.size w w' := by
  obtain ⟨hf, ht, hs, hp, hff, hn, ho, hd⟩ := h
  have hd' : 7 ∈ fl c.k ∨ xn = 0 := hd.imp id (fun q => by rw [← hl, q]; rfl)
  have cS := hide (shape_ref c.k (w.alloc (.cells (c.cd xo xn xc).row 26)))
  obtain ⟨K, T, S, P, F, N, O, D⟩ := c
  simp only [Cm.cd, Cd.row] at *
  have hw := shp_fl K
  generalize shp K = s at *
  generalize fl K = l at *
  clear hd hl
  rcases hw with ⟨rfl, rfl⟩ | ⟨rfl, rfl⟩ | ⟨rfl, rfl⟩ | ⟨rfl, rfl⟩ | ⟨rfl, rfl⟩ | ⟨rfl, rfl⟩ | ⟨rfl, rfl⟩ | ⟨rfl, rfl⟩ | ⟨rfl, rfl⟩
  · obtain rfl : T = ⟨#[]⟩ := ht.resolve_left (by decide)
    obtain rfl : S = 0 := hs.resolve_left (by decide)
    obtain rfl : P = 0 := hp.resolve_left (by decide)
    obtain rfl : F = 0 := hff.resolve_left (by decide)
    obtain rfl : N = 0 := hn.resolve_left (by decide)
    obtain rfl : O = 0 := ho.resolve_left (by decide)
    obtain rfl : xn = 0 := hd'.resolve_left (by decide)
    go_enter Tryd.func16, Tryd.ntmps16
    go_wp2_with (go_at_call 30; refine same_world (unhide cS) ?_)
    go_ret
    exact ⟨rfl, below_alloc w _⟩
  · clear ht
    obtain rfl : S = 0 := hs.resolve_left (by decide)
    obtain rfl : P = 0 := hp.resolve_left (by decide)
    obtain rfl : F = 0 := hff.resolve_left (by decide)
    obtain rfl : N = 0 := hn.resolve_left (by decide)
    obtain rfl : O = 0 := ho.resolve_left (by decide)
    obtain rfl : xn = 0 := hd'.resolve_left (by decide)
    by_cases q0 : T.toList = []
    · obtain rfl := ba_nil q0
      clear q0
      go_enter Tryd.func16, Tryd.ntmps16
      go_wp2_with (go_at_call 30; refine same_world (unhide cS) ?_)
      go_ret
      exact ⟨rfl, below_alloc w _⟩
    · go_enter Tryd.func16, Tryd.ntmps16
      go_wp2_with (go_at_call 30; refine same_world (unhide cS) ?_)
      go_ret
      exact ⟨rfl, below_alloc w _⟩
  · obtain rfl : T = ⟨#[]⟩ := ht.resolve_left (by decide)
    obtain rfl : S = 0 := hs.resolve_left (by decide)
    obtain rfl : P = 0 := hp.resolve_left (by decide)
    obtain rfl : F = 0 := hff.resolve_left (by decide)
    clear hn
    obtain rfl : O = 0 := ho.resolve_left (by decide)
    obtain rfl : xn = 0 := hd'.resolve_left (by decide)
    by_cases q5 : N = 0
    · subst q5
      go_enter Tryd.func16, Tryd.ntmps16
      go_wp2_with (go_at_call 30; refine same_world (unhide cS) ?_)
      go_ret
      exact ⟨rfl, below_alloc w _⟩
    · have p5 : (N != 0) = true := by simpa using q5
      go_enter Tryd.func16, Tryd.ntmps16
      go_wp2_with (go_at_call 30; refine same_world (unhide cS) ?_)
      go_ret
      exact ⟨rfl, below_alloc w _⟩
  · obtain rfl : T = ⟨#[]⟩ := ht.resolve_left (by decide)
    clear hs
    obtain rfl : P = 0 := hp.resolve_left (by decide)
    clear hff
    obtain rfl : N = 0 := hn.resolve_left (by decide)
    obtain rfl : O = 0 := ho.resolve_left (by decide)
    clear hd'
    have hF1 : ¬ F > 1 := by omega
    by_cases q1 : S = 0
    · subst q1
      by_cases q3 : F = 0
      · subst q3
        by_cases q7 : xn = 0
        · subst q7
          go_enter Tryd.func16, Tryd.ntmps16
          go_wp2_with (go_at_call 30; refine same_world (unhide cS) ?_)
          go_ret
          exact ⟨rfl, below_alloc w _⟩
        · have q8 : (xn : Int) > 0 := by omega
          go_enter Tryd.func16, Tryd.ntmps16
          go_wp2_with (go_at_call 30; refine same_world (unhide cS) ?_)
          go_ret
          exact ⟨rfl, below_alloc w _⟩
      · have p3 : (F != 0) = true := by simpa using q3
        by_cases q7 : xn = 0
        · subst q7
          go_enter Tryd.func16, Tryd.ntmps16
          go_wp2_with (go_at_call 30; refine same_world (unhide cS) ?_)
          go_ret
          exact ⟨rfl, below_alloc w _⟩
        · have q8 : (xn : Int) > 0 := by omega
          go_enter Tryd.func16, Tryd.ntmps16
          go_wp2_with (go_at_call 30; refine same_world (unhide cS) ?_)
          go_ret
          exact ⟨rfl, below_alloc w _⟩
    · have p1 : (S != 0) = true := by simpa using q1
      by_cases q3 : F = 0
      · subst q3
        by_cases q7 : xn = 0
        · subst q7
          go_enter Tryd.func16, Tryd.ntmps16
          go_wp2_with (go_at_call 30; refine same_world (unhide cS) ?_)
          go_ret
          exact ⟨rfl, below_alloc w _⟩
        · have q8 : (xn : Int) > 0 := by omega
          go_enter Tryd.func16, Tryd.ntmps16
          go_wp2_with (go_at_call 30; refine same_world (unhide cS) ?_)
          go_ret
          exact ⟨rfl, below_alloc w _⟩
      · have p3 : (F != 0) = true := by simpa using q3
        by_cases q7 : xn = 0
        · subst q7
          go_enter Tryd.func16, Tryd.ntmps16
          go_wp2_with (go_at_call 30; refine same_world (unhide cS) ?_)
          go_ret
          exact ⟨rfl, below_alloc w _⟩
        · have q8 : (xn : Int) > 0 := by omega
          go_enter Tryd.func16, Tryd.ntmps16
          go_wp2_with (go_at_call 30; refine same_world (unhide cS) ?_)
          go_ret
          exact ⟨rfl, below_alloc w _⟩
  · obtain rfl : T = ⟨#[]⟩ := ht.resolve_left (by decide)
    clear hs
    clear hp
    obtain rfl : F = 0 := hff.resolve_left (by decide)
    obtain rfl : N = 0 := hn.resolve_left (by decide)
    obtain rfl : O = 0 := ho.resolve_left (by decide)
    clear hd'
    by_cases q1 : S = 0
    · subst q1
      by_cases q2 : P = 0
      · subst q2
        by_cases q7 : xn = 0
        · subst q7
          go_enter Tryd.func16, Tryd.ntmps16
          go_wp2_with (go_at_call 30; refine same_world (unhide cS) ?_)
          go_ret
          exact ⟨rfl, below_alloc w _⟩
        · have q8 : (xn : Int) > 0 := by omega
          go_enter Tryd.func16, Tryd.ntmps16
          go_wp2_with (go_at_call 30; refine same_world (unhide cS) ?_)
          go_ret
          exact ⟨rfl, below_alloc w _⟩
      · have p2 : (P != 0) = true := by simpa using q2
        by_cases q7 : xn = 0
        · subst q7
          go_enter Tryd.func16, Tryd.ntmps16
          go_wp2_with (go_at_call 30; refine same_world (unhide cS) ?_)
          go_ret
          exact ⟨rfl, below_alloc w _⟩
        · have q8 : (xn : Int) > 0 := by omega
          go_enter Tryd.func16, Tryd.ntmps16
          go_wp2_with (go_at_call 30; refine same_world (unhide cS) ?_)
          go_ret
          exact ⟨rfl, below_alloc w _⟩
    · have p1 : (S != 0) = true := by simpa using q1
      by_cases q2 : P = 0
      · subst q2
        by_cases q7 : xn = 0
        · subst q7
          go_enter Tryd.func16, Tryd.ntmps16
          go_wp2_with (go_at_call 30; refine same_world (unhide cS) ?_)
          go_ret
          exact ⟨rfl, below_alloc w _⟩
        · have q8 : (xn : Int) > 0 := by omega
          go_enter Tryd.func16, Tryd.ntmps16
          go_wp2_with (go_at_call 30; refine same_world (unhide cS) ?_)
          go_ret
          exact ⟨rfl, below_alloc w _⟩
      · have p2 : (P != 0) = true := by simpa using q2
        by_cases q7 : xn = 0
        · subst q7
          go_enter Tryd.func16, Tryd.ntmps16
          go_wp2_with (go_at_call 30; refine same_world (unhide cS) ?_)
          go_ret
          exact ⟨rfl, below_alloc w _⟩
        · have q8 : (xn : Int) > 0 := by omega
          go_enter Tryd.func16, Tryd.ntmps16
          go_wp2_with (go_at_call 30; refine same_world (unhide cS) ?_)
          go_ret
          exact ⟨rfl, below_alloc w _⟩
  · obtain rfl : T = ⟨#[]⟩ := ht.resolve_left (by decide)
    clear hs
    obtain rfl : P = 0 := hp.resolve_left (by decide)
    obtain rfl : F = 0 := hff.resolve_left (by decide)
    obtain rfl : N = 0 := hn.resolve_left (by decide)
    obtain rfl : O = 0 := ho.resolve_left (by decide)
    obtain rfl : xn = 0 := hd'.resolve_left (by decide)
    by_cases q1 : S = 0
    · subst q1
      go_enter Tryd.func16, Tryd.ntmps16
      go_wp2_with (go_at_call 30; refine same_world (unhide cS) ?_)
      go_ret
      exact ⟨rfl, below_alloc w _⟩
    · have p1 : (S != 0) = true := by simpa using q1
      go_enter Tryd.func16, Tryd.ntmps16
      go_wp2_with (go_at_call 30; refine same_world (unhide cS) ?_)
      go_ret
      exact ⟨rfl, below_alloc w _⟩
  · obtain rfl : T = ⟨#[]⟩ := ht.resolve_left (by decide)
    obtain rfl : S = 0 := hs.resolve_left (by decide)
    obtain rfl : P = 0 := hp.resolve_left (by decide)
    obtain rfl : F = 0 := hff.resolve_left (by decide)
    obtain rfl : N = 0 := hn.resolve_left (by decide)
    clear ho
    obtain rfl : xn = 0 := hd'.resolve_left (by decide)
    by_cases q6 : O = 0
    · subst q6
      go_enter Tryd.func16, Tryd.ntmps16
      go_wp2_with (go_at_call 30; refine same_world (unhide cS) ?_)
      go_ret
      exact ⟨rfl, below_alloc w _⟩
    · have p6 : (O != 0) = true := by simpa using q6
      go_enter Tryd.func16, Tryd.ntmps16
      go_wp2_with (go_at_call 30; refine same_world (unhide cS) ?_)
      go_ret
      exact ⟨rfl, below_alloc w _⟩
  · obtain rfl : T = ⟨#[]⟩ := ht.resolve_left (by decide)
    clear hs
    obtain rfl : P = 0 := hp.resolve_left (by decide)
    obtain rfl : F = 0 := hff.resolve_left (by decide)
    clear hn
    obtain rfl : O = 0 := ho.resolve_left (by decide)
    obtain rfl : xn = 0 := hd'.resolve_left (by decide)
    by_cases q1 : S = 0
    · subst q1
      by_cases q5 : N = 0
      · subst q5
        go_enter Tryd.func16, Tryd.ntmps16
        go_wp2_with (go_at_call 30; refine same_world (unhide cS) ?_)
        go_ret
        exact ⟨rfl, below_alloc w _⟩
      · have p5 : (N != 0) = true := by simpa using q5
        go_enter Tryd.func16, Tryd.ntmps16
        go_wp2_with (go_at_call 30; refine same_world (unhide cS) ?_)
        go_ret
        exact ⟨rfl, below_alloc w _⟩
    · have p1 : (S != 0) = true := by simpa using q1
      by_cases q5 : N = 0
      · subst q5
        go_enter Tryd.func16, Tryd.ntmps16
        go_wp2_with (go_at_call 30; refine same_world (unhide cS) ?_)
        go_ret
        exact ⟨rfl, below_alloc w _⟩
      · have p5 : (N != 0) = true := by simpa using q5
        go_enter Tryd.func16, Tryd.ntmps16
        go_wp2_with (go_at_call 30; refine same_world (unhide cS) ?_)
        go_ret
        exact ⟨rfl, below_alloc w _⟩
  · obtain rfl : T = ⟨#[]⟩ := ht.resolve_left (by decide)
    obtain rfl : S = 0 := hs.resolve_left (by decide)
    obtain rfl : P = 0 := hp.resolve_left (by decide)
    obtain rfl : F = 0 := hff.resolve_left (by decide)
    obtain rfl : N = 0 := hn.resolve_left (by decide)
    obtain rfl : O = 0 := ho.resolve_left (by decide)
    clear hd'
    by_cases q7 : xn = 0
    · subst q7
      go_enter Tryd.func16, Tryd.ntmps16
      go_wp2_with (go_at_call 30; refine same_world (unhide cS) ?_)
      go_ret
      exact ⟨rfl, below_alloc w _⟩
    · have q8 : (xn : Int) > 0 := by omega
      go_enter Tryd.func16, Tryd.ntmps16
      go_wp2_with (go_at_call 30; refine same_world (unhide cS) ?_)
      go_ret
      exact ⟨rfl, below_alloc w _⟩

end Go.Proofs.YtpidlfifipgadaaDoor
