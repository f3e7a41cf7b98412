/-
  What the functions that give the document's answer leave: the same bytes as the program's own, in new memory. Conditions: lengths together below 2 to the 46.
-/
import Derived.Test.YtlicnhlgmnlaoaaMLe
import Derived.Lib.AppendStr
namespace Go.Proofs.Ytlicnhlgmnlaoaa
open Go.RowKit
set_option linter.unusedVariables false
set_option linter.unusedSimpArgs false

/-- 'append(out, s...)', out of the call's own, s a text. -/
theorem wpList_appStr {ops : Array Oper} {rest : List Oper} {o : Oper} {a : Act} {w : World} {Q : Exit → Act → World → Prop} (hgd : o.guard = none) (sl x : Operand)
    (ho : o.op = .call { callee := .builtin .append, args := #[sl, x], argTypes := #[22, 9] })
    (B : Nat) (ao : Option Addr) (n c : Nat) (bs : List Int) (hs : a.eval sl = .slice ao n c) (hm : Mine B w ao n c bs)
    (s : ByteArray) (hx : a.eval x = .string s) (hbound : n + s.size ≤ 140737488355328) (hB : B ≤ w.heap.size)
    (h : ∀ ao1 c1 w1, Mine B w1 ao1 (n + s.size) c1 (bs ++ nums s) → Below B w w1 → wpList Try.prog ops Q rest (a.put o.dst (.slice ao1 (n + s.size) c1)) w1) :
    wpList Try.prog ops Q (o :: rest) a w := by
  obtain ⟨i0, hi, hz0, hz1, hz2⟩ := info_parts Try.infoByte
  refine Lib.wpList_append_own_string w hgd sl x 22 9 ho B 5 i0 Try.underlying22 Try.underlying9 hi hz0 hz1 hz2 _ _ _ hs hm.own s hx (by unfold maxLen; omega) (by omega) hB ?_
  intro v' w' hown hgrow _
  have hcells : Lib.strCells s = (nums s).map (Value.int .u8) := by simp [Lib.strCells, nums]
  rw [hcells, ← List.map_append] at hown
  have hbel : Below B w w' := (Below.refl B w).grown hgrow hB (fun k hk => (hm.own.lt k hk).1)
  have hex : ∃ ao1 c1, v' = .slice ao1 (n + s.size) c1 := by
    rcases hown.2 with ⟨hv, h0⟩ | ⟨g, cap, cur, hv, _⟩
    · exact ⟨.none, 0, by rw [hv, h0]⟩
    · exact ⟨_, _, hv⟩
  obtain ⟨ao1, c1, hv⟩ := hex
  subst hv
  exact h ao1 c1 w' ⟨by simp [hm.len, nums_length], hown, hm.byt.app (nums_byt s)⟩ hbel

/-- How many bytes the shortest form has. -/
theorem form_sizes (x : Int) (h0 : 0 ≤ x) : ((form x).length : Int) = if x ≤ 250 then 1 else if x < 65536 then 3 else if x < 16777216 then 4 else 9 := by
  rw [form_length]
  by_cases a : x ≤ 250
  · rw [if_pos a, show firstOf x = x by simp [firstOf, a], widthOf_small a]; rfl
  · by_cases b : x < 65536
    · rw [if_neg a, if_pos b, show firstOf x = 252 by simp [firstOf, a, b]]; decide
    · by_cases c : x < 16777216
      · rw [if_neg a, if_neg b, if_pos c, show firstOf x = 253 by simp [firstOf, a, b, c]]; decide
      · rw [if_neg a, if_neg b, if_neg c, show firstOf x = 254 by simp [firstOf, a, b, c]]; decide

set_option maxHeartbeats 400000 in
set_option maxRecDepth 100000 in
theorem size_ref (x : Int) (w : World) (h0 : 0 ≤ x) :
    Calls Try.prog 67 #[.int .u64 x] w fun e w' => e = .returned (.int .i64 ((form x).length : Int)) ∧ w' = w := by
  rw [form_sizes x h0]
  by_cases a : x ≤ 250
  · rw [if_pos a]
    go_enter Try.func67, Try.ntmps67
    go_wp2
    go_ret
    exact ⟨rfl, rfl⟩
  · by_cases b : x < 65536
    · rw [if_neg a, if_pos b]
      go_enter Try.func67, Try.ntmps67
      go_wp2
      go_ret
      exact ⟨rfl, rfl⟩
    · by_cases c : x < 16777216
      · rw [if_neg a, if_neg b, if_pos c]
        go_enter Try.func67, Try.ntmps67
        go_wp2
        go_ret
        exact ⟨rfl, rfl⟩
      · rw [if_neg a, if_neg b, if_neg c]
        go_enter Try.func67, Try.ntmps67
        go_wp2
        go_ret
        exact ⟨rfl, rfl⟩

set_option maxHeartbeats 400000 in
set_option maxRecDepth 100000 in
theorem appendFixed_refbad (ao : Option Addr) (n c : Nat) (x k : Int) (w : World)
    (hx0 : 0 ≤ x) (hx1 : x < 18446744073709551616) (hbad : ¬ (1 ≤ k ∧ k ≤ 8 ∧ x < 2 ^ (8 * k.toNat))) :
    Calls Try.prog 68 #[.slice ao n c, .int .u64 x, .int .i64 k] w fun e w' => e = .returned (.tuple #[.slice none 0 0, .int .i64 2]) ∧ w' = w := by
  by_cases h1 : k < 1
  · have g1 : decide (k < 1) = true := by simpa using h1
    clear hbad hx1
    go_enter Try.func68, Try.ntmps68
    go_wp2
    go_ret2
    exact ⟨rfl, rfl⟩
  · have g1 : decide (k < 1) = false := by simpa using h1
    by_cases h2 : 8 < k
    · have g2 : decide (8 < k) = true := by simpa using h2
      clear hbad hx1 h1
      go_enter Try.func68, Try.ntmps68
      go_wp2
      go_ret2
      exact ⟨rfl, rfl⟩
    · have g2 : decide (8 < k) = false := by simpa using h2
      have hf : ¬ x < 2 ^ (8 * k.toNat) := fun hh => hbad ⟨by omega, by omega, hh⟩
      have h8 : k < 8 := by
        by_cases h : k < 8
        · exact h
        · have : k = 8 := by omega
          subst this
          exact absurd hx1 (by simpa using hf)
      have g3 : decide (k < 8) = true := by simpa using h8
      have e8 : (8 * k).toNat = 8 * k.toNat := by omega
      have hs := shr_zero x (2 ^ (8 * k.toNat)) hx0 (pow_pos8 _)
      rw [show decide (x < 2 ^ (8 * k.toNat)) = false by simpa using hf, ← e8] at hs
      have g4 : (x / 2 ^ (8 * k).toNat != 0) = true := by simp only [bne, hs]; rfl
      have hk1 : 1 ≤ k := by omega
      clear hbad hx1 hf hs h1 h2 e8
      go_enter Try.func68, Try.ntmps68
      go_wp2
      go_ret2
      exact ⟨rfl, rfl⟩

set_option maxHeartbeats 400000 in
set_option maxRecDepth 100000 in
theorem appendFixed_ref (ao : Option Addr) (n c : Nat) (bs : List Int) (x k : Int) (w : World) (h : Bs w ao n c bs)
    (hx0 : 0 ≤ x) (hx1 : x < 18446744073709551616) (hbound : (n : Int) + 9 ≤ 140737488355328) (hk1 : 1 ≤ k) (hk8 : k ≤ 8) (hf : x < 2 ^ (8 * k.toNat)) :
    Calls Try.prog 68 #[.slice ao n c, .int .u64 x, .int .i64 k] w fun e w' => ∃ ao' c', e = .returned (.tuple #[.slice ao' (n + k.toNat) c', .int .i64 0]) ∧ Mine w.heap.size w' ao' (n + k.toNat) c' (bs ++ le x k.toNat) ∧ Below w.heap.size w w' := by
  have g1 : decide (k < 1) = false := by simp; omega
  have g2 : decide (8 < k) = false := by simp; omega
  have g4 : (x / 2 ^ (8 * k).toNat != 0) = false := by
    have e8 : (8 * k).toNat = 8 * k.toNat := by omega
    have hs := shr_zero x (2 ^ (8 * k.toNat)) hx0 (pow_pos8 _)
    rw [show decide (x < 2 ^ (8 * k.toNat)) = true by simpa using hf, ← e8] at hs
    simp only [bne, hs]; rfl
  clear hf hx1
  have hlen := hide h.len
  have hb0 := below_alloc w (.cells #[] 5)
  have hm0 := Mine.empty w
  have hs0 := h.later hb0
  have key : ∀ (q : Bool), decide (k < 8) = q → Calls Try.prog 68 #[.slice ao n c, .int .u64 x, .int .i64 k] w fun e w' => ∃ ao' c', e = .returned (.tuple #[.slice ao' (n + k.toNat) c', .int .i64 0]) ∧ Mine w.heap.size w' ao' (n + k.toNat) c' (bs ++ le x k.toNat) ∧ Below w.heap.size w w' := by
    intro q hq
    cases q
    all_goals
      go_enter Try.func68, Try.ntmps68
      go_wp2_with (at_builtin; refine wpList_app rfl (.tmp 28) (.tmp 29) rfl w.heap.size _ _ _ _ rfl hm0 _ _ _ _ rfl hs0 (by omega) (by simp) ?_; intro ao1 c1 w1 hm1 hb1)
      rw [Nat.zero_add, List.nil_append] at hm1
      have hm1' : Mine w.heap.size w1 ao1 (n + 0) c1 (bs ++ le x 0) := by simpa [le] using hm1
      have hbel1 : Below w.heap.size w w1 := hb0.trans hb1
      clear hm1 hb1 hm0 hs0 hb0
      go_loopw [8, 9] (fun v i wr => ∃ (m : Nat) (ao1 : Option Addr) (c1 : Nat), (m : Int) ≤ k ∧ i = .int .i64 m ∧ v = .slice ao1 (n + m) c1 ∧ Mine w.heap.size wr ao1 (n + m) c1 (bs ++ le x m) ∧ Below w.heap.size w wr) (fun _ i _ => (k - intOf i).toNat)
      case atStart => exact ⟨0, ao1, c1, by omega, rfl, rfl, hm1', hbel1⟩
      case round =>
        clear hm1' hbel1
        obtain ⟨m, ao1, c1, hm, rfl, rfl, hmine, hbel⟩ := hrel
        by_cases hlt : (m : Int) < k
        · have hsz := hbel.size
          have hb0 := below_alloc wr (.cells #[.int .u8 (x / 2 ^ (8 * m) % 256)] 5)
          have hs1 := Bs.one wr (x / 2 ^ (8 * m) % 256) (by omega) (by omega)
          have hm1 := hmine.later hb0
          have hsh := shr_step x m
          go_wp2_with (at_builtin; refine wpList_app rfl _ _ rfl w.heap.size _ _ _ _ rfl hm1 _ _ _ _ rfl hs1 (by omega) (by simp; omega) ?_; intro ao2 c2 w2 hm2 hb2)
          have hm3 : Mine w.heap.size w2 ao2 (n + (m + 1)) c2 (bs ++ le x (m + 1)) := by rw [List.append_assoc] at hm2; exact hm2
          have hb3 : Below w.heap.size w w2 := (hbel.trans (hb0.mono (by omega))).trans hb2
          go_roundw
          case rel => exact ⟨m + 1, ao2, c2, by omega, by go_num, rfl, hm3, hb3⟩
          case measure => simp [intOf]; omega
        · have e := hide (show m = k.toNat by omega)
          go_wp2
          go_ret2
          rw [unhide e] at hmine
          exact ⟨ao1, c1, by rw [← unhide e]; rfl, hmine, hbel⟩
  exact key _ rfl

end Go.Proofs.Ytlicnhlgmnlaoaa
