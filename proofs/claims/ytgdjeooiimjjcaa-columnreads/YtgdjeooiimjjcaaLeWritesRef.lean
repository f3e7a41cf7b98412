/-
  What the functions that give the document's answer leave: the same bytes as the program's own, in new memory. Conditions: lengths together below 2 to the 46.
-/
import Derived.Test.YtgdjeooiimjjcaaLeWrites2
import Derived.Lib.AppendStr
namespace Go.Proofs.Ytgdjeooiimjjcaa
open Go.RowKit
set_option linter.unusedVariables false
set_option linter.unusedSimpArgs false

/-- 'append(out, s...)', out of the call's own, s a text. -/
theorem wpList_appStr {ops : Array Oper} {rest : List Oper} {o : Oper} {a : Act} {w : World} {Q : Exit → Act → World → Prop} (hgd : o.guard = none) (sl x : Operand)
    (ho : o.op = .call { callee := .builtin .append, args := #[sl, x], argTypes := #[22, 9] })
    (B : Nat) (ao : Option Addr) (n c : Nat) (bs : List Int) (hs : a.eval sl = .slice ao n c) (hm : Mine B w ao n c bs)
    (s : ByteArray) (hx : a.eval x = .string s) (hbound : n + s.size ≤ 140737488355328) (hB : B ≤ w.heap.size)
    (h : ∀ ao1 c1 w1, Mine B w1 ao1 (n + s.size) c1 (bs ++ nums s) → Below B w w1 → wpList Try.prog ops Q rest (a.put o.dst (.slice ao1 (n + s.size) c1)) w1) :
    wpList Try.prog ops Q (o :: rest) a w := by
  obtain ⟨i0, hi, hz0, hz1, hz2⟩ := info_parts Try.infoByte
  refine Lib.wpList_append_own_string w hgd sl x 22 9 ho B 5 i0 Try.underlying22 Try.underlying9 hi hz0 hz1 hz2 _ _ _ hs hm.own s hx (by unfold maxLen; omega) (by omega) hB ?_
  intro v' w' hown hgrow _
  have hcells : Lib.strCells s = (nums s).map (Value.int .u8) := by simp [Lib.strCells, nums]
  rw [hcells, ← List.map_append] at hown
  have hbel : Below B w w' := (Below.refl B w).grown hgrow hB (fun k hk => (hm.own.lt k hk).1)
  have hex : ∃ ao1 c1, v' = .slice ao1 (n + s.size) c1 := by
    rcases hown.2 with ⟨hv, h0⟩ | ⟨g, cap, cur, hv, _⟩
    · exact ⟨.none, 0, by rw [hv, h0]⟩
    · exact ⟨_, _, hv⟩
  obtain ⟨ao1, c1, hv⟩ := hex
  subst hv
  exact h ao1 c1 w' ⟨by simp [hm.len, nums_length], hown, hm.byt.app (nums_byt s)⟩ hbel

/-- How many bytes the shortest form has. -/
theorem form_sizes (x : Int) (h0 : 0 ≤ x) : ((form x).length : Int) = if x ≤ 250 then 1 else if x < 65536 then 3 else if x < 16777216 then 4 else 9 := by
  rw [form_length]
  by_cases a : x ≤ 250
  · rw [if_pos a, show firstOf x = x by simp [firstOf, a], widthOf_small a]; rfl
  · by_cases b : x < 65536
    · rw [if_neg a, if_pos b, show firstOf x = 252 by simp [firstOf, a, b]]; decide
    · by_cases c : x < 16777216
      · rw [if_neg a, if_neg b, if_pos c, show firstOf x = 253 by simp [firstOf, a, b, c]]; decide
      · rw [if_neg a, if_neg b, if_neg c, show firstOf x = 254 by simp [firstOf, a, b, c]]; decide

set_option maxHeartbeats 400000 in
set_option maxRecDepth 100000 in
theorem size_ref (x : Int) (w : World) (h0 : 0 ≤ x) :
    Calls Try.prog 35 #[.int .u64 x] w fun e w' => e = .returned (.int .i64 ((form x).length : Int)) ∧ w' = w := by
  rw [form_sizes x h0]
  by_cases a : x ≤ 250
  · rw [if_pos a]
    go_enter Try.func35, Try.ntmps35
    go_wp2
    go_ret
    exact ⟨rfl, rfl⟩
  · by_cases b : x < 65536
    · rw [if_neg a, if_pos b]
      go_enter Try.func35, Try.ntmps35
      go_wp2
      go_ret
      exact ⟨rfl, rfl⟩
    · by_cases c : x < 16777216
      · rw [if_neg a, if_neg b, if_pos c]
        go_enter Try.func35, Try.ntmps35
        go_wp2
        go_ret
        exact ⟨rfl, rfl⟩
      · rw [if_neg a, if_neg b, if_neg c]
        go_enter Try.func35, Try.ntmps35
        go_wp2
        go_ret
        exact ⟨rfl, rfl⟩



end Go.Proofs.Ytgdjeooiimjjcaa
