/-
  What AppendInt, AppendText and AppendEnded of the document's answer leave: the same bytes as the program's own, in new memory. Conditions: lengths together below 2 to the 46.
-/
import Derived.Test.YtlicnhlgmnlaoaaLeWritesRef
namespace Go.Proofs.Ytlicnhlgmnlaoaa
open Go.RowKit
set_option linter.unusedVariables false
set_option linter.unusedSimpArgs false


/-- A number above 250: its first byte, and how many stand behind it. -/
theorem form_big (x : Int) (h0 : 0 ≤ x) (h1 : x < 18446744073709551616) (a : ¬ x ≤ 250) :
    ∃ f k : Int, (f = 252 ∧ k = 2 ∨ f = 253 ∧ k = 3 ∨ f = 254 ∧ k = 8) ∧ form x = [f] ++ le x k.toNat ∧ x < 2 ^ (8 * k.toNat) := by
  by_cases b : x < 65536
  · exact ⟨252, 2, .inl ⟨rfl, rfl⟩, by unfold form; rw [show firstOf x = 252 by simp [firstOf, a, b]]; rfl, by simpa using b⟩
  · by_cases c : x < 16777216
    · exact ⟨253, 3, .inr (.inl ⟨rfl, rfl⟩), by unfold form; rw [show firstOf x = 253 by simp [firstOf, a, b, c]]; rfl, by simpa using c⟩
    · exact ⟨254, 8, .inr (.inr ⟨rfl, rfl⟩), by unfold form; rw [show firstOf x = 254 by simp [firstOf, a, b, c]]; rfl, by simpa using h1⟩

theorem form_small {x : Int} (a : x ≤ 250) : form x = [x] := by
  unfold form; rw [show firstOf x = x by simp [firstOf, a], widthOf_small a]; rfl

set_option maxHeartbeats 400000 in
set_option maxRecDepth 100000 in
theorem appendInt_ref (ao : Option Addr) (n c : Nat) (bs : List Int) (x : Int) (w : World) (h : Bs w ao n c bs)
    (hx0 : 0 ≤ x) (hx1 : x < 18446744073709551616) (hbound : (n : Int) + 10 ≤ 140737488355328) :
    Calls Try.prog 45 #[.slice ao n c, .int .u64 x] w fun e w' => ∃ ao' c', e = .returned (.slice ao' (n + (form x).length) c') ∧ Mine w.heap.size w' ao' (n + (form x).length) c' (bs ++ form x) ∧ Below w.heap.size w w' := by
  have cS := hide (fun w => size_ref x w hx0)
  have hlen := hide h.len
  have hb0 := below_alloc w (.cells #[] 5)
  have hm0 := Mine.empty w
  have hs0 := h.later hb0
  by_cases a : x ≤ 250
  · rw [form_small a] at cS ⊢
    clear hx1
    go_enter Try.func45, Try.ntmps45
    go_wp2_with (first
      | (go_at_call 67; refine (unhide cS _).mono ?_; rintro e w' ⟨rfl, hw'⟩; have hw'' := hw'.symm; subst hw'')
      | (at_builtin; refine wpList_app rfl (.tmp 10) (.tmp 11) rfl w.heap.size _ _ _ _ rfl hm0 _ _ _ _ rfl hs0 (by omega) (by simp) ?_; intro ao1 c1 w1 hm1 hb1; rw [Nat.zero_add, List.nil_append] at hm1; have hz1 := hb1.size)
      | (at_builtin; refine wpList_app rfl (.tmp 15) (.tmp 18) rfl w.heap.size _ _ _ _ rfl (hm1.later (below_alloc w1 _)) _ _ _ _ rfl (Bs.one w1 x (by omega) (by omega)) (by omega) (by simp at hz1; simp; omega) ?_; intro ao2 c2 w2 hm2 hb2))
    go_ret
    simp at hz1
    exact ⟨ao2, c2, rfl, hm2, ((hb0.trans hb1).trans ((below_alloc w1 _).mono (by omega))).trans hb2⟩
  · obtain ⟨f, k, hk, hform, hfit⟩ := form_big x hx0 hx1 a
    have hl : (form x).length = 1 + k.toNat := by rw [hform]; simp [le_length]; omega
    rw [hl] at cS
    have HX := hide hx1
    have HF := hide hform
    have HT := hide hfit
    have HL := hide hl
    clear hform hfit hx1 a hl
    rcases hk with ⟨rfl, rfl⟩ | ⟨rfl, rfl⟩ | ⟨rfl, rfl⟩
    all_goals
      go_enter Try.func45, Try.ntmps45
      go_wp2_with (first
        | (go_at_call 67; refine (unhide cS _).mono ?_; rintro e w' ⟨rfl, hw'⟩; have hw'' := hw'.symm; subst hw'')
        | (at_builtin; refine wpList_app rfl (.tmp 10) (.tmp 11) rfl w.heap.size _ _ _ _ rfl hm0 _ _ _ _ rfl hs0 (by omega) (by simp) ?_; intro ao1 c1 w1 hm1 hb1; rw [Nat.zero_add, List.nil_append] at hm1; have hz1 := hb1.size)
        | (at_builtin; refine wpList_app rfl (.tmp 26) (.tmp 28) rfl w.heap.size _ _ _ _ rfl (hm1.later (below_alloc w1 _)) _ _ _ _ rfl (Bs.one w1 _ (by omega) (by omega)) (by omega) (by simp at hz1; simp; omega) ?_; intro ao2 c2 w2 hm2 hb2; have hz2 := hb2.size))
      refine (appendFixed_ref ao2 (n + 1) c2 _ x _ _ hm2.bs hx0 (unhide HX) (by omega) (by omega) (by omega) (unhide HT)).mono ?_
      rintro e w3 ⟨ao3, c3, rfl, hm3, hb3⟩
      go_wp2
      go_ret
      simp at hz1 hz2
      rw [List.append_assoc, ← unhide HF, Nat.add_assoc, ← unhide HL] at hm3
      exact ⟨ao3, c3, by rw [unhide HL]; rfl, hm3.mono (by omega), (((hb0.trans hb1).trans ((below_alloc w1 _).mono (by omega))).trans hb2).trans (hb3.mono (by omega))⟩

set_option maxHeartbeats 400000 in
set_option maxRecDepth 100000 in
theorem appendText_ref (ao : Option Addr) (n c : Nat) (bs : List Int) (s : ByteArray) (w : World) (h : Bs w ao n c bs) (hbound : (n : Int) + (s.size : Int) + 10 ≤ 140737488355328) :
    Calls Try.prog 24 #[.slice ao n c, .string s] w fun e w' => ∃ ao' c', e = .returned (.slice ao' (n + (form s.size).length + s.size) c') ∧ Mine w.heap.size w' ao' (n + (form s.size).length + s.size) c' (bs ++ form s.size ++ nums s) ∧ Below w.heap.size w w' := by
  have hl := form_length_le (s.size : Int)
  go_enter Try.func24, Try.ntmps24
  go_wp2_with fail
  refine (appendInt_ref ao n c bs (s.size : Int) _ h (by omega) (by omega) (by omega)).mono ?_
  rintro e w1 ⟨ao1, c1, rfl, hm1, hb1⟩
  go_wp2_with (at_builtin; refine wpList_appStr rfl _ _ rfl w.heap.size _ _ _ _ rfl hm1 s rfl (by omega) hb1.size ?_; intro ao2 c2 w2 hm2 hb2)
  go_ret
  exact ⟨ao2, c2, rfl, hm2, hb1.trans hb2⟩

theorem nums_getD (s : ByteArray) (i : Nat) (h : i < s.size) : ((s[i].toNat : Int) == 0) = ((nums s).getD i 0 == 0) := by rw [nums_at s i h]



end Go.Proofs.Ytlicnhlgmnlaoaa
