/-
  'append' to a slice of ints of the call's own: which block has changed. Conditions: lengths below a bound that is far above every length the statements allow.
-/
import Derived.Test.YtoblnmbbdhagbaaIMem
import Derived.Test.YtoblnmbbdhagbaaChg
import Derived.Test.YtoblnmbbdhagbaaPktMem
namespace Go.Proofs.Ytoblnmbbdhagbaa
open Go.RowKit
set_option linter.unusedVariables false
set_option linter.unusedSimpArgs false

theorem IMine.keepB {B : Nat} {w w' : World} {ao : Option Addr} {n c : Nat} {xs : List Int} (h : IMine B w ao n c xs) (hk : ∀ k, Proofs.Ytoblnmbbdhagbaa.ob ao k → w'.heap[k]? = w.heap[k]?) : IMine B w' ao n c xs := by
  refine ⟨h.len, ⟨h.own.1, ?_⟩, h.fit⟩
  rcases h.own.2 with hv | ⟨g, cap, cur, hv, hg, hh, r⟩
  · exact .inl hv
  · simp only [Value.slice.injEq] at hv
    obtain ⟨rfl, _, rfl⟩ := hv
    exact .inr ⟨g, _, cur, rfl, hg, by rw [hk g ⟨_, rfl, rfl⟩]; exact hh, r⟩
theorem IMine.fs {B : Nat} {S S' : Nat → Prop} {w w' : World} {ao : Option Addr} {n c : Nat} {xs : List Int} (h : IMine B w ao n c xs) (f : Fs S w S' w') (hd : ∀ k, Proofs.Ytoblnmbbdhagbaa.ob ao k → ¬ S k) : IMine B w' ao n c xs :=
  h.keepB fun k hk => f.block k (h.ob hk).2 (hd k hk)
/-- 'append(out, x)', out of the call's own. -/
theorem wpList_iappS {ops : Array Oper} {rest : List Oper} {o : Oper} {a : Act} {w : World} {Q : Exit → Act → World → Prop} (hgd : o.guard = none) (s x : Operand)
    (ho : o.op = .call { callee := .builtin .append, args := #[s, x], argTypes := #[56, 56] })
    (B : Nat) (ao : Option Addr) (n c : Nat) (bs : List Int) (hs : a.eval s = .slice ao n c) (hm : IMine B w ao n c bs)
    (ad : Addr) (c' : Nat) (v : Int) (hx : a.eval x = .slice (some ad) 1 c') (hb : Is w (some ad) 1 c' [v]) (hbound : n ≤ 1000000000) (hB : B ≤ w.heap.size)
    (h : ∀ ao1 c1 w1, IMine B w1 ao1 (n + 1) c1 (bs ++ [v]) → Fs (ob ao) w (ob ao1) w1 → wpList Try.prog ops Q rest (a.put o.dst (.slice ao1 (n + 1) c1)) w1) :
    wpList Try.prog ops Q (o :: rest) a w := by
  obtain ⟨i0, hi, hz0, hz1, hz2⟩ := info_parts Try.infoInt
  have hlen := hm.len
  refine wpList_append_own_at w hgd s x 56 ho B 3 i0 (.int .i64 0) 1 8 Try.underlying56 hi hz0 hz1 hz2 rfl (by decide) _ _ _ hs hm.own ad 1 c' ([v].map (Value.int .i64)) hx rfl hb.news (ints_oneCell _ _) (by unfold maxLen; omega) (by omega) hB ?_
  intro v' w' hown hgrow _ hsrc
  rw [← List.map_append] at hown
  have hex : ∃ ao1 c1, v' = .slice ao1 (n + 1) c1 := by
    rcases hown.2 with ⟨hv, h0⟩ | ⟨g, cap, cur, hv, _⟩
    · omega
    · exact ⟨_, _, hv⟩
  obtain ⟨ao1, c1, hv⟩ := hex
  subst hv
  exact h ao1 c1 w' ⟨by simp [hlen], hown, hm.fit.app hb.fit⟩ ⟨hgrow.os, hgrow.tape, hgrow.output, hgrow.size, fun k hk hn => grown_at hgrow hk hn, kapp_src hsrc⟩

end Go.Proofs.Ytoblnmbbdhagbaa
