/-
  A reader that is fed the chunks of whole frames: what a chunk more tells. Conditions: payloads of at most 300 bytes, frames of at most 300.
-/
import Derived.Test.YtoblnmbbdhagbaaPktChunkP
import Derived.Test.YtoblnmbbdhagbaaLawPktHolds
namespace Go.Proofs.Ytoblnmbbdhagbaa
open Go.RowKit
set_option linter.unusedVariables false
set_option linter.unusedSimpArgs false

/-- Behind the first a bytes of the frames of xs. -/
def Cst (w3 ws : World) (g m : Nat) (xs : List (List Int)) (a : Nat) : Prop := ∃ bo bc ho hc, Rd ws g (m : Int) 300 bo bc ho hc (sat m 300 xs a) ∧ hln (sat m 300 xs a) ≤ 304 ∧ (∀ k, ft g bo ho k → k = g ∨ w3.heap.size ≤ k) ∧ Gb g w3 ws
theorem Cst.gb {w3 ws : World} {g m : Nat} {xs : List (List Int)} {a : Nat} (h : Cst w3 ws g m xs a) : Gb g w3 ws := by
  obtain ⟨_, _, _, _, _, _, _, q⟩ := h
  exact q
theorem Cst.drewN {w3 ws : World} {g m : Nat} {xs : List (List Int)} {a : Nat} (h : Cst w3 ws g m xs a) (n : Nat) : Cst w3 (ws.drewN n) g m xs a := by
  obtain ⟨bo, bc, ho, hc, h1, h2, h3, h4⟩ := h
  exact ⟨bo, bc, ho, hc, h1.later (below_drewN ws n), h2, h3, h4.drewN n⟩
theorem chunk_fed {w3 ws : World} {g m : Nat} {xs : List (List Int)} {a k : Nat} (h : Cst w3 ws g m xs a) (m1 : 1 ≤ m) (m2 : m ≤ 300) (hx : ∀ b ∈ xs, b.length ≤ 300) (hk : a + k ≤ (frs m xs 0).1.length) (hkb : k ≤ 900000000)
    (ci : Option Addr) (cc : Nat) (hb : Bs ws ci k cc (((frs m xs 0).1.drop a).take k)) :
    Calls Try.prog 12 #[.pointer (some ⟨g, 0, none⟩), .slice ci k cc] ws fun e w4 =>
      ∃ to tn tc l, e = .returned (.tuple #[.slice to tn tc, .int .i64 0]) ∧ Pks w4 to tn tc l ∧ tn = cnt m xs 0 (a + k) - cnt m xs 0 a ∧ (∀ j, j < tn → ∃ p, l[j]? = some p ∧ xs[cnt m xs 0 a + j]? = some p.bs) ∧ Cst w3 w4 g m xs (a + k) := by
  obtain ⟨bo, bc, ho, hc, hr, hh, hlow, hg⟩ := h
  obtain ⟨t', e1, e2, e3, e4⟩ := feed_chunk m 300 m1 (by omega) xs a k (fun b hb => by have := hx b hb; omega) hk
  have hhl : (sat m 300 xs a).held.length ≤ 304 := by unfold hln at hh; omega
  refine (feed_any ws hr ci k cc _ hb hkb (by omega)).mono ?_
  rintro e w4 ⟨to, tn, tc, l, bo', bc', ho', hc', rfl, hp, hpl, hr4, hf⟩
  have hfh := (feed_holds m 300 (sat m 300 xs a) _ hr.rl.ok hr.own.byt hb.byt (by omega) (by rw [hb.len]; omega)).1
  rw [e1] at hpl hr4 hfh ⊢
  dsimp only at hpl hr4 hfh
  refine ⟨to, tn, tc, l, rfl, hp, ?_, ?_, bo', bc', ho', hc', hr4, by omega, ?_, ?_⟩
  · rw [← hp.len, ← e3, ← hpl, List.length_map]
  · intro j hj
    have hjl : j < l.length := by rw [hp.len]; exact hj
    refine ⟨l[j], List.getElem?_eq_getElem hjl, ?_⟩
    have h1 : (t'.map (·.2.2))[j]? = some l[j].bs := by rw [← hpl]; simp [pl, hjl]
    rw [e2, List.getElem?_drop, List.getElem?_take] at h1
    split at h1
    · exact h1
    · cases h1
  · intro k q
    rcases hf.src k (.inl q) with q | q
    · exact hlow k q
    · exact .inr (Nat.le_trans hg.size q)
  · refine ⟨hf.os.trans hg.os, hf.tape.trans hg.tape, hf.output.trans hg.output, Nat.le_trans hg.size hf.size, fun k hk hn => ?_⟩
    rw [hf.block k (Nat.lt_of_lt_of_le hk hg.size) (fun q => by
      rcases hlow k q with q | q
      · exact hn q
      · omega), hg.block k hk hn]
theorem sum_step {ks : List Nat} {j k : Nat} (h : ks[j]? = some k) : (ks.take (j + 1)).sum = (ks.take j).sum + k ∧ (ks.take j).sum + k ≤ ks.sum := by
  have e1 : (ks.take (j + 1)).sum = (ks.take j).sum + k := by
    rw [List.take_add_one, h, List.sum_append]
    simp
  refine ⟨e1, ?_⟩
  have e2 : ks.sum = (ks.take (j + 1)).sum + (ks.drop (j + 1)).sum := by rw [← List.sum_append, List.take_append_drop]
  omega

end Go.Proofs.Ytoblnmbbdhagbaa
