/-
  The document's reader and the program's say the same: where they hold the same they tell the same of whatever comes, and hold the same behind it. No program and no memory is named here.
-/
import Derived.Test.YtoblnmbbdhagbaaRefFeed
namespace Go.Proofs.Ytoblnmbbdhagbaa
open Go
set_option linter.unusedVariables false
set_option linter.unusedSimpArgs false

/-- The two hold the same: within a payload the frames so far were of most bytes each, and the first one's number is that many ahead. -/
structure Sim (M : Int) (r : RS) : Prop where
  sq : 0 ≤ r.sq ∧ r.sq ≤ 255
  wi : r.why = 0 → r.wi = decide (r.body ≠ [])
  fr : r.why = 0 → ∃ k : Nat, (r.body.length : Int) = k * M ∧ (r.wi = true → r.fi = (r.sq - k) % 256)
theorem sim0 (M : Int) : Sim M rs0 := ⟨by simp [rs0], fun _ => rfl, fun _ => ⟨0, by simp [rs0], fun h => by simp [rs0] at h⟩⟩
theorem Sim.fed {M : Int} {r : RS} (h : Sim M r) (ys : List Int) : Sim M { r with ys := ys } := ⟨h.sq, h.wi, h.fr⟩

theorem frm_of (k n M : Int) (h0 : 0 ≤ n) (h1 : n < M) (hM : 1 ≤ M) : frm (k * M + n) M = k + 1 := by
  unfold frm
  rw [Int.add_comm (k * M) n, Int.add_mul_ediv_right _ _ (by omega), Int.ediv_eq_zero_of_lt h0 h1]
  omega

theorem rlp_sim (M L : Int) (hM : 1 ≤ M) : ∀ (f : Nat) (r : RS) (t : List Pk), Sim M r → r.why = 0 → Byt r.ys →
    ((ofR (rlp M L f r t).1, (rlp M L f r t).2) : PS × List Pk × Int) = lp M L f (ofR r) t ∧ Sim M (rlp M L f r t).1
  | 0, r, t, hs, _, _ => ⟨rfl, hs⟩
  | f + 1, r, t, hs, hw, hb => by
    simp only [rlp, lp]
    have e1 : (ofR r).held = r.ys := rfl
    rw [e1]
    by_cases h4 : r.ys.length < 4
    · simp only [if_pos h4]; exact ⟨trivial, hs⟩
    simp only [if_neg h4]
    by_cases he : hdE M L (ofR r) = 0
    · have he' : ¬ hdE M L (ofR r) ≠ 0 := by simpa using he
      simp only [if_neg he']
      by_cases hn : r.ys.length < 4 + hdN (ofR r)
      · simp only [if_pos hn]; exact ⟨trivial, hs⟩
      simp only [if_neg hn]
      have hk := hdE_ok he
      have hN := hdN_int (s := ofR r) hb
      obtain ⟨k, hkl, hkf⟩ := hs.fr hw
      have hwi := hs.wi hw
      have hofr : ofR (rtk M (hdN (ofR r)) r) = tkF (hdN (ofR r)) (ofR r) := rfl
      have hbl : ((rtk M (hdN (ofR r)) r).body.length : Int) = k * M + hdN (ofR r) := by
        simp only [rtk, List.length_append, List.length_take, List.length_drop]
        omega
      have hfi : (rtk M (hdN (ofR r)) r).fi = (r.sq - k) % 256 := by
        simp only [rtk]
        split
        · rename_i q; exact hkf q
        · rename_i q
          have hb0 : r.body = [] := by
            rw [hwi] at q
            simpa using q
          have : k = 0 := by
            rw [hb0] at hkl
            simp only [List.length_nil] at hkl
            rcases Nat.eq_zero_or_pos k with h | h
            · exact h
            · have : (1 : Int) * 1 ≤ (k : Int) * M := Int.mul_le_mul (by omega) hM (by omega) (by omega)
              omega
          subst this
          have := hs.sq
          omega
      by_cases hm : (hdN (ofR r) : Int) = M
      · simp only [if_pos hm, if_neg (show ¬ (hdN (ofR r) : Int) < M by omega)]
        rw [← hofr]
        refine rlp_sim M L hM f _ t ⟨by simp only [rtk]; omega, fun _ => ?_, fun _ => ⟨k + 1, ?_, fun _ => ?_⟩⟩ hw (hb.drop _)
        · simp only [rtk, hm, decide_true]
          symm
          rw [decide_eq_true_eq]
          intro hq
          have : (rtk M (hdN (ofR r)) r).body = [] := hq
          rw [this] at hbl
          simp only [List.length_nil] at hbl
          have : (0 : Int) ≤ (k : Int) * M := Int.mul_nonneg (by omega) (by omega)
          omega
        · rw [hbl, hm, Int.natCast_add, Int.add_mul]; omega
        · rw [hfi]
          simp only [rtk]
          omega
      · have hlt : (hdN (ofR r) : Int) < M := by
          have := hk.1
          rw [← hN] at this
          omega
        simp only [if_neg hm, if_pos hlt]
        rw [← hofr]
        have hP : tkP M (ofR (rtk M (hdN (ofR r)) r)) = ((rtk M (hdN (ofR r)) r).fi, (rtk M (hdN (ofR r)) r).sq, (rtk M (hdN (ofR r)) r).body) := by
          unfold tkP
          rw [show (ofR (rtk M (hdN (ofR r)) r)).body = (rtk M (hdN (ofR r)) r).body from rfl, hbl, frm_of _ _ _ (by omega) hlt hM, hfi]
          simp only [ofR, rtk]
          congr 1
          omega
        rw [hP]
        refine rlp_sim M L hM f { rtk M (hdN (ofR r)) r with body := [] } _ ⟨by simp only [rtk]; omega, fun _ => ?_, fun _ => ⟨0, by simp, fun q => ?_⟩⟩ hw (hb.drop _)
        · simp only [rtk]
          rw [show decide ((hdN (ofR r) : Int) = M) = false by simpa using hm]
          simp
        · simp only [rtk] at q
          simp [hm] at q
    · simp only [if_pos (show hdE M L (ofR r) ≠ 0 from he)]
      exact ⟨rfl, ⟨hs.sq, fun h => absurd h he, fun h => absurd h he⟩⟩

theorem rfeed_sim (M L : Int) (hM : 1 ≤ M) (r : RS) (b : List Int) (hs : Sim M r) (hy : Byt r.ys) (hb : Byt b) :
    ((ofR (rfeed M L r b).1, (rfeed M L r b).2) : PS × List Pk × Int) = feed M L (ofR r) b ∧ Sim M (rfeed M L r b).1 := by
  unfold rfeed feed
  by_cases hw : r.why = 0
  · rw [if_neg (by simp [hw]), if_neg (by simp [ofR, hw])]
    exact rlp_sim M L hM _ { r with ys := r.ys ++ b } [] (hs.fed _) hw (hy.app hb)
  · rw [if_pos hw, if_pos (show (ofR r).why ≠ 0 from hw)]
    exact ⟨rfl, hs⟩

/-- Expect says the same. -/
theorem xxE_sim (M : Int) (r : RS) (hs : Sim M r) : xxE r = exE (ofR r) := by
  unfold xxE exE
  by_cases hw : r.why = 0
  · rw [if_neg (show ¬ r.why ≠ 0 by simpa using hw), if_neg (show ¬ (ofR r).why ≠ 0 from fun q => q hw)]
    have hwi := hs.wi hw
    have key : (0 < r.ys.length ∨ r.wi = true) ↔ 0 < hln (ofR r) := by
      unfold hln
      simp only [ofR]
      rw [hwi]
      constructor
      · rintro (h | h)
        · omega
        · have : r.body ≠ [] := by simpa using h
          have := List.length_pos_iff.2 this
          omega
      · intro h
        by_cases hy : 0 < r.ys.length
        · exact .inl hy
        · right
          have : 0 < r.body.length := by omega
          have := List.length_pos_iff.1 this
          simpa using this
    by_cases hq : 0 < hln (ofR r)
    · rw [if_pos (key.2 hq), if_pos hq]
    · rw [if_neg (fun h => hq (key.1 h)), if_neg hq]
  · rw [if_pos hw, if_pos (show (ofR r).why ≠ 0 from hw)]
theorem xxS_sim (M : Int) (r : RS) (q : Int) (hs : Sim M r) (q0 : 0 ≤ q) (q1 : q ≤ 255) : ofR (xxS r q) = exS (ofR r) q ∧ Sim M (xxS r q) := by
  have he := xxE_sim M r hs
  unfold xxS exS
  by_cases h0 : xxE r = 0
  · rw [if_pos h0, if_pos (by rw [← he]; exact h0)]
    refine ⟨rfl, ⟨⟨q0, q1⟩, hs.wi, fun hw => ?_⟩⟩
    obtain ⟨k, hk, hf⟩ := hs.fr hw
    refine ⟨k, hk, fun hq => ?_⟩
    exfalso
    unfold xxE at h0
    rw [if_neg (show ¬ r.why ≠ 0 by simpa using hw), if_pos (.inr hq)] at h0
    cases h0
  · rw [if_neg h0, if_neg (by rw [← he]; exact h0)]
    exact ⟨rfl, hs⟩

end Go.Proofs.Ytoblnmbbdhagbaa
