/-
  A squeezed reader takes bytes step by step, up to the head's end or the frame's: that tells what all bytes at once tell. No program and no memory is named here.
-/
import Derived.Test.YtnoabdafmgmenaaGreatDoorSqPlain
namespace Go.Proofs.YtnoabdafmgmenaaGreatDoor
open Go
set_option linter.unusedVariables false
set_option linter.unusedSimpArgs false

/-- How many bytes are missing. -/
def qM (s : QS) : Nat := if s.held.length < 7 then 7 - s.held.length else 7 + qN s.held - s.held.length
/-- What is told by bytes that are no more than are missing; the error. -/
def qstep (M : Int) (s : QS) (c : List Int) : QS × List Int × Int :=
  if (s.held ++ c).length < 7 then ({ s with held := s.held ++ c }, [], 0)
  else if s.held.length < 7 ∧ qE M { s with held := s.held ++ c } ≠ 0 then ({ s with held := s.held ++ c }, [], qE M { s with held := s.held ++ c })
  else if (s.held ++ c).length < 7 + qN (s.held ++ c) then ({ s with held := s.held ++ c }, [], 0)
  else if (qfr (s.held ++ c)).2 ≠ 0 then ({ s with held := s.held ++ c }, [], (qfr (s.held ++ c)).2)
  else ({ s with nx := (s.nx + 1) % 256, held := [] }, (qfr (s.held ++ c)).1, 0)

/-- What holds of the bytes that are held behind a step. -/
theorem step_head {M : Int} {s : QS} {c : List Int} (hP : qP M s) (h1 : c.length ≤ qM s) (h7 : ¬ (s.held ++ c).length < 7) : (¬ s.held.length < 7 → qE M { s with held := s.held ++ c } = 0) ∧ (s.held ++ c).length ≤ 7 + qN (s.held ++ c) := by
  by_cases hh : s.held.length < 7
  · unfold qM at h1
    rw [if_pos hh] at h1
    refine ⟨fun q => absurd hh q, ?_⟩
    rw [List.length_append]
    omega
  · have hm := qhead_more M s c hh
    rcases hP with q | ⟨q1, q2⟩
    · exact absurd q hh
    · unfold qM at h1
      rw [if_neg hh] at h1
      refine ⟨fun _ => hm.1.trans q1, ?_⟩
      rw [hm.2.1, List.length_append]
      omega
theorem qstep_ql (M : Int) (s : QS) (b t : List Int) (f n : Nat) (hP : qP M s) (hn1 : 1 ≤ n) (hnb : n ≤ b.length) (hnm : n ≤ qM s) (hmx : n = b.length ∨ n = qM s) (hf : (s.held ++ b).length ≤ f) :
    ((qstep M s (b.take n)).2.2 ≠ 0 → ql M f { s with held := s.held ++ b } t = (qst (qstep M s (b.take n)).2.2 s, t, (qstep M s (b.take n)).2.2)) ∧
    ((qstep M s (b.take n)).2.2 = 0 → qP M (qstep M s (b.take n)).1 ∧ (qstep M s (b.take n)).1.why = s.why ∧
      ∃ f', ((qstep M s (b.take n)).1.held ++ b.drop n).length ≤ f' ∧ ql M f { s with held := s.held ++ b } t = ql M f' { (qstep M s (b.take n)).1 with held := (qstep M s (b.take n)).1.held ++ b.drop n } (t ++ (qstep M s (b.take n)).2.1)) := by
  have hcl : (b.take n).length = n := by simp; omega
  have hsp : s.held ++ b = (s.held ++ b.take n) ++ b.drop n := by rw [List.append_assoc, List.take_append_drop]
  have hh := step_head (c := b.take n) hP (by omega)
  rw [hsp] at hf ⊢
  by_cases h7 : (s.held ++ b.take n).length < 7
  · have hR : qstep M s (b.take n) = ({ s with held := s.held ++ b.take n }, [], 0) := by unfold qstep; rw [if_pos h7]
    rw [hR]
    refine ⟨fun q => absurd rfl q, fun _ => ⟨.inl h7, rfl, f, hf, ?_⟩⟩
    rw [List.append_nil]
  obtain ⟨ho, hle⟩ := hh h7
  have hl7 : ¬ ({ s with held := (s.held ++ b.take n) ++ b.drop n } : QS).held.length < 7 := by simp only [List.length_append] at h7 ⊢; omega
  have hm := qhead_more M { s with held := s.held ++ b.take n } (b.drop n) h7
  simp only at hm
  by_cases he : qE M { s with held := s.held ++ b.take n } = 0
  · have hnot : ¬ (s.held.length < 7 ∧ qE M { s with held := s.held ++ b.take n } ≠ 0) := fun q => q.2 he
    by_cases hn : (s.held ++ b.take n).length < 7 + qN (s.held ++ b.take n)
    · have hR : qstep M s (b.take n) = ({ s with held := s.held ++ b.take n }, [], 0) := by unfold qstep; rw [if_neg h7, if_neg hnot, if_pos hn]
      rw [hR]
      refine ⟨fun q => absurd rfl q, fun _ => ⟨.inr ⟨he, hn⟩, rfl, f, hf, ?_⟩⟩
      rw [List.append_nil]
    · have hfm := qfr_more (s.held ++ b.take n) (b.drop n) h7 hn
      have hn2 : ¬ ({ s with held := (s.held ++ b.take n) ++ b.drop n } : QS).held.length < 7 + qN ({ s with held := (s.held ++ b.take n) ++ b.drop n } : QS).held := by simp only; rw [hm.2.1, List.length_append]; omega
      by_cases hb : (qfr (s.held ++ b.take n)).2 = 0
      · have hR : qstep M s (b.take n) = ({ s with nx := (s.nx + 1) % 256, held := [] }, (qfr (s.held ++ b.take n)).1, 0) := by unfold qstep; rw [if_neg h7, if_neg hnot, if_neg hn, if_neg (by simpa using hb)]
        rw [hR]
        refine ⟨fun q => absurd rfl q, fun _ => ⟨.inl (by simp), rfl, ?_⟩⟩
        obtain ⟨f', hf', _, e⟩ := ql_tell (M := M) (t := t) hf hl7 (hm.1.trans he) hn2 (by simp only; rw [hfm]; exact hb)
        have hd : ((s.held ++ b.take n) ++ b.drop n).drop (7 + qN (s.held ++ b.take n)) = b.drop n := by
          rw [List.drop_append, List.drop_eq_nil_of_le (by omega), show 7 + qN (s.held ++ b.take n) - (s.held ++ b.take n).length = 0 by omega, List.drop_zero, List.nil_append]
        refine ⟨f', ?_, ?_⟩
        · simp only at hf'
          rw [hm.2.1, hd] at hf'
          simpa using hf'
        · rw [e]
          simp only [qnx, hfm, hm.2.1, hd, List.nil_append]
      · have hR : qstep M s (b.take n) = ({ s with held := s.held ++ b.take n }, [], (qfr (s.held ++ b.take n)).2) := by unfold qstep; rw [if_neg h7, if_neg hnot, if_neg hn, if_pos hb]
        rw [hR]
        refine ⟨fun _ => ?_, fun q => absurd q hb⟩
        rw [ql_bad hf hl7 (hm.1.trans he) hn2 (by simp only; rw [hfm]; exact hb)]
        simp only [hfm]
        rfl
  · have hlt : s.held.length < 7 := by
      by_cases q : s.held.length < 7
      · exact q
      · exact absurd (ho q) he
    have hR : qstep M s (b.take n) = ({ s with held := s.held ++ b.take n }, [], qE M { s with held := s.held ++ b.take n }) := by unfold qstep; rw [if_neg h7, if_pos ⟨hlt, he⟩]
    rw [hR]
    refine ⟨fun _ => ?_, fun q => absurd q he⟩
    rw [ql_err hf hl7 (by rw [hm.1]; exact he), hm.1]
    rfl

/-- What a state keeps to. -/
structure Qok (M : Int) (s : QS) : Prop where
  m0 : 1 ≤ M
  m1 : M ≤ 1000
  n0 : 0 ≤ s.nx
  n1 : s.nx ≤ 255
  hl : s.held.length ≤ 1007
  w0 : 0 ≤ s.why
  w1 : s.why ≤ 100
theorem Qok.stop {M : Int} {s : QS} (h : Qok M s) {e : Int} (h0 : 0 ≤ e) (h1 : e ≤ 100) : Qok M (qst e s) := ⟨h.m0, h.m1, h.n0, h.n1, by simp [qst], h0, h1⟩
theorem Qok.num {M : Int} {s : QS} (h : Qok M s) {q : Int} (h0 : 0 ≤ q) (h1 : q ≤ 255) : Qok M { s with nx := q } := ⟨h.m0, h.m1, h0, h1, h.hl, h.w0, h.w1⟩
theorem Qok.hold {M : Int} {s : QS} (h : Qok M s) {l : List Int} (hl : l.length ≤ 1007) : Qok M { s with held := l } := ⟨h.m0, h.m1, h.n0, h.n1, hl, h.w0, h.w1⟩
theorem qN_le {M : Int} {s : QS} (hb : Byt s.held) (he : qE M s = 0) : (qN s.held : Int) ≤ M ∧ (qT s.held : Int) ≤ M := by
  have h1 := qE_ok he
  have h2 := qN_int hb
  have h3 := qT_int hb
  omega
theorem step_len {M : Int} {s : QS} {c : List Int} (hP : qP M s) (hk : Qok M s) (hb : Byt s.held) (h1 : c.length ≤ qM s) : (s.held ++ c).length ≤ 1007 := by
  by_cases h7 : s.held.length < 7
  · unfold qM at h1
    rw [if_pos h7] at h1
    rw [List.length_append]
    omega
  · rcases hP with q | ⟨q1, q2⟩
    · exact absurd q h7
    · have := qN_le hb q1
      have := hk.m1
      unfold qM at h1
      rw [if_neg h7] at h1
      rw [List.length_append]
      omega
theorem qM_pos {M : Int} {s : QS} (hP : qP M s) : 1 ≤ qM s := by
  unfold qM
  split
  · omega
  · rename_i h
    rcases hP with q | ⟨_, q⟩
    · exact absurd q h
    · omega
end Go.Proofs.YtnoabdafmgmenaaGreatDoor
