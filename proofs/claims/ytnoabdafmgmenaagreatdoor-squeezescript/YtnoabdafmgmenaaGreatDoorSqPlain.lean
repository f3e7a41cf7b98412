/-
  What a squeezed reader makes of bytes: a function on its whole state (the number that it expects, what it holds, why it stopped); and that bytes that come in pieces are read as at once. No program and no memory is named here.
-/
import Derived.Test.YtnoabdafmgmenaaGreatDoorMPlain
import Derived.Test.YtnoabdafmgmenaaGreatDoorMZlb2
namespace Go.Proofs.YtnoabdafmgmenaaGreatDoor
open Go
set_option linter.unusedVariables false
set_option linter.unusedSimpArgs false

/-- A squeezed reader's state. -/
structure QS where
  nx : Int
  held : List Int
  why : Int
/-- The two lengths of a head that is whole. -/
def qN (h : List Int) : Nat := (val h 3).toNat
def qT (h : List Int) : Nat := (val (h.drop 4) 3).toNat
/-- Why a whole head may not come now. -/
def qE (M : Int) (s : QS) : Int := if M < val s.held 3 then 5 else if M < val (s.held.drop 4) 3 then 5 else if s.held.getD 3 0 ≠ s.nx then 6 else 0
/-- What the bytes of a frame tell. -/
def qF (b : List Int) (t : Nat) : List Int × Int :=
  if t = 0 then (b, 0) else if (unp 100000 b (t : Int)).2 = 8 then ([], 8) else if (unp 100000 b (t : Int)).2 ≠ 0 ∨ (unp 100000 b (t : Int)).1.length < t then ([], 5) else ((unp 100000 b (t : Int)).1, 0)
def qfr (h : List Int) : List Int × Int := qF ((h.drop 7).take (qN h)) (qT h)
/-- A frame was told. -/
def qnx (s : QS) : QS := { s with nx := (s.nx + 1) % 256, held := s.held.drop (7 + qN s.held) }
/-- It stops. -/
def qst (e : Int) (s : QS) : QS := { s with held := [], why := e }
/-- What is told, one frame behind the other; the error. -/
def ql (M : Int) : Nat → QS → List Int → QS × List Int × Int
  | 0, s, t => (s, t, 0)
  | f + 1, s, t =>
    if s.held.length < 7 then (s, t, 0)
    else if qE M s ≠ 0 then (qst (qE M s) s, t, qE M s)
    else if s.held.length < 7 + qN s.held then (s, t, 0)
    else if (qfr s.held).2 ≠ 0 then (qst (qfr s.held).2 s, t, (qfr s.held).2)
    else ql M f (qnx s) (t ++ (qfr s.held).1)
/-- What Feed does. -/
def qfeed (M : Int) (s : QS) (b : List Int) : QS × List Int × Int :=
  if s.why ≠ 0 then (s, [], 9) else ql M (s.held ++ b).length { s with held := s.held ++ b } []

section
variable {M : Int} {f : Nat} {s : QS} {t : List Int}
theorem ql_short (h : s.held.length < 7) : ql M f s t = (s, t, 0) := by
  cases f with
  | zero => rfl
  | succ f => simp only [ql]; rw [if_pos h]
theorem ql_err (hf : s.held.length ≤ f) (h : ¬ s.held.length < 7) (he : qE M s ≠ 0) : ql M f s t = (qst (qE M s) s, t, qE M s) := by
  cases f with
  | zero => omega
  | succ f => simp only [ql]; rw [if_neg h, if_pos he]
theorem ql_part (h : ¬ s.held.length < 7) (he : qE M s = 0) (hn : s.held.length < 7 + qN s.held) : ql M f s t = (s, t, 0) := by
  cases f with
  | zero => rfl
  | succ f => simp only [ql]; rw [if_neg h, if_neg (by simp [he]), if_pos hn]
theorem ql_bad (hf : s.held.length ≤ f) (h : ¬ s.held.length < 7) (he : qE M s = 0) (hn : ¬ s.held.length < 7 + qN s.held) (hb : (qfr s.held).2 ≠ 0) : ql M f s t = (qst (qfr s.held).2 s, t, (qfr s.held).2) := by
  cases f with
  | zero => omega
  | succ f => simp only [ql]; rw [if_neg h, if_neg (by simp [he]), if_neg hn, if_pos hb]
theorem ql_tell (hf : s.held.length ≤ f) (h : ¬ s.held.length < 7) (he : qE M s = 0) (hn : ¬ s.held.length < 7 + qN s.held) (hb : (qfr s.held).2 = 0) :
    ∃ f', (s.held.drop (7 + qN s.held)).length ≤ f' ∧ f = f' + 1 ∧ ql M f s t = ql M f' (qnx s) (t ++ (qfr s.held).1) := by
  cases f with
  | zero => omega
  | succ f => exact ⟨f, by rw [List.length_drop]; omega, rfl, by simp only [ql]; rw [if_neg h, if_neg (by simp [he]), if_neg hn, if_neg (by simp [hb])]⟩
end

theorem qE_ok {M : Int} {s : QS} (h : qE M s = 0) : val s.held 3 ≤ M ∧ val (s.held.drop 4) 3 ≤ M ∧ s.held.getD 3 0 = s.nx := by
  unfold qE at h
  split at h
  · cases h
  · split at h
    · cases h
    · split at h
      · cases h
      · rename_i a b c
        simp only [ne_eq, Decidable.not_not] at c
        exact ⟨by omega, by omega, c⟩
theorem qE_range (M : Int) (s : QS) : 0 ≤ qE M s ∧ qE M s ≤ 100 := by
  unfold qE
  split
  · omega
  · split
    · omega
    · split <;> omega
theorem qF_range (b : List Int) (t : Nat) : 0 ≤ (qF b t).2 ∧ (qF b t).2 ≤ 100 := by
  unfold qF
  split
  · simp
  · split
    · simp
    · split <;> simp
theorem qN_int {h : List Int} (hb : Byt h) : (qN h : Int) = val h 3 := by
  have := (val_bounds hb 3).1
  unfold qN
  omega
theorem qT_int {h : List Int} (hb : Byt h) : (qT h : Int) = val (h.drop 4) 3 := by
  have := (val_bounds (hb.drop 4) 3).1
  unfold qT
  omega
/-- Unpack tells no more than it may. -/
theorem unp_le (F : Nat) (hF : 1 ≤ F) (b : List Int) (m : Int) (m0 : 0 ≤ m) : ((unp F b m).1.length : Int) ≤ m := by
  unfold unp
  rw [if_neg (by omega)]
  split
  · simpa using m0
  · by_cases h : (infS F (b.drop 2) m).2.e = 0
    · have u := inf_up hF m0 h
      rw [infR_ok h]
      unfold unpE
      simp only
      split
      · simpa using m0
      · split
        · simpa using m0
        · exact u.2.2
    · rw [infR_no h]
      unfold unpE
      simp only
      rw [if_pos h]
      simpa using m0
theorem qF_len (b : List Int) (t : Nat) : (qF b t).1.length ≤ b.length + t := by
  have u := unp_le 100000 (by omega) b (t : Int) (by omega)
  unfold qF
  split
  · simp
  · split
    · simp
    · split
      · simp
      · simp only; omega

/-- What is held is a part of a frame. -/
def qP (M : Int) (s : QS) : Prop := s.held.length < 7 ∨ (qE M s = 0 ∧ s.held.length < 7 + qN s.held)
theorem qP.ql {M : Int} {s : QS} (h : qP M s) (f : Nat) (t : List Int) : ql M f s t = (s, t, 0) := by
  by_cases h7 : s.held.length < 7
  · exact ql_short h7
  · rcases h with h | ⟨h1, h2⟩
    · exact absurd h h7
    · exact ql_part h7 h1 h2
theorem qP.le {M : Int} {s : QS} (h : qP M s) (hb : Byt s.held) (m0 : 0 ≤ M) : (s.held.length : Int) ≤ M + 7 := by
  rcases h with h | ⟨h1, h2⟩
  · omega
  · have := (qE_ok h1).1
    have := qN_int hb
    omega

/-- More bytes behind: the head that is whole is the same. -/
theorem qhead_more (M : Int) (s : QS) (c : List Int) (h7 : ¬ s.held.length < 7) : qE M { s with held := s.held ++ c } = qE M s ∧ qN (s.held ++ c) = qN s.held ∧ qT (s.held ++ c) = qT s.held := by
  have e1 : val (s.held ++ c) 3 = val s.held 3 := val_append _ _ 3 (by omega)
  have e2 : (s.held ++ c).getD 3 0 = s.held.getD 3 0 := by simp [List.getElem?_append_left (show 3 < s.held.length by omega)]
  have e3 : val ((s.held ++ c).drop 4) 3 = val (s.held.drop 4) 3 := by
    rw [List.drop_append_of_le_length (by omega)]
    exact val_append _ _ 3 (by rw [List.length_drop]; omega)
  refine ⟨?_, ?_, ?_⟩
  · unfold qE; simp only [e1, e2, e3]
  · unfold qN; rw [e1]
  · unfold qT; rw [e3]
theorem qfr_more (h c : List Int) (h7 : ¬ h.length < 7) (hn : ¬ h.length < 7 + qN h) : qfr (h ++ c) = qfr h := by
  have hm := qhead_more 0 ⟨0, h, 0⟩ c h7
  unfold qfr
  simp only at hm
  rw [hm.2.1, hm.2.2, List.drop_append_of_le_length (by omega), List.take_append_of_le_length (by rw [List.length_drop]; omega)]
theorem qnx_more (s : QS) (c : List Int) (h7 : ¬ s.held.length < 7) (hn : ¬ s.held.length < 7 + qN s.held) : qnx { s with held := s.held ++ c } = { qnx s with held := (qnx s).held ++ c } := by
  have hm := (qhead_more 0 s c h7).2.1
  simp only [qnx]
  rw [hm, List.drop_append_of_le_length (by omega)]

theorem ql_fuel (M : Int) : ∀ (f f' : Nat) (s : QS) (t : List Int), s.held.length ≤ f → s.held.length ≤ f' → ql M f s t = ql M f' s t
  | 0, f', s, t, h, _ => by rw [ql_short (f := f') (by omega)]; rfl
  | f + 1, f', s, t, h, h' => by
    by_cases h7 : s.held.length < 7
    · rw [ql_short h7, ql_short h7]
    by_cases he : qE M s = 0
    · by_cases hn : s.held.length < 7 + qN s.held
      · rw [ql_part h7 he hn, ql_part h7 he hn]
      · by_cases hb : (qfr s.held).2 = 0
        · obtain ⟨g, hg, e, h1⟩ := ql_tell (t := t) h h7 he hn hb
          obtain ⟨g', hg', e', h2⟩ := ql_tell (t := t) h' h7 he hn hb
          have : g = f := by omega
          subst this
          rw [h1, h2]
          exact ql_fuel M g g' _ _ hg hg'
        · rw [ql_bad h h7 he hn hb, ql_bad h' h7 he hn hb]
    · rw [ql_err h h7 he, ql_err h' h7 he]
theorem ql_acc (M : Int) : ∀ (f : Nat) (s : QS) (t u : List Int), ql M f s (t ++ u) = ((ql M f s u).1, t ++ (ql M f s u).2.1, (ql M f s u).2.2)
  | 0, s, t, u => rfl
  | f + 1, s, t, u => by
    simp only [ql]
    by_cases h7 : s.held.length < 7
    · simp only [if_pos h7]
    simp only [if_neg h7]
    by_cases he : qE M s ≠ 0
    · simp only [if_pos he]
    simp only [if_neg he]
    by_cases hn : s.held.length < 7 + qN s.held
    · simp only [if_pos hn]
    simp only [if_neg hn]
    by_cases hb : (qfr s.held).2 ≠ 0
    · simp only [if_pos hb]
    · simp only [if_neg hb]
      rw [List.append_assoc]
      exact ql_acc M f _ _ _
/-- Bytes in two pieces are read as at once; an error in the first piece is the error. -/
theorem ql_more (M : Int) (c : List Int) : ∀ (f : Nat) (s : QS) (t : List Int), s.held.length ≤ f → ∀ f1, (s.held ++ c).length ≤ f1 →
    ((ql M f s t).2.2 ≠ 0 → (ql M f1 { s with held := s.held ++ c } t).2.2 ≠ 0) ∧
    ((ql M f s t).2.2 = 0 → ∀ f2, ((ql M f s t).1.held ++ c).length ≤ f2 → ql M f1 { s with held := s.held ++ c } t = ql M f2 { (ql M f s t).1 with held := (ql M f s t).1.held ++ c } (ql M f s t).2.1)
  | 0, s, t, h, f1, h1 => ⟨fun q => absurd rfl q, fun _ f2 h2 => ql_fuel M f1 f2 _ _ h1 h2⟩
  | f + 1, s, t, h, f1, h1 => by
    by_cases h7 : s.held.length < 7
    · rw [ql_short h7]
      exact ⟨fun q => absurd rfl q, fun _ f2 h2 => ql_fuel M f1 f2 _ _ h1 h2⟩
    have hm := qhead_more M s c h7
    have hl7 : ¬ ({ s with held := s.held ++ c } : QS).held.length < 7 := by simp only [List.length_append]; omega
    by_cases he : qE M s = 0
    · by_cases hn : s.held.length < 7 + qN s.held
      · rw [ql_part h7 he hn]
        exact ⟨fun q => absurd rfl q, fun _ f2 h2 => ql_fuel M f1 f2 _ _ h1 h2⟩
      · have hn2 : ¬ ({ s with held := s.held ++ c } : QS).held.length < 7 + qN ({ s with held := s.held ++ c } : QS).held := by simp only; rw [hm.2.1, List.length_append]; omega
        have hfm := qfr_more s.held c h7 hn
        have hxm := qnx_more s c h7 hn
        by_cases hb : (qfr s.held).2 = 0
        · obtain ⟨g, hg, e, q1⟩ := ql_tell (t := t) h h7 he hn hb
          obtain ⟨g1, hg1, e1, q2⟩ := ql_tell (t := t) h1 hl7 (hm.1.trans he) hn2 (by simp only; rw [hfm]; exact hb)
          have : g = f := by omega
          subst this
          rw [q1, q2, hxm]
          simp only [hfm]
          refine ql_more M c g (qnx s) _ hg g1 ?_
          simp only at hg1
          rw [hm.2.1] at hg1
          simp only [qnx, List.length_append, List.length_drop] at hg1 ⊢
          omega
        · rw [ql_bad h h7 he hn hb]
          refine ⟨fun _ => ?_, fun q => absurd q hb⟩
          rw [ql_bad h1 hl7 (hm.1.trans he) hn2 (by simp only; rw [hfm]; exact hb)]
          simp only [hfm]
          exact hb
    · rw [ql_err h h7 he]
      refine ⟨fun _ => ?_, fun q => absurd q he⟩
      rw [ql_err h1 hl7 (by rw [hm.1]; exact he), hm.1]
      exact he
/-- What is held behind it is a part of a frame; nothing, where it stopped. -/
theorem ql_P (M : Int) : ∀ (f : Nat) (s : QS) (t : List Int), s.held.length ≤ f → ((ql M f s t).2.2 = 0 → qP M (ql M f s t).1 ∧ (ql M f s t).1.why = s.why) ∧ ((ql M f s t).2.2 ≠ 0 → (ql M f s t).1.held = [] ∧ (ql M f s t).1.why = (ql M f s t).2.2)
  | 0, s, t, h => ⟨fun _ => ⟨.inl (by simp only [ql]; omega), rfl⟩, fun q => absurd rfl q⟩
  | f + 1, s, t, h => by
    by_cases h7 : s.held.length < 7
    · rw [ql_short h7]
      exact ⟨fun _ => ⟨.inl h7, rfl⟩, fun q => absurd rfl q⟩
    by_cases he : qE M s = 0
    · by_cases hn : s.held.length < 7 + qN s.held
      · rw [ql_part h7 he hn]
        exact ⟨fun _ => ⟨.inr ⟨he, hn⟩, rfl⟩, fun q => absurd rfl q⟩
      · by_cases hb : (qfr s.held).2 = 0
        · obtain ⟨g, hg, e, q1⟩ := ql_tell (t := t) h h7 he hn hb
          have : g = f := by omega
          subst this
          rw [q1]
          exact ql_P M g (qnx s) _ hg
        · rw [ql_bad h h7 he hn hb]
          exact ⟨fun q => absurd q hb, fun _ => ⟨rfl, rfl⟩⟩
    · rw [ql_err h h7 he]
      exact ⟨fun q => absurd q he, fun _ => ⟨rfl, rfl⟩⟩
end Go.Proofs.YtnoabdafmgmenaaGreatDoor
