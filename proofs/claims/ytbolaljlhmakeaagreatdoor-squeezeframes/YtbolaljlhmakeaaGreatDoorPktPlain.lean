/-
  What a reader of frames makes of bytes: a function on its whole state (the number that it expects, the bytes of a payload's whole frames, what came behind them, why it stopped). No program and no memory is named here.
-/
import Derived.Test.YtbolaljlhmakeaaGreatDoorMPlain
namespace Go.Proofs.YtbolaljlhmakeaaGreatDoor.Pkt
open Go
set_option linter.unusedVariables false
set_option linter.unusedSimpArgs false

/-- A reader's state. -/
structure PS where
  nx : Int
  body : List Int
  held : List Int
  why : Int
/-- A payload that was told: the number of its first frame, the one behind its last, its bytes. -/
abbrev Pk := Int × Int × List Int

/-- Why a whole head may not come now. -/
def hdE (M L : Int) (s : PS) : Int :=
  if M < val s.held 3 then 5 else if s.held.getD 3 0 ≠ s.nx then 6 else if L < (s.body.length : Int) + val s.held 3 then 3 else 0
/-- How many bytes the frame has whose head is whole. -/
def hdN (s : PS) : Nat := (val s.held 3).toNat
/-- A whole frame is taken. -/
def tkF (n : Nat) (s : PS) : PS := { s with nx := (s.nx + 1) % 256, body := s.body ++ (s.held.drop 4).take n, held := s.held.drop (4 + n) }
/-- How many frames a payload has. -/
def frm (n M : Int) : Int := n / M + 1
/-- The payload whose last frame was taken. -/
def tkP (M : Int) (s : PS) : Pk := ((s.nx - frm s.body.length M) % 256, s.nx, s.body)
/-- It stops. -/
def stp (e : Int) (s : PS) : PS := { s with body := [], held := [], why := e }

/-- What is told, one frame behind the other; the error. -/
def lp (M L : Int) : Nat → PS → List Pk → PS × List Pk × Int
  | 0, s, t => (s, t, 0)
  | f + 1, s, t =>
    if s.held.length < 4 then (s, t, 0)
    else if hdE M L s ≠ 0 then (stp (hdE M L s) s, t, hdE M L s)
    else if s.held.length < 4 + hdN s then (s, t, 0)
    else if (hdN s : Int) < M then lp M L f { tkF (hdN s) s with body := [] } (t ++ [tkP M (tkF (hdN s) s)])
    else lp M L f (tkF (hdN s) s) t
/-- What Feed does. -/
def feed (M L : Int) (s : PS) (b : List Int) : PS × List Pk × Int :=
  if s.why ≠ 0 then (s, [], 9) else lp M L (s.held ++ b).length { s with held := s.held ++ b } []

section
variable {M L : Int} {f : Nat} {s : PS} {t : List Pk}
theorem lp_short (h : s.held.length < 4) : lp M L f s t = (s, t, 0) := by
  cases f with
  | zero => rfl
  | succ f => simp only [lp]; rw [if_pos h]
theorem lp_err (hf : s.held.length ≤ f) (h : ¬ s.held.length < 4) (he : hdE M L s ≠ 0) : lp M L f s t = (stp (hdE M L s) s, t, hdE M L s) := by
  cases f with
  | zero => omega
  | succ f => simp only [lp]; rw [if_neg h, if_pos he]
theorem lp_part (hf : s.held.length ≤ f) (h : ¬ s.held.length < 4) (he : hdE M L s = 0) (hn : s.held.length < 4 + hdN s) : lp M L f s t = (s, t, 0) := by
  cases f with
  | zero => rfl
  | succ f => simp only [lp]; rw [if_neg h, if_neg (by simp [he]), if_pos hn]
theorem lp_tell (hf : s.held.length ≤ f) (h : ¬ s.held.length < 4) (he : hdE M L s = 0) (hn : ¬ s.held.length < 4 + hdN s) (hm : (hdN s : Int) < M) :
    ∃ f', (s.held.drop (4 + hdN s)).length ≤ f' ∧ f = f' + 1 ∧ lp M L f s t = lp M L f' { tkF (hdN s) s with body := [] } (t ++ [tkP M (tkF (hdN s) s)]) := by
  cases f with
  | zero => omega
  | succ f => exact ⟨f, by rw [List.length_drop]; omega, rfl, by simp only [lp]; rw [if_neg h, if_neg (by simp [he]), if_neg hn, if_pos hm]⟩
theorem lp_go (hf : s.held.length ≤ f) (h : ¬ s.held.length < 4) (he : hdE M L s = 0) (hn : ¬ s.held.length < 4 + hdN s) (hm : ¬ (hdN s : Int) < M) :
    ∃ f', (s.held.drop (4 + hdN s)).length ≤ f' ∧ f = f' + 1 ∧ lp M L f s t = lp M L f' (tkF (hdN s) s) t := by
  cases f with
  | zero => omega
  | succ f => exact ⟨f, by rw [List.length_drop]; omega, rfl, by simp only [lp]; rw [if_neg h, if_neg (by simp [he]), if_neg hn, if_neg hm]⟩
end

theorem val3 (bs : List Int) : val bs 3 = bs.getD 0 0 + bs.getD 1 0 * 256 + bs.getD 2 0 * 65536 := by simp [val]
theorem hdE_ok {M L : Int} {s : PS} (h : hdE M L s = 0) : val s.held 3 ≤ M ∧ s.held.getD 3 0 = s.nx ∧ (s.body.length : Int) + val s.held 3 ≤ L := by
  unfold hdE at h
  split at h
  · cases h
  · split at h
    · cases h
    · split at h
      · cases h
      · rename_i a b c
        simp only [ne_eq, Decidable.not_not] at b
        exact ⟨by omega, b, by omega⟩
theorem hdN_int {s : PS} (h : Byt s.held) : (hdN s : Int) = val s.held 3 := by
  have := (val_bounds h 3).1
  unfold hdN
  omega
theorem hdN_lt {s : PS} (h : Byt s.held) : hdN s < 16777216 := by
  have := (val_bounds h 3).2
  rw [show (2 : Int) ^ (8 * 3) = 16777216 by decide] at this
  have := hdN_int h
  omega

/-- What a state keeps to, between calls and within one. -/
structure Sok (M L : Int) (s : PS) : Prop where
  m0 : 1 ≤ M
  m1 : M ≤ 16777215
  l0 : 0 ≤ L
  l1 : L ≤ 1073741824
  n0 : 0 ≤ s.nx
  n1 : s.nx ≤ 255
  bl : (s.body.length : Int) ≤ L
  hl : s.held.length ≤ 2000000000
  w0 : 0 ≤ s.why
  w1 : s.why ≤ 100
theorem Sok.tk {M L : Int} {s : PS} (h : Sok M L s) (hb : Byt s.held) (he : hdE M L s = 0) : Sok M L (tkF (hdN s) s) := by
  have h1 := hdE_ok he
  have h2 := hdN_int hb
  have h3 := h.hl
  refine ⟨h.m0, h.m1, h.l0, h.l1, ?_, ?_, ?_, ?_, h.w0, h.w1⟩
  · simp only [tkF]; omega
  · simp only [tkF]; omega
  · simp only [tkF, List.length_append, List.length_take, List.length_drop]; omega
  · simp only [tkF, List.length_drop]; omega
theorem Sok.nobody {M L : Int} {s : PS} (h : Sok M L s) : Sok M L { s with body := [] } :=
  ⟨h.m0, h.m1, h.l0, h.l1, h.n0, h.n1, by simpa using h.l0, h.hl, h.w0, h.w1⟩
theorem Sok.stop {M L : Int} {s : PS} (h : Sok M L s) {e : Int} (h0 : 0 ≤ e) (h1 : e ≤ 100) : Sok M L (stp e s) :=
  ⟨h.m0, h.m1, h.l0, h.l1, h.n0, h.n1, by simpa [stp] using h.l0, by simp [stp], h0, h1⟩
theorem hdE_range (M L : Int) (s : PS) : 0 ≤ hdE M L s ∧ hdE M L s ≤ 100 := by
  unfold hdE
  split
  · omega
  · split
    · omega
    · split <;> omega

end Go.Proofs.YtbolaljlhmakeaaGreatDoor.Pkt
