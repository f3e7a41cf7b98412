/-
  Statements cut into words, plain: the words one behind the other, their places. No program and no memory is named here.
-/
import Derived.Test.YtddfbaaghjcbnaaGreatDoorScPl2
namespace Go.Proofs.YtddfbaaghjcbnaaGreatDoor
set_option linter.unusedVariables false
set_option linter.unusedSimpArgs false

def ok0 : Ft := ⟨0, 0⟩
/-- The words of a text that begins at place i. -/
def wsF : Nat → Bl → Nat → List Wd × Ft
  | 0, _, _ => ([], ok0)
  | n + 1, l, i =>
    if l = [] then ([], ok0)
    else if (nxF l).e ≠ 0 then ([], ⟨(nxF l).e, i⟩)
    else if (wsF n (l.drop (nxF l).n) (i + (nxF l).n)).2 = ok0 then
      ((if (nxF l).k = 0 then [] else [⟨(nxF l).k, (nxF l).tx, i⟩]) ++ (wsF n (l.drop (nxF l).n) (i + (nxF l).n)).1, ok0)
    else ([], (wsF n (l.drop (nxF l).n) (i + (nxF l).n)).2)
theorem ft_ne {e : Int} {i : Int} (h : e ≠ 0) : (⟨e, i⟩ : Ft) ≠ ok0 := by
  intro q
  exact h (congrArg Ft.e q)
theorem wsF_nil (m i : Nat) : wsF m [] i = ([], ok0) := by
  cases m with
  | zero => rfl
  | succ m => simp [wsF]
theorem wsF_err (m : Nat) (l : Bl) (i : Nat) (hl : l ≠ []) (h : (nxF l).e ≠ 0) : wsF (m + 1) l i = ([], ⟨(nxF l).e, i⟩) := by
  simp only [wsF, if_neg hl, if_pos h]
theorem wsF_go (m : Nat) (l : Bl) (i : Nat) (hl : l ≠ []) (h : (nxF l).e = 0) (hr : (wsF m (l.drop (nxF l).n) (i + (nxF l).n)).2 = ok0) : wsF (m + 1) l i = ((if (nxF l).k = 0 then [] else [⟨(nxF l).k, (nxF l).tx, i⟩]) ++ (wsF m (l.drop (nxF l).n) (i + (nxF l).n)).1, ok0) := by
  simp only [wsF, if_neg hl, hr, if_true]
  rw [if_neg (by simpa using h)]
theorem wsF_bad (m : Nat) (l : Bl) (i : Nat) (hl : l ≠ []) (h : (nxF l).e = 0) (hr : (wsF m (l.drop (nxF l).n) (i + (nxF l).n)).2 ≠ ok0) : wsF (m + 1) l i = ([], (wsF m (l.drop (nxF l).n) (i + (nxF l).n)).2) := by
  simp only [wsF, if_neg hl, if_neg hr]
  rw [if_neg (by simpa using h)]
theorem alF_ws : ∀ (m : Nat) (l : Bl) (i : Nat) (ws : List Wd), alF m l i ws = if (wsF m l i).2 = ok0 then (ws ++ (wsF m l i).1, ok0) else ([], (wsF m l i).2)
  | 0, l, i, ws => by simp [alF, wsF, ok0]
  | m + 1, l, i, ws => by
    by_cases hl : l = []
    · subst hl
      rw [wsF_nil]
      simp [alF, ok0]
    · by_cases he : (nxF l).e = 0
      · have ea : alF (m + 1) l i ws = alF m (l.drop (nxF l).n) (i + (nxF l).n) (if (nxF l).k = 0 then ws else ws ++ [⟨(nxF l).k, (nxF l).tx, i⟩]) := by
          simp only [alF, if_neg hl, he]
          simp
        rw [ea, alF_ws m]
        by_cases hr : (wsF m (l.drop (nxF l).n) (i + (nxF l).n)).2 = ok0
        · rw [wsF_go m l i hl he hr, if_pos hr, if_pos rfl]
          by_cases hk : (nxF l).k = 0
          · simp [hk]
          · simp [hk]
        · rw [wsF_bad m l i hl he hr, if_neg hr, if_neg hr]
      · have ea : alF (m + 1) l i ws = ([], ⟨(nxF l).e, i⟩) := by
          simp only [alF, if_neg hl, if_pos he]
        rw [ea, wsF_err m l i hl he, if_neg (ft_ne he)]
theorem alW_ws (l : Bl) (h : l.length ≤ 1048576) : alW l = if (wsF l.length l 0).2 = ok0 then ((wsF l.length l 0).1, ok0) else ([], (wsF l.length l 0).2) := by
  unfold alW
  rw [if_neg (by omega), alF_ws]
  simp
/-- Words' places go up, from lo on, below hi. -/
def Pl : Nat → Nat → List Wd → Prop
  | _, _, [] => True
  | lo, hi, x :: r => ∃ i : Nat, x.at' = (i : Int) ∧ lo ≤ i ∧ i < hi ∧ Pl (i + 1) hi r
theorem Pl.low {a b hi : Nat} {l : List Wd} (h : Pl b hi l) (hab : a ≤ b) : Pl a hi l := by
  cases l with
  | nil => trivial
  | cons x r =>
    obtain ⟨i, h1, h2, h3, h4⟩ := h
    exact ⟨i, h1, by omega, h3, h4⟩
theorem wsF_pl : ∀ (m : Nat) (l : Bl) (i : Nat), Pl i (i + l.length) (wsF m l i).1
  | 0, l, i => trivial
  | m + 1, l, i => by
    simp only [wsF]
    by_cases hl : l = []
    · rw [if_pos hl]; trivial
    · rw [if_neg hl]
      by_cases he : (nxF l).e ≠ 0
      · rw [if_pos he]; trivial
      · rw [if_neg he]
        split
        · have h1 : 1 ≤ l.length := by
            cases l with
            | nil => exact absurd rfl hl
            | cons a r => simp
          have hp := nxF_pos l (by simpa using he)
          have hf := (nxF_fits l h1).1
          have ih := wsF_pl m (l.drop (nxF l).n) (i + (nxF l).n)
          rw [List.length_drop, show i + (nxF l).n + (l.length - (nxF l).n) = i + l.length by omega] at ih
          by_cases hk : (nxF l).k = 0
          · simp only [hk, if_true, List.nil_append]
            exact ih.low (by omega)
          · simp only [hk, if_false, List.cons_append, List.nil_append]
            exact ⟨i, rfl, Nat.le_refl _, by omega, ih.low (by omega)⟩
        · trivial
theorem alW_pl (l : Bl) : Pl 0 l.length (alW l).1 := by
  by_cases h : l.length ≤ 1048576
  · rw [alW_ws l h]
    split
    · have := wsF_pl l.length l 0
      rw [Nat.zero_add] at this
      exact this
    · trivial
  · unfold alW
    rw [if_pos (by omega)]
    trivial
theorem wsF_len : ∀ (m : Nat) (l : Bl) (i : Nat), (wsF m l i).1.length ≤ m
  | 0, l, i => Nat.le_refl _
  | m + 1, l, i => by
    simp only [wsF]
    split
    · exact Nat.zero_le _
    · split
      · exact Nat.zero_le _
      · split
        · have := wsF_len m (l.drop (nxF l).n) (i + (nxF l).n)
          rw [List.length_append]
          split <;> simp <;> omega
        · exact Nat.zero_le _
theorem alW_len (l : Bl) : (alW l).1.length ≤ 1048576 := by
  by_cases h : l.length ≤ 1048576
  · rw [alW_ws l h]
    split
    · exact Nat.le_trans (wsF_len _ _ _) h
    · exact Nat.zero_le _
  · unfold alW
    rw [if_pos (by omega)]
    exact Nat.zero_le _

end Go.Proofs.YtddfbaaghjcbnaaGreatDoor
