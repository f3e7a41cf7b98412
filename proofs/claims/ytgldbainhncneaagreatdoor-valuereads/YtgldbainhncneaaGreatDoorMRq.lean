/-
  What the document's answer reads as a date or a time is what the program's plain reader reads: the error, the moment, and how much is left. No program and no memory is named here. Conditions: the bytes are bytes.
  The document's own way of reading bytes as values, plain: it answers what the program's does. Conditions: the bytes are bytes; the type is known.
-/
import Derived.Test.YtgldbainhncneaaGreatDoorVrWn
import Derived.Test.YtgldbainhncneaaGreatDoorMSh
namespace Go.Proofs.YtgldbainhncneaaGreatDoor
open Go.RowKit
set_option linter.unusedVariables false
set_option linter.unusedSimpArgs false

theorem fx_ok {l : List Int} {k : Nat} (h1 : 1 ≤ k) (h8 : k ≤ 8) (h : k ≤ l.length) : fxA ⟨l, 0⟩ k = val l k ∧ fxS ⟨l, 0⟩ k = ⟨l.drop k, 0⟩ := by
  have e : readFixed l (k : Int) = (val l k, 0) := by
    unfold readFixed
    rw [if_neg (by omega), if_neg (by omega), Int.toNat_natCast]
  unfold fxA fxS
  rw [if_pos rfl, if_pos rfl, e]
  exact ⟨rfl, rfl⟩
theorem fx_sh {l : List Int} {k : Nat} (h1 : 1 ≤ k) (h8 : k ≤ 8) (h : l.length < k) : fxS ⟨l, 0⟩ k = ⟨l, 4⟩ := by
  have e : readFixed l (k : Int) = (0, 4) := by
    unfold readFixed
    rw [if_neg (by omega), if_pos (by omega)]
  unfold fxS
  rw [if_pos rfl, e]
  rfl
theorem fx_er {s : FS} {k : Nat} (h : s.e ≠ 0) : fxS s k = s := if_neg h
theorem fx_e4 {l : List Int} {k : Nat} : fxS ⟨l, 4⟩ k = ⟨l, 4⟩ := fx_er (show ¬ (4 : Int) = 0 by decide)
theorem wa_er {s : FS} {x : Bool} (h : s.e ≠ 0) : waS s x = s := if_neg (fun z => h z.1)
theorem wa_tr {s : FS} : waS s true = s := if_neg (fun z => absurd z.2 (by decide))
theorem wa_fa {l : List Int} : waS ⟨l, 0⟩ false = ⟨l, 5⟩ := rfl
theorem ck_er {s : FS} {m : Bool} (h : s.e ≠ 0) : ckS s m = s := by
  unfold ckS ck3
  rw [fx_er h, fx_er h, fx_er h, fx_er h]
  cases m <;> rfl
theorem ck3_sh {l : List Int} (h : l.length < 3) : (ck3 ⟨l, 0⟩).e = 4 := by
  unfold ck3
  by_cases h1 : l.length < 1
  · rw [fx_sh (by decide) (by decide) h1, fx_e4, fx_e4]
  rw [(fx_ok (by decide) (by decide) (Nat.le_of_not_lt h1)).2]
  by_cases h2 : l.length < 2
  · rw [fx_sh (by decide) (by decide) (by rw [List.length_drop]; omega), fx_e4]
  rw [(fx_ok (by decide) (by decide) (by rw [List.length_drop]; omega)).2, fx_sh (by decide) (by decide) (by rw [List.length_drop, List.length_drop]; omega)]
theorem ck3_ok {l : List Int} (h : 3 ≤ l.length) : ck3 ⟨l, 0⟩ = ⟨l.drop 3, 0⟩ := by
  unfold ck3
  rw [(fx_ok (by decide) (by decide) (by omega)).2, (fx_ok (by decide) (by decide) (by rw [List.length_drop]; omega)).2, (fx_ok (by decide) (by decide) (by rw [List.length_drop, List.length_drop]; omega)).2, List.drop_drop, List.drop_drop]
def ckN (m : Bool) : Nat := if m = true then 7 else 3
theorem ckS_sh {l : List Int} {m : Bool} (h : l.length < ckN m) : (ckS ⟨l, 0⟩ m).e = 4 := by
  unfold ckS
  cases m
  · exact ck3_sh h
  · rw [if_pos rfl]
    by_cases h3 : l.length < 3
    · have q := ck3_sh h3
      rw [fx_er (by rw [q]; decide)]
      exact q
    · rw [ck3_ok (by omega), fx_sh (by decide) (by decide) (by rw [List.length_drop]; unfold ckN at h; simp at h; omega)]
theorem ckS_ok {l : List Int} {m : Bool} (h : ckN m ≤ l.length) : ckS ⟨l, 0⟩ m = ⟨l.drop (ckN m), 0⟩ := by
  unfold ckS
  cases m
  · exact ck3_ok h
  · unfold ckN at h ⊢
    rw [if_pos rfl] at h
    rw [if_pos rfl, ck3_ok (by omega), (fx_ok (by decide) (by decide) (by rw [List.length_drop]; omega)).2, List.drop_drop]
    rfl
theorem ckO_ok {l : List Int} {m : Bool} {v : Wh} (h : ckN m ≤ l.length) : ckO ⟨l, 0⟩ v m = { v with h := l.getD 0 0, mi := l.getD 1 0, s := l.getD 2 0, mc := if m = true then val (l.drop 3) 4 else v.mc } := by
  have h3 : 3 ≤ l.length := by cases m <;> unfold ckN at h <;> simp at h <;> omega
  unfold ckO
  rw [(fx_ok (by decide) (by decide) (by omega)).1, (fx_ok (by decide) (by decide) (by omega)).2, (fx_ok (by decide) (by decide) (by rw [List.length_drop]; omega)).1, (fx_ok (by decide) (by decide) (by rw [List.length_drop]; omega)).2, (fx_ok (by decide) (by decide) (by rw [List.length_drop, List.length_drop]; omega)).1, ck3_ok h3]
  have e : (if m = true then fxA ⟨l.drop 3, 0⟩ 4 else v.mc) = if m = true then val (l.drop 3) 4 else v.mc := by
    cases m
    · rfl
    · unfold ckN at h
      simp at h
      rw [if_pos rfl, if_pos rfl, (fx_ok (by decide) (by decide) (by rw [List.length_drop]; omega)).1]
  rw [e]
  simp [val, List.getD_eq_getElem?_getD]
theorem rd1 {x : Int} {r : List Int} : fxA ⟨x :: r, 0⟩ 1 = x ∧ fxS ⟨x :: r, 0⟩ 1 = ⟨r, 0⟩ := by
  have q := fx_ok (l := x :: r) (k := 1) (by decide) (by decide) (by simp)
  exact ⟨by rw [q.1]; simp [val], q.2⟩
theorem rd0 : fxA ⟨[], 0⟩ 1 = 0 ∧ fxS ⟨[], 0⟩ 1 = ⟨[], 4⟩ := ⟨rfl, rfl⟩
theorem rF1 {x : Int} {r : List Int} : readFixed (x :: r) 1 = (x, 0) := by
  unfold readFixed
  rw [if_neg (by decide), if_neg (by simp; omega)]
  simp [val]
theorem exl4 {l : List Int} (h : 4 ≤ l.length) : ∃ a0 a1 a2 a3 r, l = a0 :: a1 :: a2 :: a3 :: r := by
  obtain _ | ⟨a0, l⟩ := l
  · simp at h
  obtain _ | ⟨a1, l⟩ := l
  · simp at h
  obtain _ | ⟨a2, l⟩ := l
  · simp at h
  obtain _ | ⟨a3, l⟩ := l
  · simp at h
  exact ⟨a0, a1, a2, a3, l, rfl⟩
theorem exl7 {l : List Int} (h : 7 ≤ l.length) : ∃ a0 a1 a2 a3 a4 a5 a6 r, l = a0 :: a1 :: a2 :: a3 :: a4 :: a5 :: a6 :: r := by
  obtain _ | ⟨a0, l⟩ := l
  · simp at h
  obtain _ | ⟨a1, l⟩ := l
  · simp at h
  obtain _ | ⟨a2, l⟩ := l
  · simp at h
  obtain _ | ⟨a3, l⟩ := l
  · simp at h
  obtain _ | ⟨a4, l⟩ := l
  · simp at h
  obtain _ | ⟨a5, l⟩ := l
  · simp at h
  obtain _ | ⟨a6, l⟩ := l
  · simp at h
  exact ⟨a0, a1, a2, a3, a4, a5, a6, l, rfl⟩
theorem exl8 {l : List Int} (h : 8 ≤ l.length) : ∃ a0 a1 a2 a3 a4 a5 a6 a7 r, l = a0 :: a1 :: a2 :: a3 :: a4 :: a5 :: a6 :: a7 :: r := by
  obtain _ | ⟨a0, l⟩ := l
  · simp at h
  obtain _ | ⟨a1, l⟩ := l
  · simp at h
  obtain _ | ⟨a2, l⟩ := l
  · simp at h
  obtain _ | ⟨a3, l⟩ := l
  · simp at h
  obtain _ | ⟨a4, l⟩ := l
  · simp at h
  obtain _ | ⟨a5, l⟩ := l
  · simp at h
  obtain _ | ⟨a6, l⟩ := l
  · simp at h
  obtain _ | ⟨a7, l⟩ := l
  · simp at h
  exact ⟨a0, a1, a2, a3, a4, a5, a6, a7, l, rfl⟩
theorem exl11 {l : List Int} (h : 11 ≤ l.length) : ∃ a0 a1 a2 a3 a4 a5 a6 a7 a8 a9 a10 r, l = a0 :: a1 :: a2 :: a3 :: a4 :: a5 :: a6 :: a7 :: a8 :: a9 :: a10 :: r := by
  obtain _ | ⟨a0, l⟩ := l
  · simp at h
  obtain _ | ⟨a1, l⟩ := l
  · simp at h
  obtain _ | ⟨a2, l⟩ := l
  · simp at h
  obtain _ | ⟨a3, l⟩ := l
  · simp at h
  obtain _ | ⟨a4, l⟩ := l
  · simp at h
  obtain _ | ⟨a5, l⟩ := l
  · simp at h
  obtain _ | ⟨a6, l⟩ := l
  · simp at h
  obtain _ | ⟨a7, l⟩ := l
  · simp at h
  obtain _ | ⟨a8, l⟩ := l
  · simp at h
  obtain _ | ⟨a9, l⟩ := l
  · simp at h
  obtain _ | ⟨a10, l⟩ := l
  · simp at h
  exact ⟨a0, a1, a2, a3, a4, a5, a6, a7, a8, a9, a10, l, rfl⟩
theorem exl12 {l : List Int} (h : 12 ≤ l.length) : ∃ a0 a1 a2 a3 a4 a5 a6 a7 a8 a9 a10 a11 r, l = a0 :: a1 :: a2 :: a3 :: a4 :: a5 :: a6 :: a7 :: a8 :: a9 :: a10 :: a11 :: r := by
  obtain _ | ⟨a0, l⟩ := l
  · simp at h
  obtain _ | ⟨a1, l⟩ := l
  · simp at h
  obtain _ | ⟨a2, l⟩ := l
  · simp at h
  obtain _ | ⟨a3, l⟩ := l
  · simp at h
  obtain _ | ⟨a4, l⟩ := l
  · simp at h
  obtain _ | ⟨a5, l⟩ := l
  · simp at h
  obtain _ | ⟨a6, l⟩ := l
  · simp at h
  obtain _ | ⟨a7, l⟩ := l
  · simp at h
  obtain _ | ⟨a8, l⟩ := l
  · simp at h
  obtain _ | ⟨a9, l⟩ := l
  · simp at h
  obtain _ | ⟨a10, l⟩ := l
  · simp at h
  obtain _ | ⟨a11, l⟩ := l
  · simp at h
  exact ⟨a0, a1, a2, a3, a4, a5, a6, a7, a8, a9, a10, a11, l, rfl⟩
theorem wnP_ok {n : Int} {l : List Int} (h0 : 0 < n) (h : 4 ≤ l.length) : wnP n ⟨l, 0⟩ = (⟨false, val l 2, l.getD 2 0, l.getD 3 0, 0, 0, 0, 0⟩, ⟨l.drop 4, 0⟩) := by
  unfold wnP
  rw [if_pos ⟨rfl, h0⟩, (fx_ok (by decide) (by decide) (by omega)).1, (fx_ok (by decide) (by decide) (by omega)).2, (fx_ok (by decide) (by decide) (by rw [List.length_drop]; omega)).1, (fx_ok (by decide) (by decide) (by rw [List.length_drop]; omega)).2, (fx_ok (by decide) (by decide) (by rw [List.length_drop, List.length_drop]; omega)).1, (fx_ok (by decide) (by decide) (by rw [List.length_drop, List.length_drop]; omega)).2, List.drop_drop, List.drop_drop]
  simp [val, List.getD_eq_getElem?_getD]
theorem wnP_sh {n : Int} {l : List Int} (h0 : 0 < n) (h : l.length < 4) : (wnP n ⟨l, 0⟩).2.e = 4 := by
  unfold wnP
  rw [if_pos ⟨rfl, h0⟩]
  simp only
  by_cases h1 : l.length < 2
  · rw [fx_sh (by decide) (by decide) h1, fx_e4, fx_e4]
  rw [(fx_ok (by decide) (by decide) (Nat.le_of_not_lt h1)).2]
  by_cases h2 : l.length < 3
  · rw [fx_sh (by decide) (by decide) (by rw [List.length_drop]; omega), fx_e4]
  rw [(fx_ok (by decide) (by decide) (by rw [List.length_drop]; omega)).2, fx_sh (by decide) (by decide) (by rw [List.length_drop, List.length_drop]; omega)]
theorem wnP_0 {s : FS} : wnP 0 s = (wh0, s) := if_neg (fun z => absurd z.2 (by decide))
theorem wnP_er {n : Int} {s : FS} (h : s.e ≠ 0) : wnP n s = (wh0, s) := if_neg (fun z => h z.1)
theorem wnC_er {n : Int} {p : Wh × FS} (h : p.2.e ≠ 0) : wnC n p = p := if_neg (fun z => h z.1)
theorem wnC_le {n : Int} {p : Wh × FS} (h : ¬ 4 < n) : wnC n p = p := if_neg (fun z => h z.2)
theorem wnC_in {n : Int} {v : Wh} {l : List Int} (h : 4 < n) : wnC n (v, ⟨l, 0⟩) = (ckO ⟨l, 0⟩ v (n == 11), ckS ⟨l, 0⟩ (n == 11)) := if_pos ⟨rfl, h⟩
theorem rdF_c {x : Int} {r ls : List Int} : rdF (x :: r) ls = if ls.contains x = false then (zer12, 0, 5) else if ((x :: r).length : Int) < 1 + x then (zer12, 0, 4) else (r.take x.toNat ++ zer12.drop x.toNat, 1 + x, 0) := by
  unfold rdF
  rw [rF1]
  rfl
theorem rdF_n {ls : List Int} : rdF [] ls = (zer12, 0, 4) := rfl
/-- The date, ahead of the last look. -/
theorem wnD_rd (b : List Int) : ((rdD b).2.2 = 0 → wnD (fxA ⟨b, 0⟩ 1) (fxS ⟨b, 0⟩ 1) = ((rdD b).1, ⟨b.drop (rdD b).2.1.toNat, 0⟩) ∧ 0 ≤ (rdD b).2.1 ∧ (rdD b).2.1 ≤ b.length) ∧ ((rdD b).2.2 ≠ 0 → (wnD (fxA ⟨b, 0⟩ 1) (fxS ⟨b, 0⟩ 1)).2.e = (rdD b).2.2) := by
  cases b with
  | nil =>
    rw [rd0.1, rd0.2]
    unfold rdD
    rw [rdF_n]
    refine ⟨fun h => absurd h (by decide), fun _ => ?_⟩
    unfold wnD
    rw [wa_er (show ¬ (4 : Int) = 0 by decide), wnP_0, wnC_le (by decide)]
  | cons x r =>
    rw [rd1.1, rd1.2]
    unfold rdD
    rw [rdF_c]
    unfold wnD
    by_cases h0 : x = 0
    · subst h0
      rw [if_neg (by decide), if_neg (by simp; omega), show ((0 : Int) == 0 || ((0 : Int) == 4 || ((0 : Int) == 7 || (0 : Int) == 11))) = true from rfl, wa_tr, wnP_0, wnC_le (by decide)]
      exact ⟨fun _ => ⟨rfl, by simp, by simp; omega⟩, fun h => absurd rfl h⟩
    by_cases h4 : x = 4
    · subst h4
      rw [if_neg (by decide), show ((4 : Int) == 0 || ((4 : Int) == 4 || ((4 : Int) == 7 || (4 : Int) == 11))) = true from rfl, wa_tr]
      by_cases hl : r.length < 4
      · rw [if_pos (by simp; omega)]
        refine ⟨fun h => absurd h (by decide), fun _ => ?_⟩
        rw [wnC_le (by decide)]
        exact wnP_sh (by decide) hl
      · rw [if_neg (by simp; omega)]
        obtain ⟨a0, a1, a2, a3, r, rfl⟩ := exl4 (Nat.le_of_not_lt hl)
        refine ⟨fun _ => ⟨?_, by simp, by simp; omega⟩, fun h => absurd rfl h⟩
        rw [wnC_le (by decide), wnP_ok (by decide) (by simp)]
        simp [datO, clkO, zer12, val]
    by_cases h7 : x = 7
    · subst h7
      rw [if_neg (by decide), show ((7 : Int) == 0 || ((7 : Int) == 4 || ((7 : Int) == 7 || (7 : Int) == 11))) = true from rfl, wa_tr]
      by_cases hl : r.length < 7
      · rw [if_pos (by simp; omega)]
        refine ⟨fun h => absurd h (by decide), fun _ => ?_⟩
        by_cases hs : r.length < 4
        · have q := wnP_sh (n := 7) (by decide) hs
          rw [wnC_er (by rw [q]; decide)]
          exact q
        · rw [wnP_ok (by decide) (by omega), wnC_in (by decide)]
          exact ckS_sh (m := false) (by rw [List.length_drop]; show _ < 3; omega)
      · rw [if_neg (by simp; omega)]
        obtain ⟨a0, a1, a2, a3, a4, a5, a6, r, rfl⟩ := exl7 (Nat.le_of_not_lt hl)
        refine ⟨fun _ => ⟨?_, by simp, by simp; omega⟩, fun h => absurd rfl h⟩
        rw [wnP_ok (by decide) (by simp), wnC_in (by decide), show ((7 : Int) == 11) = false from rfl, ckS_ok (by simp [ckN]), ckO_ok (by simp [ckN])]
        simp [datO, clkO, zer12, val, ckN]
    by_cases h11 : x = 11
    · subst h11
      rw [if_neg (by decide), show ((11 : Int) == 0 || ((11 : Int) == 4 || ((11 : Int) == 7 || (11 : Int) == 11))) = true from rfl, wa_tr]
      by_cases hl : r.length < 11
      · rw [if_pos (by simp; omega)]
        refine ⟨fun h => absurd h (by decide), fun _ => ?_⟩
        by_cases hs : r.length < 4
        · have q := wnP_sh (n := 11) (by decide) hs
          rw [wnC_er (by rw [q]; decide)]
          exact q
        · rw [wnP_ok (by decide) (by omega), wnC_in (by decide)]
          exact ckS_sh (m := true) (by rw [List.length_drop]; show _ < 7; omega)
      · rw [if_neg (by simp; omega)]
        obtain ⟨a0, a1, a2, a3, a4, a5, a6, a7, a8, a9, a10, r, rfl⟩ := exl11 (Nat.le_of_not_lt hl)
        refine ⟨fun _ => ⟨?_, by simp, by simp; omega⟩, fun h => absurd rfl h⟩
        rw [wnP_ok (by decide) (by simp), wnC_in (by decide), show ((11 : Int) == 11) = true from rfl, ckS_ok (by simp [ckN]), ckO_ok (by simp [ckN])]
        simp [datO, clkO, zer12, val, ckN]
    have p0 : (x == 0) = false := by simpa using h0
    have p4 : (x == 4) = false := by simpa using h4
    have p7 : (x == 7) = false := by simpa using h7
    have p11 : (x == 11) = false := by simpa using h11
    rw [p0, p4, p7, p11, show (false || (false || (false || false))) = false from rfl, wa_fa, if_pos (by unfold dLs; simp [h0, h4, h7, h11]), wnP_er (show ¬ (5 : Int) = 0 by decide), wnC_er (show ¬ (5 : Int) = 0 by decide)]
    exact ⟨fun h => absurd h (by decide), fun _ => rfl⟩
theorem wnT_in {n : Int} {l : List Int} (hn : (n == 0 || (n == 8 || n == 12)) = true) (h : 0 < n) : wnT n ⟨l, 0⟩ = (ckO (fxS (fxS ⟨l, 0⟩ 1) 4) ⟨fxA ⟨l, 0⟩ 1 == 1, 0, 0, fxA (fxS ⟨l, 0⟩ 1) 4, 0, 0, 0, 0⟩ (n == 12), waS (ckS (fxS (fxS ⟨l, 0⟩ 1) 4) (n == 12)) (decide (fxA ⟨l, 0⟩ 1 ≤ 1))) := by
  unfold wnT
  rw [hn, wa_tr, if_pos ⟨rfl, h⟩]
theorem wnT_sh {n : Int} {l : List Int} (hn : (n == 0 || (n == 8 || n == 12)) = true) (h : 0 < n) (hl : l.length < 5 + ckN (n == 12)) : (wnT n ⟨l, 0⟩).2.e = 4 := by
  rw [wnT_in hn h]
  have q : (ckS (fxS (fxS ⟨l, 0⟩ 1) 4) (n == 12)).e = 4 := by
    by_cases h1 : l.length < 1
    · rw [fx_sh (by decide) (by decide) h1, fx_e4, ck_er (show ¬ (4 : Int) = 0 by decide)]
    rw [(fx_ok (by decide) (by decide) (Nat.le_of_not_lt h1)).2]
    by_cases h2 : l.length < 5
    · rw [fx_sh (by decide) (by decide) (by rw [List.length_drop]; omega), ck_er (show ¬ (4 : Int) = 0 by decide)]
    rw [(fx_ok (by decide) (by decide) (by rw [List.length_drop]; omega)).2]
    exact ckS_sh (by rw [List.length_drop, List.length_drop]; omega)
  simp only
  rw [wa_er (by rw [q]; decide)]
  exact q
theorem wnT_ok {n : Int} {l : List Int} (hn : (n == 0 || (n == 8 || n == 12)) = true) (h : 0 < n) (hl : 5 + ckN (n == 12) ≤ l.length) : wnT n ⟨l, 0⟩ = (⟨l.getD 0 0 == 1, 0, 0, val (l.drop 1) 4, (l.drop 5).getD 0 0, (l.drop 5).getD 1 0, (l.drop 5).getD 2 0, if (n == 12) = true then val (l.drop 8) 4 else 0⟩, waS ⟨l.drop (5 + ckN (n == 12)), 0⟩ (decide (l.getD 0 0 ≤ 1))) := by
  rw [wnT_in hn h, (fx_ok (by decide) (by decide) (by omega)).1, (fx_ok (by decide) (by decide) (by omega)).2, (fx_ok (by decide) (by decide) (by rw [List.length_drop]; omega)).1, (fx_ok (by decide) (by decide) (by rw [List.length_drop]; omega)).2, List.drop_drop, ckO_ok (by rw [List.length_drop]; omega), ckS_ok (by rw [List.length_drop]; omega), List.drop_drop, List.drop_drop]
  have e : val l 1 = l.getD 0 0 := by simp [val]
  rw [e]
/-- The time, ahead of the last look. -/
theorem wnT_rd (b : List Int) : ((rdT b).2.2 = 0 → wnT (fxA ⟨b, 0⟩ 1) (fxS ⟨b, 0⟩ 1) = ((rdT b).1, ⟨b.drop (rdT b).2.1.toNat, 0⟩) ∧ 0 ≤ (rdT b).2.1 ∧ (rdT b).2.1 ≤ b.length) ∧ ((rdT b).2.2 ≠ 0 → (wnT (fxA ⟨b, 0⟩ 1) (fxS ⟨b, 0⟩ 1)).2.e = (rdT b).2.2) := by
  cases b with
  | nil =>
    rw [rd0.1, rd0.2]
    unfold rdT
    rw [rdF_n, if_neg (by decide)]
    refine ⟨fun h => absurd h (by decide), fun _ => ?_⟩
    unfold wnT
    rw [wa_er (show ¬ (4 : Int) = 0 by decide), if_neg (fun z => absurd z.2 (by decide))]
  | cons x r =>
    rw [rd1.1, rd1.2]
    unfold rdT
    have eF := rdF_c (x := x) (r := r) (ls := tLs)
    by_cases h0 : x = 0
    · subst h0
      rw [if_neg (show ¬ tLs.contains 0 = false by decide), if_neg (by simp; omega)] at eF
      rw [eF, if_neg (by simp [zer12])]
      have e : wnT 0 ⟨r, 0⟩ = (wh0, ⟨r, 0⟩) := by
        unfold wnT
        rw [show ((0 : Int) == 0 || ((0 : Int) == 8 || (0 : Int) == 12)) = true from rfl, wa_tr, if_neg (fun z => absurd z.2 (by decide))]
      rw [e]
      exact ⟨fun _ => ⟨rfl, by simp, by simp; omega⟩, fun h => absurd rfl h⟩
    by_cases h8 : x = 8
    · subst h8
      rw [if_neg (show ¬ tLs.contains 8 = false by decide)] at eF
      by_cases hl : r.length < 8
      · rw [if_pos (by simp; omega)] at eF
        rw [eF, if_neg (by decide)]
        refine ⟨fun h => absurd h (by decide), fun _ => ?_⟩
        exact wnT_sh rfl (by decide) (by show _ < 8; exact hl)
      · rw [if_neg (by simp; omega)] at eF
        rw [eF, wnT_ok rfl (by decide) (by show 8 ≤ _; omega)]
        clear eF
        obtain ⟨a0, a1, a2, a3, a4, a5, a6, a7, r, rfl⟩ := exl8 (Nat.le_of_not_lt hl)
        by_cases ha : 1 < a0
        · rw [if_pos (by simpa using ha)]
          refine ⟨fun h => absurd h (by decide), fun _ => ?_⟩
          rw [decide_eq_false (by simp; omega)]
          rfl
        · rw [if_neg (by simpa using ha), decide_eq_true (by simp; omega), wa_tr]
          refine ⟨fun _ => ⟨?_, by simp, by simp; omega⟩, fun h => absurd rfl h⟩
          simp [timO, clkO, zer12, val, ckN]
    by_cases h12 : x = 12
    · subst h12
      rw [if_neg (show ¬ tLs.contains 12 = false by decide)] at eF
      by_cases hl : r.length < 12
      · rw [if_pos (by simp; omega)] at eF
        rw [eF, if_neg (by decide)]
        refine ⟨fun h => absurd h (by decide), fun _ => ?_⟩
        exact wnT_sh rfl (by decide) (by show _ < 12; exact hl)
      · rw [if_neg (by simp; omega)] at eF
        rw [eF, wnT_ok rfl (by decide) (by show 12 ≤ _; omega)]
        clear eF
        obtain ⟨a0, a1, a2, a3, a4, a5, a6, a7, a8, a9, a10, a11, r, rfl⟩ := exl12 (Nat.le_of_not_lt hl)
        by_cases ha : 1 < a0
        · rw [if_pos (by simpa using ha)]
          refine ⟨fun h => absurd h (by decide), fun _ => ?_⟩
          rw [decide_eq_false (by simp; omega)]
          rfl
        · rw [if_neg (by simpa using ha), decide_eq_true (by simp; omega), wa_tr]
          refine ⟨fun _ => ⟨?_, by simp, by simp; omega⟩, fun h => absurd rfl h⟩
          simp [timO, clkO, zer12, val, ckN]
    have p0 : (x == 0) = false := by simpa using h0
    have p8 : (x == 8) = false := by simpa using h8
    have p12 : (x == 12) = false := by simpa using h12
    rw [if_pos (show tLs.contains x = false by unfold tLs; simp [h0, h8, h12])] at eF
    rw [eF, if_neg (by decide)]
    refine ⟨fun h => absurd h (by decide), fun _ => ?_⟩
    unfold wnT
    rw [p0, p8, p12, show (false || (false || false)) = false from rfl, wa_fa, if_neg (fun z => absurd z.1 (show ¬ (5 : Int) = 0 by decide))]
theorem mb5 {W : Wh} {t : Int} {un : Bool} (hk : kdV t un = 5) : mb ⟨5, 0, 0, ⟨#[]⟩, W⟩ t un = dtOk W t := by
  unfold mb fit va0
  simp [hk]
theorem mb6 {W : Wh} {t : Int} {un : Bool} (hk : kdV t un = 6) : mb ⟨6, 0, 0, ⟨#[]⟩, W⟩ t un = tmOk W := by
  unfold mb fit va0
  simp [hk]
theorem fin_e {l : List Int} {x : Bool} : (waS ⟨l, 0⟩ x).e = (if x = false then 5 else 0) ∧ (waS ⟨l, 0⟩ x).b = l := by
  cases x <;> exact ⟨rfl, rfl⟩
theorem wn_date {b : List Int} {t : Int} {un : Bool} (hk : kdV t un = 5) (ht : t ≠ 11) : (wnR ⟨b, 0⟩ t).2.e = rdE b t un ∧ (rdE b t un = 0 → (wnR ⟨b, 0⟩ t).1 = (rdD b).1 ∧ (b.length : Int) - ((wnR ⟨b, 0⟩ t).2.b.length : Int) = (rdD b).2.1) := by
  obtain ⟨q1, q2⟩ := wnD_rd b
  have eQ : wnQ ⟨b, 0⟩ t = wnD (fxA ⟨b, 0⟩ 1) (fxS ⟨b, 0⟩ 1) := if_neg ht
  unfold wnR rdE
  rw [eQ, if_neg ht, rdA_e5 hk]
  simp only
  rw [mb5 hk]
  by_cases h : (rdD b).2.2 = 0
  · obtain ⟨e, h0, h1⟩ := q1 h
    rw [e, h]
    simp only
    have f := fin_e (l := b.drop (rdD b).2.1.toNat) (x := dtOk (rdD b).1 t)
    rw [f.1, f.2]
    cases hd : dtOk (rdD b).1 t
    · exact ⟨rfl, fun z => absurd z (by decide)⟩
    · refine ⟨rfl, fun _ => ⟨by first | rfl | trivial, ?_⟩⟩
      rw [List.length_drop]
      omega
  · have e := q2 h
    rw [wa_er (by rw [e]; exact h), e, if_neg (fun z => h z.1)]
    exact ⟨rfl, fun z => absurd z h⟩
theorem wn_time {b : List Int} {t : Int} {un : Bool} (hk : kdV t un = 6) (ht : t = 11) : (wnR ⟨b, 0⟩ t).2.e = rdE b t un ∧ (rdE b t un = 0 → (wnR ⟨b, 0⟩ t).1 = (rdT b).1 ∧ (b.length : Int) - ((wnR ⟨b, 0⟩ t).2.b.length : Int) = (rdT b).2.1) := by
  obtain ⟨q1, q2⟩ := wnT_rd b
  have eQ : wnQ ⟨b, 0⟩ t = wnT (fxA ⟨b, 0⟩ 1) (fxS ⟨b, 0⟩ 1) := if_pos ht
  unfold wnR rdE
  rw [eQ, if_pos ht, rdA_e6 hk]
  simp only
  rw [mb6 hk]
  by_cases h : (rdT b).2.2 = 0
  · obtain ⟨e, h0, h1⟩ := q1 h
    rw [e, h]
    simp only
    have f := fin_e (l := b.drop (rdT b).2.1.toNat) (x := tmOk (rdT b).1)
    rw [f.1, f.2]
    cases hd : tmOk (rdT b).1
    · exact ⟨rfl, fun z => absurd z (by decide)⟩
    · refine ⟨rfl, fun _ => ⟨by first | rfl | trivial, ?_⟩⟩
      rw [List.length_drop]
      omega
  · have e := q2 h
    rw [wa_er (by rw [e]; exact h), e, if_neg (fun z => h z.1)]
    exact ⟨rfl, fun z => absurd z h⟩


end Go.Proofs.YtgldbainhncneaaGreatDoor

namespace Go.Proofs.YtgldbainhncneaaGreatDoor
open Go.RowKit
set_option linter.unusedVariables false
set_option linter.unusedSimpArgs false

/-- The value and the fields, behind the switch over kinds. -/
def rrV (b : List Int) (t : Int) (un : Bool) : Va × FS :=
  if kdV t un = 1 then (⟨1, sgn (fxA ⟨b, 0⟩ (szV t).toNat) (szV t), 0, ⟨#[]⟩, wh0⟩, fxS ⟨b, 0⟩ (szV t).toNat) else
  if kdV t un = 2 ∨ kdV t un = 3 ∨ kdV t un = 4 then (⟨kdV t un, 0, fxA ⟨b, 0⟩ (szV t).toNat, ⟨#[]⟩, wh0⟩, fxS ⟨b, 0⟩ (szV t).toNat) else
  if kdV t un = 5 ∨ kdV t un = 6 then (⟨kdV t un, 0, 0, ⟨#[]⟩, (wnR ⟨b, 0⟩ t).1⟩, (wnR ⟨b, 0⟩ t).2) else
  if kdV t un = 7 then (⟨7, 0, 0, txA ⟨b, 0⟩, wh0⟩, waS (txS ⟨b, 0⟩) (decide ((txA ⟨b, 0⟩).size ≤ 16777216))) else (va0, ⟨b, 0⟩)
theorem rr_fin {b : List Int} {t : Int} {un : Bool} {V : Va} {S : FS} (hk : ¬ kdV t un = -1) (he : S.e = rdE b t un) (h0 : rdE b t un = 0 → V = (rdA b t un).1 ∧ (b.length : Int) - (S.b.length : Int) = (rdA b t un).2.1) :
    rdV b t un = if S.e = 0 then (V, (b.length : Int) - (S.b.length : Int), 0) else (va0, 0, S.e) := by
  unfold rdV
  rw [if_neg hk, he]
  by_cases h : rdE b t un = 0
  · obtain ⟨h1, h2⟩ := h0 h
    rw [if_neg (fun z => z h), if_pos h, h1, h2]
  · rw [if_pos h, if_neg h]
theorem sz_same {t : Int} {un : Bool} (h : kdV t un = 1 ∨ kdV t un = 2 ∨ kdV t un = 3 ∨ kdV t un = 4) : szV t = szP t ∧ (szP t = 1 ∨ szP t = 2 ∨ szP t = 4 ∨ szP t = 8) := by
  have hq : isN t = true ∨ t = 4 ∨ t = 5 := by
    unfold kdV at h
    by_cases h1 : kn t = false
    · rw [if_pos h1] at h; omega
    rw [if_neg h1] at h
    by_cases h2 : isN t = true
    · exact Or.inl h2
    rw [if_neg h2] at h
    by_cases h3 : t = 4
    · exact Or.inr (Or.inl h3)
    by_cases h4 : t = 5
    · exact Or.inr (Or.inr h4)
    rw [if_neg h3, if_neg h4] at h
    exfalso
    repeat' split at h
    all_goals omega
  unfold isN at hq
  simp only [Bool.or_eq_true, beq_iff_eq] at hq
  unfold szV szP
  rcases hq with (((((q | q) | q) | q) | q) | q) | q | q <;> subst q <;> decide
theorem fx_e {b : List Int} {n : Nat} (h1 : 1 ≤ n) (h8 : n ≤ 8) : (fxS ⟨b, 0⟩ n).e = (readFixed b (n : Int)).2 ∧ ((readFixed b (n : Int)).2 = 0 → fxA ⟨b, 0⟩ n = (readFixed b (n : Int)).1 ∧ (b.length : Int) - ((fxS ⟨b, 0⟩ n).b.length : Int) = n ∧ (readFixed b (n : Int)).1 = val b n) := by
  by_cases hl : n ≤ b.length
  · have q := fx_ok h1 h8 hl
    have e : readFixed b (n : Int) = (val b n, 0) := by
      unfold readFixed
      rw [if_neg (by omega), if_neg (by omega)]
      rfl
    rw [q.1, q.2, e]
    refine ⟨rfl, fun _ => ⟨rfl, ?_, rfl⟩⟩
    show (b.length : Int) - ((b.drop n).length : Int) = n
    rw [List.length_drop]; omega
  · have q := fx_sh h1 h8 (by omega : b.length < n)
    have e : readFixed b (n : Int) = (0, 4) := by
      unfold readFixed
      rw [if_neg (by omega), if_pos (by omega)]
    rw [q, e]
    exact ⟨rfl, fun z => absurd z (show ¬ (4 : Int) = 0 by decide)⟩
theorem sgn_own {x n : Int} (h : n = 1 ∨ n = 2 ∨ n = 4 ∨ n = 8) : sgn x n = sgn (sgn x n % 18446744073709551616) n := by
  unfold sgn
  rcases h with h | h | h | h <;> subst h <;> simp only [if_pos, if_neg, Int.reduceEq, if_true, if_false, reduceIte] <;> omega
theorem mb1 {i t : Int} {un : Bool} (hk : kdV t un = 1) (h : i = sgn (i % 18446744073709551616) (szP t)) : mb ⟨1, i, 0, ⟨#[]⟩, wh0⟩ t un = true := by
  unfold mb fit
  rw [hk]
  simp [← h]
theorem mb2 {x t : Int} {un : Bool} (k : Int) (hk : kdV t un = k) (k2 : k = 2 ∨ k = 3 ∨ k = 4) (h : x = uns x (szP t)) : mb ⟨k, 0, x, ⟨#[]⟩, wh0⟩ t un = true := by
  unfold mb fit
  rw [hk]
  simp only
  rw [if_neg (by omega), if_pos k2]
  simp [← h]
theorem mb7 {x : ByteArray} {t : Int} {un : Bool} (hk : kdV t un = 7) : mb ⟨7, 0, 0, x, wh0⟩ t un = decide (x.size ≤ 16777216) := by
  unfold mb fit
  rw [hk]
  simp only
  rw [if_neg (by omega), if_neg (by omega), if_neg (by omega), if_neg (by omega), if_pos trivial]
  have : ¬ (⟨7, 0, 0, x, wh0⟩ : Va) = va0 := by intro z; injection z with z; exact absurd z (by decide)
  simp [this]
theorem kd_time {t : Int} {un : Bool} : (kdV t un = 6 → t = 11) ∧ (kdV t un = 5 → t ≠ 11) := by
  unfold kdV
  constructor
  · intro h
    repeat' split at h
    all_goals first | assumption | omega
  · intro h z
    subst z
    repeat' split at h
    all_goals first | omega | (rename_i q; exact absurd q (by decide)) | contradiction
theorem rr_two {b : List Int} {t : Int} {un : Bool} (hb : Byt b) (k : Int) (h : kdV t un = k) (k2 : k = 2 ∨ k = 3 ∨ k = 4) : rdV b t un = if (rrV b t un).2.e = 0 then ((rrV b t un).1, (b.length : Int) - ((rrV b t un).2.b.length : Int), 0) else (va0, 0, (rrV b t un).2.e) := by
  obtain ⟨z1, z2⟩ := sz_same (t := t) (un := un) (by omega)
  obtain ⟨n, hn⟩ : ∃ n : Nat, szP t = n := ⟨(szP t).toNat, by omega⟩
  have e : rrV b t un = (⟨k, 0, fxA ⟨b, 0⟩ n, ⟨#[]⟩, wh0⟩, fxS ⟨b, 0⟩ n) := by
    unfold rrV
    rw [if_neg (by omega), if_pos (by omega), z1, hn, Int.toNat_natCast, h]
  have hA : rdA b t un = (⟨k, 0, (readFixed b (szP t)).1, ⟨#[]⟩, wh0⟩, szP t, (readFixed b (szP t)).2) := by
    rcases k2 with q | q | q <;> subst q
    · exact rdA_e2 h
    · exact rdA_e3 h
    · exact rdA_e4 h
  obtain ⟨f1, f2⟩ := fx_e (b := b) (n := n) (by omega) (by omega)
  have hE : rdE b t un = (readFixed b (szP t)).2 := by
    unfold rdE
    rw [hA]
    simp only
    rw [if_neg]
    rintro ⟨y, z⟩
    rw [hn] at y
    obtain ⟨_, _, g3⟩ := f2 y
    have hu : (readFixed b (szP t)).1 = uns (readFixed b (szP t)).1 (szP t) := by
      rw [hn, g3]
      have vb := val_bounds hb n
      have hc : n = 1 ∨ n = 2 ∨ n = 4 ∨ n = 8 := by omega
      unfold uns
      rcases hc with c | c | c | c <;> subst c
      · have e8 : (2 : Int) ^ (8 * 1) = 256 := by decide
        rw [e8] at vb
        rw [if_pos (by decide)]; omega
      · have e8 : (2 : Int) ^ (8 * 2) = 65536 := by decide
        rw [e8] at vb
        rw [if_neg (by decide), if_pos (by decide)]; omega
      · have e8 : (2 : Int) ^ (8 * 4) = 4294967296 := by decide
        rw [e8] at vb
        rw [if_neg (by decide), if_neg (by decide), if_pos (by decide)]; omega
      · rw [if_neg (by decide), if_neg (by decide), if_neg (by decide)]
    rw [mb2 k h k2 hu] at z
    exact absurd z (by decide)
  rw [e]
  refine rr_fin (by omega) ?_ ?_
  · rw [hE, hn]; exact f1
  · intro h0
    rw [hE, hn] at h0
    obtain ⟨g1, g2, g3⟩ := f2 h0
    rw [hA]
    simp only
    rw [g1, ← hn]
    exact ⟨rfl, by rw [hn]; exact g2⟩
theorem rr_eq {b : List Int} {t : Int} {un : Bool} (hb : Byt b) (hk : ¬ kdV t un = -1) : rdV b t un = if (rrV b t un).2.e = 0 then ((rrV b t un).1, (b.length : Int) - ((rrV b t un).2.b.length : Int), 0) else (va0, 0, (rrV b t un).2.e) := by
  have num : ∀ n : Nat, szP t = n → 1 ≤ n → n ≤ 8 → 0 ≤ val b n ∧ val b n < 2 ^ (8 * n) := fun n _ _ _ => val_bounds hb n
  rcases kd_cases t un with h | h | h | h | h | h | h | h | h
  · exact absurd h hk
  · have e : rrV b t un = (va0, ⟨b, 0⟩) := by unfold rrV; rw [if_neg (by omega), if_neg (by omega), if_neg (by omega), if_neg (by omega)]
    rw [e]
    refine rr_fin hk ?_ ?_
    · unfold rdE
      rw [rdA_e0 h, if_neg]
      rintro ⟨_, z⟩
      unfold mb at z
      simp at z
    · intro _
      rw [rdA_e0 h]
      exact ⟨rfl, by show (b.length : Int) - (b.length : Int) = 0; omega⟩
  · obtain ⟨z1, z2⟩ := sz_same (t := t) (un := un) (by omega)
    obtain ⟨n, hn⟩ : ∃ n : Nat, szP t = n := ⟨(szP t).toNat, by omega⟩
    have e : rrV b t un = (⟨1, sgn (fxA ⟨b, 0⟩ n) (szP t), 0, ⟨#[]⟩, wh0⟩, fxS ⟨b, 0⟩ n) := by
      unfold rrV
      rw [if_pos h, z1, hn, Int.toNat_natCast]
    obtain ⟨f1, f2⟩ := fx_e (b := b) (n := n) (by omega) (by omega)
    have hE : rdE b t un = (readFixed b (szP t)).2 := by
      unfold rdE
      rw [rdA_e1 h]
      simp only
      rw [if_neg]
      rintro ⟨_, z⟩
      rw [mb1 h (sgn_own z2)] at z
      exact absurd z (by decide)
    rw [e]
    refine rr_fin hk ?_ ?_
    · rw [hE, hn]; exact f1
    · intro h0
      rw [hE, hn] at h0
      obtain ⟨g1, g2, g3⟩ := f2 h0
      rw [rdA_e1 h]
      simp only
      rw [g1, ← hn]
      exact ⟨rfl, by rw [hn]; exact g2⟩
  · exact rr_two hb 2 h (Or.inl rfl)
  · exact rr_two hb 3 h (Or.inr (Or.inl rfl))
  · exact rr_two hb 4 h (Or.inr (Or.inr rfl))
  · have e : rrV b t un = (⟨5, 0, 0, ⟨#[]⟩, (wnR ⟨b, 0⟩ t).1⟩, (wnR ⟨b, 0⟩ t).2) := by unfold rrV; rw [if_neg (by omega), if_neg (by omega), if_pos (by omega), h]
    obtain ⟨w1, w2⟩ := wn_date (b := b) h (kd_time.2 h)
    rw [e]
    refine rr_fin hk w1 fun h0 => ?_
    obtain ⟨w3, w4⟩ := w2 h0
    rw [rdA_e5 h]
    simp only
    rw [w3]
    exact ⟨rfl, w4⟩
  · have e : rrV b t un = (⟨6, 0, 0, ⟨#[]⟩, (wnR ⟨b, 0⟩ t).1⟩, (wnR ⟨b, 0⟩ t).2) := by unfold rrV; rw [if_neg (by omega), if_neg (by omega), if_pos (by omega), h]
    obtain ⟨w1, w2⟩ := wn_time (b := b) h (kd_time.1 h)
    rw [e]
    refine rr_fin hk w1 fun h0 => ?_
    obtain ⟨w3, w4⟩ := w2 h0
    rw [rdA_e6 h]
    simp only
    rw [w3]
    exact ⟨rfl, w4⟩
  · have e : rrV b t un = (⟨7, 0, 0, txA ⟨b, 0⟩, wh0⟩, waS (txS ⟨b, 0⟩) (decide ((txA ⟨b, 0⟩).size ≤ 16777216))) := by unfold rrV; rw [if_neg (by omega), if_neg (by omega), if_neg (by omega), if_pos h]
    have eA : txA ⟨b, 0⟩ = (readText b).1 := rfl
    obtain ⟨X, q, er⟩ : ∃ z, z = readText b := ⟨_, rfl⟩
    have eS : txS ⟨b, 0⟩ = ⟨b.drop (readText b).2.1.toNat, (readText b).2.2⟩ := paS_drop (s := ⟨b, 0⟩) rfl (fun z => readText_e (b := b) rfl z)
    rw [e, eS, eA]
    have hE : rdE b t un = if (readText b).2.2 = 0 ∧ decide ((readText b).1.size ≤ 16777216) = false then 5 else (readText b).2.2 := by
      unfold rdE
      rw [rdA_e7 h]
      simp only
      rw [mb7 h]
    by_cases he : (readText b).2.2 = 0
    · have tl := text_less hb he
      rw [he]
      obtain ⟨f1, f2⟩ := fin_e (l := b.drop (readText b).2.1.toNat) (x := decide ((readText b).1.size ≤ 16777216))
      refine rr_fin hk ?_ ?_
      · rw [f1, hE, he]
        by_cases hs : decide ((readText b).1.size ≤ 16777216) = false
        · rw [if_pos hs, if_pos ⟨rfl, hs⟩]
        · rw [if_neg hs, if_neg (fun z => hs z.2)]
      · intro _
        rw [rdA_e7 h, f2, List.length_drop]
        simp only
        have t1 := tl.1
        have t2 := tl.2.1
        refine ⟨?_, by omega⟩
        first | rfl | trivial
    · rw [wa_er he]
      refine rr_fin hk ?_ ?_
      · rw [hE, if_neg (fun z => he z.1)]
      · intro z
        rw [hE, if_neg (fun z => he z.1)] at z
        exact absurd z he

end Go.Proofs.YtgldbainhncneaaGreatDoor
