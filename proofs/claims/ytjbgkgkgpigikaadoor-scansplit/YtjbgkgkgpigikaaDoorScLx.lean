/-
  Statements cut into words, plain: the words of a text without their places; of texts one behind the other; of the pieces between signs ;. No program and no memory is named here.
-/
import Derived.Test.YtjbgkgkgpigikaaDoorScLoc2
namespace Go.Proofs.YtjbgkgkgpigikaaDoor
set_option linter.unusedVariables false
set_option linter.unusedSimpArgs false

abbrev Ky := Int × ByteArray
/-- A word without its place. -/
def stp (w : Wd) : Ky := (w.k, w.tx)
/-- What a step tells. -/
def one1 (f : Fd) : List Ky := if f.k = 0 then [] else [(f.k, f.tx)]
/-- A text's words, without their places. -/
inductive Lx : Bl → List Ky → Prop
  | nil : Lx [] []
  | step (l : Bl) (ws : List Ky) : l ≠ [] → (nxF l).e = 0 → Lx (l.drop (nxF l).n) ws → Lx l (one1 (nxF l) ++ ws)
theorem lx_nil {ws : List Ky} (h : Lx [] ws) : ws = [] := by
  cases h with
  | nil => rfl
  | step _ _ h1 _ _ => exact absurd rfl h1
theorem lx_one (f : Fd) (i : Nat) : (if f.k = 0 then [] else [(⟨f.k, f.tx, (i : Int)⟩ : Wd)]).map stp = one1 f := by
  unfold one1
  split <;> simp [stp]
theorem wsF_lx : ∀ (m : Nat) (l : Bl) (i : Nat), l.length ≤ m → (wsF m l i).2 = ok0 → Lx l ((wsF m l i).1.map stp)
  | m, [], i, _, h => by rw [wsF_nil]; exact Lx.nil
  | 0, a :: l, i, hl, h => by simp at hl
  | m + 1, a :: l, i, hl, h => by
    by_cases he : (nxF (a :: l)).e = 0
    · by_cases hr : (wsF m ((a :: l).drop (nxF (a :: l)).n) (i + (nxF (a :: l)).n)).2 = ok0
      · have hp := nxF_pos (a :: l) he
        rw [wsF_go m (a :: l) i (by simp) he hr, List.map_append, lx_one]
        exact Lx.step _ _ (by simp) he (wsF_lx m _ _ (by simp at hl ⊢; omega) hr)
      · rw [wsF_bad m (a :: l) i (by simp) he hr] at h
        exact absurd h hr
    · rw [wsF_err m (a :: l) i (by simp) he] at h
      exact absurd h (ft_ne he)
theorem lx_wsF {l : Bl} {ws : List Ky} (h : Lx l ws) : ∀ (m i : Nat), l.length ≤ m → (wsF m l i).2 = ok0 ∧ (wsF m l i).1.map stp = ws := by
  induction h with
  | nil => intro m i _; rw [wsF_nil]; exact ⟨rfl, rfl⟩
  | step l ws h1 he _ ih =>
    intro m i hl
    have hp := nxF_pos l he
    have h2 : 1 ≤ l.length := by
      cases l with
      | nil => exact absurd rfl h1
      | cons a r => simp
    obtain ⟨k, rfl⟩ : ∃ k, m = k + 1 := ⟨m - 1, by omega⟩
    obtain ⟨i1, i2⟩ := ih k (i + (nxF l).n) (by rw [List.length_drop]; omega)
    rw [wsF_go k l i h1 he i1, List.map_append, lx_one, i2]
    exact ⟨rfl, rfl⟩
theorem alW_few {l : Bl} (h : (alW l).2 = ok0) : l.length ≤ 1048576 := by
  by_cases hl : l.length ≤ 1048576
  · exact hl
  · unfold alW at h
    rw [if_pos (by omega)] at h
    exact absurd h (ft_ne (by decide))
theorem alW_ok {l : Bl} (h : (alW l).2 = ok0) : (wsF l.length l 0).2 = ok0 ∧ (alW l).1 = (wsF l.length l 0).1 := by
  have hl := alW_few h
  rw [alW_ws l hl] at h ⊢
  by_cases hr : (wsF l.length l 0).2 = ok0
  · rw [if_pos hr]; exact ⟨hr, rfl⟩
  · rw [if_neg hr] at h; exact absurd h hr
theorem alW_lx {l : Bl} (h : (alW l).2 = ok0) : Lx l ((alW l).1.map stp) := by
  obtain ⟨h1, h2⟩ := alW_ok h
  rw [h2]
  exact wsF_lx _ _ _ (Nat.le_refl _) h1
theorem lx_alW {l : Bl} {ws : List Ky} (hl : l.length ≤ 1048576) (h : Lx l ws) : (alW l).2 = ok0 ∧ (alW l).1.map stp = ws := by
  obtain ⟨h1, h2⟩ := lx_wsF h l.length 0 (Nat.le_refl _)
  rw [alW_ws l hl, if_pos h1]
  exact ⟨rfl, h2⟩
theorem lx_fun {l : Bl} {x y : List Ky} (hx : Lx l x) (hy : Lx l y) : x = y := by
  rw [← (lx_wsF hx l.length 0 (Nat.le_refl _)).2, ← (lx_wsF hy l.length 0 (Nat.le_refl _)).2]
theorem nxF_le (l : Bl) (h : l ≠ []) : (nxF l).n ≤ l.length := (nxF_fits l (by
  cases l with
  | nil => exact absurd rfl h
  | cons a r => simp)).1

/-- Behind a text that does not end in two signs -, a line's end, and what stands behind it. -/
theorem Lx.app10 {a : Bl} {x : List Ky} (h : Lx a x) (r : Bl) (y : List Ky) (hy : Lx (10 :: r) y) : ¬ ([45, 45] : Bl) <:+ a → Lx (a ++ 10 :: r) (x ++ y) := by
  induction h with
  | nil => intro _; exact hy
  | step l ws h1 he _ ih =>
    intro hd
    have e := nxF_loc l 10 r sp2_10 h1 (.inl (fun q => hd (by rw [q]; exact List.suffix_refl _))) (.inl rfl) he
    have ih2 := ih (fun q => hd (q.trans (List.drop_suffix _ _)))
    have hl := nxF_le l h1
    rw [List.append_assoc, ← e]
    refine Lx.step _ _ (by simp) (by rw [e]; exact he) ?_
    rw [e, drop_loc _ _ _ _ hl]
    exact ih2

theorem sg59_1 : sgB [59] = true := by decide
theorem sg59_2 (c : UInt8) : sgB [59, c] = false := by simp [sgB, sgs]
theorem sg59_3 (c d : UInt8) : sgB [59, c, d] = false := by simp [sgB, sgs]
theorem sgZ59 (b : Bl) : sgZ (59 :: b) (min 3 (59 :: b).length) = 1 := by
  rcases b with _ | ⟨c, _ | ⟨d, u⟩⟩
  · rw [show min 3 ([59] : Bl).length = 1 by decide]
    unfold sgZ
    rw [show ([59] : Bl).take (0 + 1) = [59] by rfl, sg59_1]
    rfl
  · rw [show min 3 (59 :: [c]).length = 2 by simp]
    unfold sgZ
    rw [show (59 :: [c]).take (1 + 1) = [59, c] by rfl, sg59_2]
    unfold sgZ
    rw [show (59 :: [c]).take (0 + 1) = [59] by rfl, sg59_1]
    rfl
  · rw [show min 3 (59 :: c :: d :: u).length = 3 by simp only [List.length_cons]; omega]
    unfold sgZ
    rw [show (59 :: c :: d :: u).take (2 + 1) = [59, c, d] by rfl, sg59_3]
    unfold sgZ
    rw [show (59 :: c :: d :: u).take (1 + 1) = [59, c] by rfl, sg59_2]
    unfold sgZ
    rw [show (59 :: c :: d :: u).take (0 + 1) = [59] by rfl, sg59_1]
    rfl
theorem head59 (b : Bl) : nxF (59 :: b) = its 5 [59] := by
  have hD : ah isD (59 :: b) = 0 := ah_stop _ _ (hd_end _ _ _ (by decide) (by decide))
  have hN : ah isN (59 :: b) = 0 := ah_stop _ _ (hd_end _ _ _ (by decide) (by decide))
  have h1 : odF (59 :: b) = nil0 := by simp [odF, opO, pre, List.isPrefixOf]
  have h2 : numF (59 :: b) = nil0 := by
    have e1 : hexZ (59 :: b) = 0 := by simp [hexZ, pre, List.isPrefixOf]
    have e2 : ptZ (59 :: b) = 0 := by unfold ptZ; rw [hD]; simp [pre, List.isPrefixOf]
    have e3 : deZ (59 :: b) = 0 := by unfold deZ; rw [e2]; rfl
    unfold numF nuZ
    rw [e1, e3]
    rfl
  have h3 : naF (59 :: b) = nil0 := by unfold naF; rw [hD, hN]; rfl
  have h4 : qnF (59 :: b) = nil0 := by simp [qnF, has1, Lib.indexByte]
  have h5 : qtF (59 :: b) = nil0 := by simp [qtF, has1, Lib.indexByte]
  have h6 : usF (59 :: b) = nil0 := by simp [usF, pre, List.isPrefixOf]
  have h7 : syF (59 :: b) = nil0 := by simp [syF, pre, List.isPrefixOf]
  have h8 : paF (59 :: b) = nil0 := by simp [paF, has1, Lib.indexByte]
  have hz : sgZ (59 :: b) (min 3 (59 :: b).length) = 1 := sgZ59 b
  have h9 : sgF (59 :: b) = its 5 [59] := by unfold sgF; rw [hz]; simp
  have hg : gaF (59 :: b) = nil0 := by
    have e1 : opL (59 :: b) = false := by simp [opL, pre, List.isPrefixOf]
    have e2 : isB (((59 :: b).headD 0).toNat : Int) = false := by simp only [List.headD_cons]; decide
    unfold gaF
    rw [e1, e2]
    simp [pre, List.isPrefixOf]
  have hc : chF (59 :: b) = its 5 [59] := by
    unfold chF
    rw [h1, h2, h3, h4, h5, h6, h7, h8, h9]
    simp [lgF, nil0, its]
  have e1 : (its 5 [59]).n = 1 := rfl
  unfold nxF
  rw [hg, hc, e1]
  simp [nil0]
theorem head10 (b : Bl) : nxF (10 :: b) = ⟨0, ba [], 1, 0⟩ := by
  have hg : gaF (10 :: b) = ⟨0, ba [], 1, 0⟩ := by
    have e2 : isB (((10 :: b).headD 0).toNat : Int) = true := by simp only [List.headD_cons]; decide
    unfold gaF
    rw [e2]
    rfl
  unfold nxF
  rw [hg]
  simp
theorem Lx.semi {b : Bl} {y : List Ky} (h : Lx b y) : Lx (59 :: b) ((5, ba [59]) :: y) := by
  have := Lx.step (59 :: b) y (by simp) (by rw [head59]; rfl) (by rw [head59]; exact h)
  rw [head59] at this
  exact this
theorem Lx.line {b : Bl} {y : List Ky} (h : Lx b y) : Lx (10 :: b) y := by
  have := Lx.step (10 :: b) y (by simp) (by rw [head10]) (by rw [head10]; exact h)
  rw [head10] at this
  exact this
/-- Two texts, a line's end and a sign ; between. -/
theorem Lx.two {a b : Bl} {x y : List Ky} (hx : Lx a x) (hy : Lx b y) (hd : ¬ ([45, 45] : Bl) <:+ a) : Lx (a ++ 10 :: 59 :: b) (x ++ (5, ba [59]) :: y) := hx.app10 _ _ hy.semi.line hd

/-! ### the pieces -/
theorem lgF_mem : ∀ (fs : List Fd) (b : Fd), lgF b fs = b ∨ lgF b fs ∈ fs
  | [], b => .inl rfl
  | f :: r, b => by
    simp only [lgF]
    split
    · exact .inr (by simp)
    · rcases lgF_mem r (if b.n < f.n then f else b) with h | h
      · rw [h]
        split
        · exact .inr (by simp)
        · exact .inl rfl
      · exact .inr (by simp [h])
theorem quF_k (l : Bl) (k : Int) (es : Bool) : (quF l k es).k = k ∨ (quF l k es).k = 0 := by
  cases l with
  | nil => exact .inr rfl
  | cons q r =>
    simp only [quF]
    cases hx : qt es q r [] 1 with
    | none => exact .inr rfl
    | some x => exact .inl rfl
theorem usB_k (l : Bl) : (usB l).k = 0 ∨ (usB l).k = 1 ∨ (usB l).k = 2 ∨ (usB l).k = 3 := by
  unfold usB
  rcases lgF_mem [naF l, qnF l, qtF l] nil0 with h | h
  · rw [h]; exact .inl rfl
  · simp only [List.mem_cons, List.not_mem_nil, or_false] at h
    rcases h with h | h | h
    · rw [h]; unfold naF; split
      · exact .inl rfl
      · exact .inr (.inl rfl)
    · rw [h]; unfold qnF; split
      · rcases quF_k l 2 false with e | e
        · exact .inr (.inr (.inl e))
        · exact .inl e
      · exact .inl rfl
    · rw [h]; unfold qtF; split
      · rcases quF_k l 3 true with e | e
        · exact .inr (.inr (.inr e))
        · exact .inl e
      · exact .inl rfl
/-- What is a sign is found by the last of the chain. -/
theorem chF_five (l : Bl) (h : (chF l).k = 5) : chF l = sgF l := by
  unfold chF at h ⊢
  rcases lgF_mem [odF l, numF l, naF l, qnF l, qtF l, usF l, syF l, paF l, sgF l] nil0 with e | e
  · rw [e] at h; exact absurd h (by decide)
  · simp only [List.mem_cons, List.not_mem_nil, or_false] at e
    have z0 : ∀ (f : Fd), f.k = 0 → f.k = 5 → False := fun f a b => by rw [a] at b; cases b
    rcases e with e | e | e | e | e | e | e | e | e
    · exfalso
      rw [e] at h
      unfold odF at h
      split at h
      · split at h
        · unfold reF at h
          split at h <;> cases h
        · cases h
      · cases h
    · exfalso; rw [e] at h; unfold numF at h; split at h <;> cases h
    · exfalso; rw [e] at h; unfold naF at h; split at h <;> cases h
    · exfalso
      rw [e] at h
      unfold qnF at h
      split at h
      · rcases quF_k l 2 false with q | q <;> (rw [q] at h; cases h)
      · cases h
    · exfalso
      rw [e] at h
      unfold qtF at h
      split at h
      · rcases quF_k l 3 true with q | q <;> (rw [q] at h; cases h)
      · cases h
    · exfalso
      rw [e] at h
      unfold usF at h
      split at h
      · split at h
        · rcases usB_k (l.drop 1) with q | q | q | q <;> (rw [q] at h; cases h)
        · cases h
      · cases h
    · exfalso
      rw [e] at h
      unfold syF at h
      split at h
      · split at h <;> cases h
      · cases h
    · exfalso; rw [e] at h; unfold paF at h; split at h <;> cases h
    · exact e
theorem reF_k (l : Bl) : (reF l).k = 0 := by unfold reF; split <;> rfl
theorem gaF_k (l : Bl) : (gaF l).k = 0 := by
  unfold gaF
  repeat' split
  all_goals first | rfl | exact reF_k l
theorem nxF_five (l : Bl) (h : (nxF l).k = 5) : nxF l = sgF l := by
  unfold nxF at h ⊢
  split
  · rename_i h1; rw [if_pos h1, gaF_k] at h; cases h
  · rename_i h1
    rw [if_neg h1] at h
    split
    · rename_i h2; rw [if_pos h2] at h; cases h
    · rename_i h2
      rw [if_neg h2] at h
      exact chF_five l h
def isSm (w : Wd) : Bool := decide (w.k = 5) && decide (w.tx = ba [59])
/-- Where a sign ; is read, it stands. -/
theorem nxF_semi (l : Bl) (h : (nxF l).k = 5) (ht : (nxF l).tx = ba [59]) : ∃ r, l = 59 :: r ∧ (nxF l).n = 1 := by
  have e := nxF_five l h
  rw [e] at h ht ⊢
  unfold sgF at h ht ⊢
  by_cases hz : sgZ l (min 3 l.length) = 0
  · rw [if_pos hz] at h; cases h
  · rw [if_neg hz] at ht ⊢
    have h2 : l.take (sgZ l (min 3 l.length)) = [59] := ba_inj ht
    cases l with
    | nil => simp at h2
    | cons a r =>
      obtain ⟨k, hk⟩ : ∃ k, sgZ (a :: r) (min 3 (a :: r).length) = k + 1 := ⟨sgZ (a :: r) (min 3 (a :: r).length) - 1, by omega⟩
      rw [hk] at h2
      rw [hk]
      simp only [List.take_succ_cons, List.cons.injEq] at h2
      refine ⟨r, by rw [h2.1], ?_⟩
      show ((a :: r).take (k + 1)).length = 1
      simp [h2.2]
/-- Up to the first sign ;, or to the end. -/
theorem seg : ∀ (m : Nat) (l : Bl) (i : Nat), l.length ≤ m → (wsF m l i).2 = ok0 →
    ((∀ x ∈ (wsF m l i).1, isSm x = false) ∧ Lx l ((wsF m l i).1.map stp)) ∨
    ∃ (t r : Bl) (p q : List Wd) (k : Nat), (wsF m l i).1 = p ++ ⟨5, ba [59], ((i + t.length : Nat) : Int)⟩ :: q ∧ (∀ x ∈ p, isSm x = false) ∧ l = t ++ 59 :: r ∧ Lx t (p.map stp) ∧ r.length ≤ k ∧ wsF k r (i + t.length + 1) = (q, ok0)
  | m, [], i, _, h => by
    left
    rw [wsF_nil]
    exact ⟨fun x hx => (by cases hx), Lx.nil⟩
  | 0, a :: l, i, hl, h => by simp at hl
  | m + 1, a :: l, i, hl, h => by
    by_cases he : (nxF (a :: l)).e = 0
    · by_cases hr : (wsF m ((a :: l).drop (nxF (a :: l)).n) (i + (nxF (a :: l)).n)).2 = ok0
      · have hp := nxF_pos (a :: l) he
        have hn := nxF_le (a :: l) (by simp)
        have hdl : ((a :: l).drop (nxF (a :: l)).n).length ≤ m := by rw [List.length_drop]; omega
        rw [wsF_go m (a :: l) i (by simp) he hr]
        by_cases hs : (nxF (a :: l)).k = 5 ∧ (nxF (a :: l)).tx = ba [59]
        · right
          obtain ⟨r, h1, h2⟩ := nxF_semi (a :: l) hs.1 hs.2
          rw [h2] at hr hdl ⊢
          rw [hs.1, hs.2]
          have hr' : (a :: l).drop 1 = r := by rw [h1]; rfl
          rw [hr'] at hr hdl ⊢
          refine ⟨[], r, [], (wsF m r (i + 1)).1, m, ?_, fun x hx => (by cases hx), by simpa using h1, Lx.nil, hdl, ?_⟩
          · simp
          · simp only [List.length_nil, Nat.add_zero]
            rw [← hr]
        · have hno : ∀ x ∈ (if (nxF (a :: l)).k = 0 then [] else [(⟨(nxF (a :: l)).k, (nxF (a :: l)).tx, (i : Int)⟩ : Wd)]), isSm x = false := by
            intro x hx
            split at hx
            · cases hx
            · simp only [List.mem_singleton] at hx
              subst hx
              simp only [isSm, Bool.and_eq_false_imp, decide_eq_true_eq, decide_eq_false_iff_not]
              exact fun q1 q2 => hs ⟨q1, q2⟩
          rcases seg m _ _ hdl hr with ⟨i1, i2⟩ | ⟨t, r, p, q, k, i1, i2, i3, i4, i5, i6⟩
          · left
            refine ⟨fun x hx => ?_, ?_⟩
            · rcases List.mem_append.1 hx with hx | hx
              · exact hno x hx
              · exact i1 x hx
            · rw [List.map_append, lx_one]
              exact Lx.step _ _ (by simp) he i2
          · right
            have hl2 : a :: l = ((a :: l).take (nxF (a :: l)).n ++ t) ++ 59 :: r := by
              rw [List.append_assoc, ← i3, List.take_append_drop]
            have hlt : ((a :: l).take (nxF (a :: l)).n ++ t).length = (nxF (a :: l)).n + t.length := by
              rw [List.length_append, List.length_take]
              omega
            have hne : (a :: l).take (nxF (a :: l)).n ++ t ≠ [] := by
              intro q
              have := congrArg List.length q
              rw [hlt] at this
              simp at this
              omega
            generalize hT : (a :: l).take (nxF (a :: l)).n ++ t = T at hl2 hlt hne
            have hcut := nxF_cut T 59 r sp2_59 hne (by decide) (by decide) (by rw [← hl2]; exact he) (by rw [← hl2, hlt]; omega)
            rw [← hl2] at hcut
            have hTd : T.drop (nxF T).n = t := by
              rw [hcut, ← hT]
              exact List.drop_left' (by rw [List.length_take]; omega)
            refine ⟨T, r, (if (nxF (a :: l)).k = 0 then [] else [(⟨(nxF (a :: l)).k, (nxF (a :: l)).tx, (i : Int)⟩ : Wd)]) ++ p, q, k, ?_, ?_, hl2, ?_, i5, ?_⟩
            · rw [i1, List.append_assoc]
              rw [show i + (nxF (a :: l)).n + t.length = i + T.length by rw [hlt]; omega]
            · intro x hx
              rcases List.mem_append.1 hx with hx | hx
              · exact hno x hx
              · exact i2 x hx
            · rw [List.map_append, lx_one, ← hcut]
              exact Lx.step _ _ hne (by rw [hcut]; exact he) (by rw [hTd]; exact i4)
            · rw [show i + T.length + 1 = i + (nxF (a :: l)).n + t.length + 1 by rw [hlt]; omega]
              exact i6
      · rw [wsF_bad m (a :: l) i (by simp) he hr] at h
        exact absurd h hr
    · rw [wsF_err m (a :: l) i (by simp) he] at h
      exact absurd h (ft_ne he)
theorem isSm_iff (w : Wd) : isSm w = true ↔ w.k = 5 ∧ w.tx = ba [59] := by simp [isSm]
theorem spF_pre (s : Bl) (rest : List Wd) (f : Nat) (ps : List ByteArray) : ∀ (p : List Wd) (n : Nat), (∀ x ∈ p, isSm x = false) → spF s (p ++ rest) f n ps = spF s rest f (n + p.length) ps
  | [], n, _ => rfl
  | x :: p, n, h => by
    have hx : ¬ (x.k = 5 ∧ x.tx = ba [59]) := by
      rw [← isSm_iff, h x (by simp)]
      simp
    rw [List.cons_append]
    simp only [spF]
    rw [if_neg hx, spF_pre s rest f ps p (n + 1) (fun y hy => h y (by simp [hy]))]
    congr 1
    simp only [List.length_cons]
    omega
/-- Pieces, and the words of each. -/
inductive Pcs : List ByteArray → List (List Ky) → Prop
  | nil : Pcs [] []
  | cons (p : ByteArray) (g : List Ky) (ps : List ByteArray) (gs : List (List Ky)) : Lx (bl p) g → g ≠ [] → Pcs ps gs → Pcs (p :: ps) (g :: gs)
def noSm (ws : List Wd) : List Ky := (ws.filter (fun x => !isSm x)).map stp
theorem noSm_all {p : List Wd} (h : ∀ x ∈ p, isSm x = false) : noSm p = p.map stp := by
  unfold noSm
  rw [List.filter_eq_self.2 (fun x hx => by rw [h x hx]; rfl)]
theorem spF_pcs (s : Bl) : ∀ (N m : Nat) (f : Nat) (ps : List ByteArray), (s.drop f).length ≤ N → f ≤ s.length → (s.drop f).length ≤ m → (wsF m (s.drop f) f).2 = ok0 →
    ∃ P gs, spF s (wsF m (s.drop f) f).1 f 0 ps = ps ++ P ∧ Pcs P gs ∧ gs.flatten = noSm (wsF m (s.drop f) f).1
  | N, m, f, ps, hN, hf, hm, h => by
    rcases seg m _ f hm h with ⟨i1, i2⟩ | ⟨t, r, p, q, k, i1, i2, i3, i4, i5, i6⟩
    · have e := spF_pre s [] f ps (wsF m (s.drop f) f).1 0 i1
      rw [List.append_nil, Nat.zero_add] at e
      rw [e]
      simp only [spF]
      rw [List.take_of_length_le (by rw [List.length_drop]; exact Nat.le_refl _)]
      by_cases hw : (wsF m (s.drop f) f).1 = []
      · refine ⟨[], [], ?_, Pcs.nil, ?_⟩
        · rw [hw]; simp
        · rw [hw]; rfl
      · have h0 : 0 < (wsF m (s.drop f) f).1.length := List.length_pos_iff.2 hw
        refine ⟨[ba (s.drop f)], [(wsF m (s.drop f) f).1.map stp], ?_, Pcs.cons _ _ _ _ i2 (by simpa using hw) Pcs.nil, ?_⟩
        · rw [if_pos h0]
        · rw [noSm_all i1]; simp
    · match N, hN with
      | 0, hN => rw [i3] at hN; simp at hN
      | N + 1, hN =>
        have hlen : t.length + 1 + r.length = s.length - f := by
          have := congrArg List.length i3
          rw [List.length_drop, List.length_append, List.length_cons] at this
          omega
        have hr : s.drop (f + t.length + 1) = r := by
          have : s.drop (f + t.length + 1) = (s.drop f).drop (t.length + 1) := by rw [List.drop_drop, Nat.add_assoc]
          rw [this, i3, show t.length + 1 = t.length + 1 from rfl, ← List.drop_drop, List.drop_left]
          rfl
        have e := spF_pre s (⟨5, ba [59], ((f + t.length : Nat) : Int)⟩ :: q) f ps p 0 i2
        rw [Nat.zero_add] at e
        rw [i1, e]
        simp only [spF, and_self, if_true, Int.toNat_natCast]
        have ht : (s.drop f).take (f + t.length - f) = t := by
          rw [i3, show f + t.length - f = t.length by omega, List.take_left]
        rw [ht]
        obtain ⟨P, gs, j1, j2, j3⟩ := spF_pcs s N k (f + t.length + 1) (if 0 < p.length then ps ++ [ba t] else ps) (by rw [hr]; rw [List.length_drop] at hN; omega) (by omega) (by rw [hr]; exact i5) (by rw [hr, i6])
        rw [hr, i6] at j1 j3
        simp only at j1 j3
        rw [j1]
        have hf2 : noSm (p ++ ⟨5, ba [59], ((f + t.length : Nat) : Int)⟩ :: q) = p.map stp ++ noSm q := by
          rw [← noSm_all i2]
          unfold noSm
          rw [List.filter_append, List.map_append, List.filter_cons_of_neg (by simp [isSm])]
        rw [hf2]
        by_cases hp : p = []
        · subst hp
          refine ⟨P, gs, ?_, j2, ?_⟩
          · simp
          · rw [j3]; rfl
        · have h0 : 0 < p.length := List.length_pos_iff.2 hp
          refine ⟨ba t :: P, p.map stp :: gs, ?_, Pcs.cons _ _ _ _ i4 (by simpa using hp) j2, ?_⟩
          · rw [if_pos h0, List.append_assoc]; rfl
          · rw [List.flatten_cons, j3]
theorem spW_pcs (s : Bl) (h : (alW s).2 = ok0) : (spW s).2 = ok0 ∧ ∃ gs, Pcs (spW s).1 gs ∧ gs.flatten = noSm (alW s).1 := by
  obtain ⟨h1, h2⟩ := alW_ok h
  have h' : (alW s).2 = ⟨0, 0⟩ := h
  obtain ⟨P, gs, j1, j2, j3⟩ := spF_pcs s s.length s.length 0 [] (by simp) (Nat.zero_le _) (by simp) (by rw [List.drop_zero]; exact h1)
  rw [List.drop_zero] at j1 j3
  unfold spW
  rw [if_pos h', h2, j1]
  exact ⟨rfl, gs, j2, j3⟩
theorem spW_bad (s : Bl) (h : (alW s).2 ≠ ok0) : spW s = ([], (alW s).2) := by
  have h' : ¬ (alW s).2 = ⟨0, 0⟩ := h
  unfold spW
  rw [if_neg h']

end Go.Proofs.YtjbgkgkgpigikaaDoor
