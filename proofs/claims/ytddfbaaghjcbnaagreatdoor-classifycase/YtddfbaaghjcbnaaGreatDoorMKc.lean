/-
  Runes that belong, plain: of the bytes that were read alone, and of the same bytes with their letters' case told otherwise. No program and no memory is named here.
  A row of bytes that is made great in place, letter for letter: what it is while j of them are done. Conditions: the text is not greater than a program's memory.
-/
import Derived.Test.YtddfbaaghjcbnaaGreatDoorMLoc
import Derived.Test.YtddfbaaghjcbnaaGreatDoorMPl
import Derived.Test.YtddfbaaghjcbnaaGreatDoorMOf
import Derived.Test.YtddfbaaghjcbnaaGreatDoorScLow
import Derived.Test.YtddfbaaghjcbnaaGreatDoorKlMem
import Derived.Lib.AppendStr
namespace Go.Proofs.YtddfbaaghjcbnaaGreatDoor
set_option linter.unusedVariables false
set_option linter.unusedSimpArgs false

theorem k_lwB_twice : ∀ c : UInt8, lwB (lwB c) = lwB c := by
  have h : ∀ k : Fin 256, lwB (lwB (UInt8.ofNat k.val)) = lwB (UInt8.ofNat k.val) := by decide +kernel
  intro c
  have := h ⟨c.toNat, c.toNat_lt⟩
  simpa using this
theorem k_low_twice (l : Bl) : low (low l) = low l := by
  unfold low
  rw [List.map_map]
  apply List.map_congr_left
  intro c _
  exact k_lwB_twice c
theorem k_low_len (l : Bl) : (low l).length = l.length := by simp [low]
theorem k_btw_op (c : UInt8) (x : Bl) (h : c = 96 ∨ c = 39) : opL (btw c x) = false := by rcases h with rfl | rfl <;> simp [opL, btw, pre, List.isPrefixOf]

theorem k_btw_ne (c : UInt8) (x : Bl) : btw c x ≠ [] := by simp [btw]

/-- A change of bytes that keeps what are ASCII and what are not. -/
structure Cs (f : UInt8 → UInt8) : Prop where
  big : ∀ c : UInt8, 128 ≤ c.toNat → f c = c
  asc : ∀ c : UInt8, c.toNat < 128 → (f c).toNat < 128
/-- A class of runes that such a change keeps. -/
def Kps (f : UInt8 → UInt8) (p : Int → Bool) : Prop := ∀ c : UInt8, c.toNat < 128 → p ((f c).toNat : Int) = p (c.toNat : Int)

theorem cont_f {f : UInt8 → UInt8} (hf : Cs f) (c : UInt8) : (f c).toNat = c.toNat ∨ ((f c).toNat / 64 ≠ 2 ∧ c.toNat / 64 ≠ 2) := by
  by_cases h : c.toNat < 128
  · have := hf.asc c h
    exact .inr ⟨by omega, by omega⟩
  · exact .inl (by rw [hf.big c (by omega)])
theorem decN_f (n b0 b1 b2 b3 c1 c2 c3 : Nat) (h1 : c1 = b1 ∨ (c1 / 64 ≠ 2 ∧ b1 / 64 ≠ 2)) (h2 : c2 = b2 ∨ (c2 / 64 ≠ 2 ∧ b2 / 64 ≠ 2)) (h3 : c3 = b3 ∨ (c3 / 64 ≠ 2 ∧ b3 / 64 ≠ 2)) : Lib.decodeN n b0 c1 c2 c3 = Lib.decodeN n b0 b1 b2 b3 := by
  rcases h1 with rfl | ⟨h1, h1'⟩
  · rcases h2 with rfl | ⟨h2, h2'⟩
    · rcases h3 with rfl | ⟨h3, h3'⟩
      · rfl
      · unfold Lib.decodeN; simp [h3, h3']
    · unfold Lib.decodeN; simp [h2, h2']
  · unfold Lib.decodeN; simp [h1, h1']
theorem getD_map (f : UInt8 → UInt8) (l : Bl) (k : Nat) (h : k < l.length) : (l.map f).getD k 0 = f (l.getD k 0) := by
  simp [List.getD, List.getElem?_map, List.getElem?_eq_getElem h]
theorem getD_f {f : UInt8 → UInt8} (hf : Cs f) (l : Bl) (k : Nat) : ((l.map f).getD k 0).toNat = (l.getD k 0).toNat ∨ (((l.map f).getD k 0).toNat / 64 ≠ 2 ∧ (l.getD k 0).toNat / 64 ≠ 2) := by
  by_cases h : k < l.length
  · rw [getD_map f l k h]
    exact cont_f hf _
  · left
    simp [List.getD, List.getElem?_eq_none (show l.length ≤ k by omega)]
theorem hd_asc (p : Int → Bool) (c : UInt8) (r : Bl) (hc : c.toNat < 128) : hd p (c :: r) = if p (c.toNat : Int) = true then 1 else 0 := by
  unfold hd
  rw [if_neg (by simp), Lib.decodeL_ascii _ _ hc]
  have e2 : ¬ c.toNat = 65533 := by omega
  simp [e2]
theorem hd_map {f : UInt8 → UInt8} {p : Int → Bool} (hf : Cs f) (hp : Kps f p) (l : Bl) : hd p (l.map f) = hd p l := by
  cases l with
  | nil => rfl
  | cons c r =>
    by_cases hc : c.toNat < 128
    · rw [List.map_cons, hd_asc p _ _ (hf.asc c hc), hd_asc p _ _ hc, hp c hc]
    · have e : Lib.decodeL ((c :: r).map f) = Lib.decodeL (c :: r) := by
        rw [Lib.decodeL_N, Lib.decodeL_N, List.length_map]
        have e0 : (((c :: r).map f).getD 0 0) = (c :: r).getD 0 0 := by
          simp [hf.big c (by omega)]
        rw [e0]
        exact decN_f _ _ _ _ _ _ _ _ (getD_f hf _ 1) (getD_f hf _ 2) (getD_f hf _ 3)
      unfold hd
      rw [e]
      simp
theorem ah_map {f : UInt8 → UInt8} {p : Int → Bool} (hf : Cs f) (hp : Kps f p) : ∀ (n : Nat) (l : Bl), l.length ≤ n → ah p (l.map f) = ah p l
  | n, [], _ => rfl
  | 0, a :: l, h => by simp at h
  | n + 1, a :: l, h => by
    have e := hd_map hf hp (a :: l)
    by_cases hz : hd p (a :: l) = 0
    · rw [ah_stop p _ hz, ah_stop p _ (by rw [e, hz])]
    · rw [ah_step p _ hz, ah_step p _ (by rw [e]; exact hz), e, ← List.map_drop, ah_map hf hp n _ (by simp at h ⊢; omega)]
theorem decN_more (n m b0 b1 b2 b3 c1 c2 c3 k : Nat) (hk : (Lib.decodeN n b0 b1 b2 b3).2 = k) (hm : k ≤ m) (hne : ¬ ((Lib.decodeN n b0 b1 b2 b3).1 = 65533 ∧ (Lib.decodeN n b0 b1 b2 b3).2 = 1)) (h1 : 1 < k → c1 = b1) (h2 : 2 < k → c2 = b2) (h3 : 3 < k → c3 = b3) : Lib.decodeN m b0 c1 c2 c3 = Lib.decodeN n b0 b1 b2 b3 := by
  rcases Lib.decodeN_shape n b0 b1 b2 b3 with ⟨q1, e⟩ | ⟨q1, q2, q3, q4, e⟩ | ⟨q1, q2, q3, q4, q5, q6, e⟩ | ⟨q1, q2, q3, q4, q5, q6, q7, e⟩ | e
  · rw [e]
    unfold Lib.decodeN
    rw [if_pos q1]
  · rw [e] at hk ⊢
    simp only at hk
    subst hk
    rw [h1 (by omega)]
    unfold Lib.decodeN
    rw [if_neg (by omega), if_pos ⟨q1, by omega, q3⟩, if_pos (by omega)]
  · rw [e] at hk ⊢
    simp only at hk
    subst hk
    rw [h1 (by omega), h2 (by omega)]
    unfold Lib.decodeN
    rw [if_neg (by omega), if_neg (by omega), if_pos ⟨q1, ⟨by omega, q3⟩, by omega, q4⟩, if_pos (by omega)]
  · rw [e] at hk ⊢
    simp only at hk
    subst hk
    rw [h1 (by omega), h2 (by omega), h3 (by omega)]
    unfold Lib.decodeN
    rw [if_neg (by omega), if_neg (by omega), if_neg (by omega), if_pos ⟨q1, ⟨by omega, q3⟩, ⟨by omega, q4⟩, by omega, q5⟩, if_pos (by omega)]
  · rw [e] at hne
    exact absurd ⟨rfl, rfl⟩ hne
theorem getD_take (l : Bl) (m k : Nat) (h : k < m) : (l.take m).getD k 0 = l.getD k 0 := by
  simp [List.getD, List.getElem?_take, h]
theorem hd_take (p : Int → Bool) (l : Bl) (m : Nat) (h : hd p l ≤ m) (hz : hd p l ≠ 0) : hd p (l.take m) = hd p l := by
  have hl : l ≠ [] := fun e => hz (by rw [e]; rfl)
  have h0 : l.take m ≠ [] := by
    intro e
    have := congrArg List.length e
    rw [List.length_take] at this
    have h1 := List.length_pos_iff.2 hl
    rw [List.length_nil] at this
    omega
  have hd0 : hd p l = (Lib.decodeL l).2 ∧ ¬ ((Lib.decodeL l).1 = 65533 ∧ (Lib.decodeL l).2 = 1) := by
    unfold hd at hz ⊢
    rw [if_neg hl] at hz ⊢
    by_cases q : p (Lib.decodeL l).1 = true ∧ ¬ ((Lib.decodeL l).1 = 65533 ∧ (Lib.decodeL l).2 = 1)
    · rw [if_pos q]
      exact ⟨rfl, q.2⟩
    · rw [if_neg q] at hz
      exact absurd rfl hz
  have e : Lib.decodeL (l.take m) = Lib.decodeL l := by
    have hle := Lib.decodeL_le l hl
    rw [hd0.1] at h hz
    obtain ⟨_, h5⟩ := hd0
    rw [Lib.decodeL_N l] at h hz h5 hle ⊢
    rw [Lib.decodeL_N, getD_take l m 0 (by omega)]
    refine decN_more _ _ _ _ _ _ _ _ _ _ rfl (by rw [List.length_take]; omega) h5 (fun q => ?_) (fun q => ?_) (fun q => ?_)
    · rw [getD_take l m 1 (by omega)]
    · rw [getD_take l m 2 (by omega)]
    · rw [getD_take l m 3 (by omega)]
  unfold hd
  rw [e, if_neg hl, if_neg h0]
/-- What was read, read alone. -/
theorem ah_take (p : Int → Bool) : ∀ (n : Nat) (l : Bl), l.length ≤ n → ah p (l.take (ah p l)) = ah p l
  | n, [], _ => rfl
  | 0, a :: l, h => by simp at h
  | n + 1, a :: l, h => by
    by_cases hz : hd p (a :: l) = 0
    · rw [ah_stop p _ hz]; rfl
    · have hl := hd_le p (a :: l)
      have ih := ah_take p n ((a :: l).drop (hd p (a :: l))) (by simp at h ⊢; omega)
      have e1 := ah_step p _ hz
      have e2 := hd_take p (a :: l) (ah p (a :: l)) (by omega) hz
      rw [ah_step p _ (by rw [e2]; exact hz), e2, List.drop_take, show ah p (a :: l) - hd p (a :: l) = ah p ((a :: l).drop (hd p (a :: l))) by omega, ih]
      omega
theorem ah_own (p : Int → Bool) (l : Bl) : ah p (l.take (ah p l)) = (l.take (ah p l)).length := by
  rw [ah_take p _ l (Nat.le_refl _), List.length_take]
  have := ah_le p l
  omega

/-- a to z as A to Z. -/
def upB (c : UInt8) : UInt8 := if 97 ≤ c.toNat ∧ c.toNat ≤ 122 then c - 32 else c
def upp (l : Bl) : Bl := l.map upB
theorem all256 (q : UInt8 → Bool) (h : ∀ k : Fin 256, q (UInt8.ofNat k.val) = true) : ∀ c : UInt8, q c = true := by
  intro c
  have := h ⟨c.toNat, c.toNat_lt⟩
  simpa using this
theorem cs_low : Cs lwB := by
  refine ⟨fun c h => ?_, fun c h => ?_⟩
  · have := all256 (fun c => decide (128 ≤ c.toNat → lwB c = c)) (by decide +kernel) c
    exact (of_decide_eq_true this) h
  · have := all256 (fun c => decide (c.toNat < 128 → (lwB c).toNat < 128)) (by decide +kernel) c
    exact (of_decide_eq_true this) h
theorem cs_up : Cs (fun c => upB (lwB c)) := by
  refine ⟨fun c h => ?_, fun c h => ?_⟩
  · have := all256 (fun c => decide (128 ≤ c.toNat → upB (lwB c) = c)) (by decide +kernel) c
    exact (of_decide_eq_true this) h
  · have := all256 (fun c => decide (c.toNat < 128 → (upB (lwB c)).toNat < 128)) (by decide +kernel) c
    exact (of_decide_eq_true this) h
theorem kps_lowS : Kps lwB isS := by
  intro c h
  have := all256 (fun c => decide (isS ((lwB c).toNat : Int) = isS (c.toNat : Int))) (by decide +kernel) c
  exact of_decide_eq_true this
theorem kps_upN : Kps (fun c => upB (lwB c)) isN := by
  intro c h
  have := all256 (fun c => decide (isN ((upB (lwB c)).toNat : Int) = isN (c.toNat : Int))) (by decide +kernel) c
  exact of_decide_eq_true this
theorem kps_upD : Kps (fun c => upB (lwB c)) isD := by
  intro c h
  have := all256 (fun c => decide (isD ((upB (lwB c)).toNat : Int) = isD (c.toNat : Int))) (by decide +kernel) c
  exact of_decide_eq_true this
theorem low_up (l : Bl) : low (upp (low l)) = low l := by
  unfold low upp
  rw [List.map_map, List.map_map]
  apply List.map_congr_left
  intro c _
  have := all256 (fun c => decide (lwB (upB (lwB c)) = lwB c)) (by decide +kernel) c
  exact of_decide_eq_true this
theorem upp_low (l : Bl) : upp (low l) = l.map (fun c => upB (lwB c)) := by
  unfold low upp
  rw [List.map_map]
  rfl

/-! ### a word's own text: which is picked -/
theorem lgF_keep : ∀ (fs : List Fd) (b : Fd), (∀ f ∈ fs, f.e = 0 ∧ f.n ≤ b.n) → lgF b fs = b
  | [], b, _ => rfl
  | f :: r, b, h => by
    obtain ⟨h1, h2⟩ := h f (by simp)
    simp only [lgF, h1]
    rw [if_neg (by simp), if_neg (by omega)]
    exact lgF_keep r b (fun g hg => h g (by simp [hg]))
theorem lgF_pick (g : Fd) (hg : g.e = 0) (post : List Fd) (h2 : ∀ f ∈ post, f.e = 0 ∧ f.n ≤ g.n) : ∀ (pr : List Fd) (b : Fd), b.n < g.n → (∀ f ∈ pr, f.e = 0 ∧ f.n < g.n) → lgF b (pr ++ g :: post) = g
  | [], b, hb, _ => by
    rw [List.nil_append]
    simp only [lgF, hg]
    rw [if_neg (by simp), if_pos hb]
    exact lgF_keep post g h2
  | f :: r, b, hb, h1 => by
    obtain ⟨h3, h4⟩ := h1 f (by simp)
    rw [List.cons_append]
    simp only [lgF, h3]
    rw [if_neg (by simp)]
    refine lgF_pick g hg post h2 r _ ?_ (fun x hx => h1 x (by simp [hx]))
    split <;> assumption
theorem numF_e (l : Bl) : (numF l).e = 0 := by unfold numF; split <;> rfl
theorem naF_e (l : Bl) : (naF l).e = 0 := by unfold naF; split <;> rfl
theorem syF_e (l : Bl) : (syF l).e = 0 := by unfold syF; repeat' split
                                             all_goals rfl
theorem paF_e (l : Bl) : (paF l).e = 0 := by unfold paF; split <;> rfl
theorem sgF_e (l : Bl) : (sgF l).e = 0 := by unfold sgF; split <;> rfl
theorem od_no (c : UInt8) (u : Bl) (h : c ≠ 47) : odF (c :: u) = nil0 := by
  have h' := Ne.symm h
  simp [odF, opO, pre, List.isPrefixOf, h']
theorem qn_no (c : UInt8) (u : Bl) (h : c ≠ 96) : qnF (c :: u) = nil0 := by
  have h' := Ne.symm h
  simp [qnF, has1, Lib.indexByte, h']
theorem qt_no (c : UInt8) (u : Bl) (h : c ≠ 39) (h2 : c ≠ 34) : qtF (c :: u) = nil0 := by
  have h' := Ne.symm h
  have h2' := Ne.symm h2
  simp [qtF, has1, Lib.indexByte, h', h2']
theorem us_no (c : UInt8) (u : Bl) (h : c ≠ 64) : usF (c :: u) = nil0 := by
  have h' := Ne.symm h
  simp [usF, pre, List.isPrefixOf, h']
theorem sy_no (c : UInt8) (u : Bl) (h : c ≠ 64) : syF (c :: u) = nil0 := by
  have h' := Ne.symm h
  simp [syF, pre, List.isPrefixOf, h']
theorem e0n (N : Nat) (hN : 0 < N) : nil0.e = 0 ∧ nil0.n < N := ⟨rfl, hN⟩
theorem e0m (N : Nat) : nil0.e = 0 ∧ nil0.n ≤ N := ⟨rfl, Nat.zero_le _⟩
theorem na_no (c : UInt8) (u : Bl) (hc : c.toNat < 128) (h : isN (c.toNat : Int) = false) : naF (c :: u) = nil0 := by
  have hd : isD (c.toNat : Int) = false := by
    cases h2 : isD (c.toNat : Int) with
    | false => rfl
    | true => simp [isN, h2] at h
  have e1 : ah isN (c :: u) = 0 := ah_stop _ _ (by rw [hd_asc _ _ _ hc, h]; rfl)
  have e2 : ah isD (c :: u) = 0 := ah_stop _ _ (by rw [hd_asc _ _ _ hc, hd]; rfl)
  unfold naF
  rw [e1, e2]
  rfl
theorem num_no (c : UInt8) (u : Bl) (hc : c.toNat < 128) (h : isD (c.toNat : Int) = false) (h46 : c ≠ 46) : numF (c :: u) = nil0 := by
  have e2 : ah isD (c :: u) = 0 := ah_stop _ _ (by rw [hd_asc _ _ _ hc, h]; rfl)
  have h48 : c ≠ 48 := by intro e; subst e; revert h; decide
  have q1 := Ne.symm h46
  have q2 := Ne.symm h48
  have z1 : hexZ (c :: u) = 0 := by simp [hexZ, pre, List.isPrefixOf, q2]
  have z2 : ptZ (c :: u) = 0 := by unfold ptZ; rw [e2]; simp [pre, List.isPrefixOf, q1]
  have z3 : deZ (c :: u) = 0 := by unfold deZ; rw [z2]; rfl
  unfold numF nuZ
  rw [z1, z3]
  rfl
theorem nx_ch (c : UInt8) (u : Bl) (g : Fd) (h : chF (c :: u) = g) (hn : 0 < g.n) (hb : isB (c.toNat : Int) = false) (ho : opL (c :: u) = false) (hr : (pre [47, 42] (c :: u) && !opO (c :: u)) = false) : nxF (c :: u) = g := by
  have hg : gaF (c :: u) = nil0 := by
    unfold gaF
    rw [ho, hr]
    simp only [List.headD_cons, hb]
    rfl
  unfold nxF
  rw [hg, if_neg (by simp [nil0]), h, if_neg (by omega)]
theorem opL_no (c : UInt8) (u : Bl) (h : c ≠ 35) (h2 : c ≠ 45) : opL (c :: u) = false := by
  have h2' := Ne.symm h2
  simp [opL, pre, List.isPrefixOf, h, h2']
theorem re_no (c : UInt8) (u : Bl) (h : c ≠ 47) : (pre [47, 42] (c :: u) && !opO (c :: u)) = false := by
  have h' := Ne.symm h
  simp [pre, List.isPrefixOf, h']
/-- A user variable, told. -/
theorem nx_user (x : Bl) (hx : low x = x) : nxF (64 :: btw 96 x) = ⟨6, ba x, (64 :: btw 96 x).length, 0⟩ := by
  have hs : 1 ≤ (btw 96 x).length := by simp [btw]
  have e : usB (btw 96 x) = ⟨2, ba x, (btw 96 x).length, 0⟩ := by
    obtain ⟨h1, h2, h3, h6, h7, h8, h9⟩ := rest_quote 96 (dbl 96 x ++ [96]) (.inl rfl)
    have h4 : qnF (96 :: (dbl 96 x ++ [96])) = ⟨2, ba x, (btw 96 x).length, 0⟩ := by
      have e : has1 (96 :: (dbl 96 x ++ [96])) [96] = true := by simp [has1, Lib.indexByte]
      unfold qnF quF
      rw [e]
      simp only [if_true, qt_dbl]
      simp [btw]
      omega
    have h5 : qtF (96 :: (dbl 96 x ++ [96])) = nil0 := qt_no _ _ (by decide) (by decide)
    show usB (96 :: (dbl 96 x ++ [96])) = _
    unfold usB
    rw [h3, h4, h5]
    have hn : 0 < (btw 96 x).length := by omega
    simp [lgF, nil0, hn]
  have eu : usF (64 :: btw 96 x) = ⟨6, ba x, (64 :: btw 96 x).length, 0⟩ := by
    unfold usF
    rw [show ((64 :: btw 96 x : Bl).drop 1) = btw 96 x from rfl, e]
    rw [if_pos (by simp [pre, List.isPrefixOf]), if_neg (by simp only; omega)]
    simp only [bl_ba, hx, List.length_cons]
  refine nx_ch 64 _ _ ?_ (by simp) (by decide) (opL_no _ _ (by decide) (by decide)) (re_no _ _ (by decide))
  unfold chF
  rw [eu, od_no _ _ (by decide), num_no _ _ (by decide) (by decide) (by decide), na_no _ _ (by decide) (by decide), qn_no _ _ (by decide), qt_no _ _ (by decide) (by decide)]
  refine lgF_pick _ rfl [syF _, paF _, sgF _] ?_ [nil0, nil0, nil0, nil0, nil0] nil0 (by simp [nil0]) ?_
  · intro f hf
    simp only [List.mem_cons, List.not_mem_nil, or_false] at hf
    rcases hf with rfl | rfl | rfl
    · exact ⟨syF_e _, (syF_fits _).1⟩
    · exact ⟨paF_e _, (paF_fits _).1⟩
    · exact ⟨sgF_e _, (sgF_fits _).1⟩
  · intro f hf
    simp only [List.mem_cons, List.not_mem_nil, or_false, or_self] at hf
    subst hf
    exact e0n _ (by simp)
/-- A system variable, told. -/
theorem nx_sys (x : Bl) (hx : low x = x) (ha : ah isS x = x.length) (h0 : x ≠ []) : nxF (64 :: 64 :: x) = ⟨7, ba x, (64 :: 64 :: x).length, 0⟩ := by
  have h1 : 1 ≤ x.length := List.length_pos_iff.2 h0
  have eu : usF (64 :: 64 :: x) = nil0 := by
    have e : usB (64 :: x) = nil0 := by
      unfold usB
      rw [na_no _ _ (by decide) (by decide), qn_no _ _ (by decide), qt_no _ _ (by decide) (by decide)]
      rfl
    unfold usF
    rw [show ((64 :: 64 :: x : Bl).drop 1) = 64 :: x from rfl, e]
    simp [nil0]
  have es : syF (64 :: 64 :: x) = ⟨7, ba x, (64 :: 64 :: x).length, 0⟩ := by
    unfold syF
    rw [show ((64 :: 64 :: x : Bl).drop 2) = x from rfl, ha]
    rw [if_pos (by simp [pre, List.isPrefixOf]), if_neg (by omega), List.take_length, hx]
    simp
  refine nx_ch 64 _ _ ?_ (by simp) (by decide) (opL_no _ _ (by decide) (by decide)) (re_no _ _ (by decide))
  unfold chF
  rw [eu, es, od_no _ _ (by decide), num_no _ _ (by decide) (by decide) (by decide), na_no _ _ (by decide) (by decide), qn_no _ _ (by decide), qt_no _ _ (by decide) (by decide)]
  refine lgF_pick _ rfl [paF _, sgF _] ?_ [nil0, nil0, nil0, nil0, nil0, nil0] nil0 (by simp [nil0]) ?_
  · intro f hf
    simp only [List.mem_cons, List.not_mem_nil, or_false] at hf
    rcases hf with rfl | rfl
    · exact ⟨paF_e _, (paF_fits _).1⟩
    · exact ⟨sgF_e _, (sgF_fits _).1⟩
  · intro f hf
    simp only [List.mem_cons, List.not_mem_nil, or_false, or_self] at hf
    subst hf
    exact e0n _ (by simp)
theorem nx_par : nxF [63] = ⟨8, ba [], 1, 0⟩ := by decide +kernel
theorem nx_sgn : ∀ s ∈ sgs, nxF s = ⟨5, ba s, s.length, 0⟩ := by decide +kernel
theorem sgn_ok : ∀ s ∈ sgs, s ≠ [] ∧ s ≠ [45, 45] ∧ opL s = false := by decide +kernel
/-- A word by its own text, in bytes that a number has. -/
theorem nx_num (c : UInt8) (u : Bl) (hc : c.toNat < 128) (hq : isD (c.toNat : Int) = true ∨ c = 46) (h : numF (c :: u) = its 4 (c :: u)) : nxF (c :: u) = its 4 (c :: u) := by
  have hb : c ≠ 47 ∧ c ≠ 96 ∧ c ≠ 39 ∧ c ≠ 34 ∧ c ≠ 64 ∧ c ≠ 35 ∧ c ≠ 45 ∧ isB (c.toNat : Int) = false := by
    have := all256 (fun c => decide (isD (c.toNat : Int) = true ∨ c = 46 → c ≠ 47 ∧ c ≠ 96 ∧ c ≠ 39 ∧ c ≠ 34 ∧ c ≠ 64 ∧ c ≠ 35 ∧ c ≠ 45 ∧ isB (c.toNat : Int) = false)) (by decide +kernel) c
    exact (of_decide_eq_true this) hq
  obtain ⟨b1, b2, b3, b4, b5, b6, b7, b8⟩ := hb
  refine nx_ch c _ _ ?_ (by simp [its]) b8 (opL_no _ _ b6 b7) (re_no _ _ b1)
  unfold chF
  rw [h, od_no _ _ b1, qn_no _ _ b2, qt_no _ _ b3 b4, us_no _ _ b5, sy_no _ _ b5]
  refine lgF_pick _ rfl [naF _, nil0, nil0, nil0, nil0, paF _, sgF _] ?_ [nil0] nil0 (by simp [nil0, its]) ?_
  · intro f hf
    simp only [List.mem_cons, List.not_mem_nil, or_false] at hf
    rcases hf with rfl | rfl | rfl | rfl | rfl | rfl | rfl
    · exact ⟨naF_e _, (naF_fits _).1⟩
    · exact e0m _
    · exact e0m _
    · exact e0m _
    · exact e0m _
    · exact ⟨paF_e _, (paF_fits _).1⟩
    · exact ⟨sgF_e _, (sgF_fits _).1⟩
  · intro f hf
    simp only [List.mem_cons, List.not_mem_nil, or_false, or_self] at hf
    subst hf
    exact e0n _ (by simp [its])

/-! ### digits -/
/-- A class of ASCII runes alone. -/
def Lo (p : Int → Bool) : Prop := ∀ r : Int, 128 ≤ r → p r = false
theorem lo_D : Lo isD := fun r h => by simp only [isD, Bool.and_eq_false_imp, decide_eq_true_eq, decide_eq_false_iff_not]; omega
theorem lo_H : Lo isH := fun r h => by
  simp only [isH, isD, Bool.or_eq_false_iff, Bool.and_eq_false_imp, decide_eq_true_eq, decide_eq_false_iff_not]
  omega
theorem dec_big (c : UInt8) (r : Bl) (h : 128 ≤ c.toNat) : 128 ≤ (Lib.decodeL (c :: r)).1 := by
  rw [Lib.decodeL_N]
  have hg : ((c :: r).getD 0 0).toNat = c.toNat := rfl
  rcases Lib.decodeN_shape (c :: r).length ((c :: r).getD 0 0).toNat ((c :: r).getD 1 0).toNat ((c :: r).getD 2 0).toNat ((c :: r).getD 3 0).toNat with ⟨q1, e⟩ | ⟨q1, q2, q3, q4, e⟩ | ⟨q1, q2, q3, q4, q5, q6, e⟩ | ⟨q1, q2, q3, q4, q5, q6, q7, e⟩ | e
  · omega
  all_goals (rw [e]; simp only; omega)
theorem hd_lo {p : Int → Bool} (hp : Lo p) (c : UInt8) (r : Bl) : hd p (c :: r) = if p (c.toNat : Int) = true then 1 else 0 := by
  by_cases hc : c.toNat < 128
  · exact hd_asc p c r hc
  · have h1 := dec_big c r (by omega)
    unfold hd
    rw [if_neg (by simp), hp (c.toNat : Int) (by omega), hp ((Lib.decodeL (c :: r)).1 : Int) (by omega)]
    simp
theorem ah_lo {p : Int → Bool} (hp : Lo p) (c : UInt8) (r : Bl) : ah p (c :: r) = if p (c.toNat : Int) = true then 1 + ah p r else 0 := by
  have e := hd_lo hp c r
  by_cases hc : p (c.toNat : Int) = true
  · rw [if_pos hc] at e ⊢
    rw [ah_step p _ (by omega), e]
    rfl
  · rw [if_neg hc] at e ⊢
    exact ah_stop p _ e
theorem ah_nil (p : Int → Bool) : ah p [] = 0 := rfl
theorem ah_take_le {p : Int → Bool} (hp : Lo p) : ∀ (l : Bl) (k : Nat), ah p (l.take k) ≤ ah p l
  | [], k => by simp [ah_nil]
  | c :: r, 0 => by simp [ah_nil]
  | c :: r, k + 1 => by
    rw [List.take_succ_cons, ah_lo hp, ah_lo hp]
    have := ah_take_le hp r k
    split <;> omega
/-- The digits in front, and what is behind them. -/
theorem ah_spl {p : Int → Bool} (hp : Lo p) : ∀ l : Bl, ∃ D r, l = D ++ r ∧ D.length = ah p l ∧ (∀ c ∈ D, p (c.toNat : Int) = true) ∧ ah p r = 0
  | [] => ⟨[], [], rfl, rfl, fun c h => (by cases h), rfl⟩
  | c :: l => by
    by_cases hc : p (c.toNat : Int) = true
    · obtain ⟨D, r, h1, h2, h3, h4⟩ := ah_spl hp l
      refine ⟨c :: D, r, by rw [h1]; rfl, ?_, ?_, h4⟩
      · rw [ah_lo hp, if_pos hc, List.length_cons, h2]; omega
      · intro x hx
        rcases List.mem_cons.1 hx with rfl | hx
        · exact hc
        · exact h3 x hx
    · exact ⟨[], c :: l, rfl, by rw [ah_lo hp, if_neg hc]; rfl, fun c h => (by cases h), by rw [ah_lo hp, if_neg hc]⟩
theorem ah_app {p : Int → Bool} (hp : Lo p) (r : Bl) (hr : ah p r = 0) : ∀ D : Bl, (∀ c ∈ D, p (c.toNat : Int) = true) → ah p (D ++ r) = D.length
  | [], _ => hr
  | c :: D, h => by
    rw [List.cons_append, ah_lo hp, if_pos (h c (by simp)), ah_app hp r hr D (fun x hx => h x (by simp [hx])), List.length_cons]
    omega
theorem digN (c : UInt8) (h : isD (c.toNat : Int) = true) : isN (c.toNat : Int) = true := by simp [isN, h]
theorem dig_asc (c : UInt8) (h : isD (c.toNat : Int) = true) : c.toNat < 128 := by
  simp only [isD, Bool.and_eq_true, decide_eq_true_eq] at h
  omega
theorem ahN_app (r : Bl) : ∀ D : Bl, (∀ c ∈ D, isD (c.toNat : Int) = true) → ah isN (D ++ r) = D.length + ah isN r
  | [], _ => by simp
  | c :: D, h => by
    have hc := h c (by simp)
    have e := hd_asc isN c (D ++ r) (dig_asc c hc)
    rw [digN c hc, if_pos rfl] at e
    rw [List.cons_append, ah_step isN _ (by rw [e]; decide), e, List.drop_one, List.tail_cons, ahN_app r D (fun x hx => h x (by simp [hx])), List.length_cons]
    omega

/-! ### a name, in great letters -/
def gg (c : UInt8) : UInt8 := upB (lwB c)
theorem gg_facts (c : UInt8) : (gg c = 46 ↔ c = 46) ∧ (gg c = 43 ↔ c = 43) ∧ (gg c = 45 ↔ c = 45) ∧ gg c ≠ 120 ∧ (gg c = 101 ∨ gg c = 69 → c = 101 ∨ c = 69) := by
  have := all256 (fun c => decide ((gg c = 46 ↔ c = 46) ∧ (gg c = 43 ↔ c = 43) ∧ (gg c = 45 ↔ c = 45) ∧ gg c ≠ 120 ∧ (gg c = 101 ∨ gg c = 69 → c = 101 ∨ c = 69))) (by decide +kernel) c
  exact of_decide_eq_true this
theorem ahD_g (l : Bl) : ah isD (l.map gg) = ah isD l := ah_map cs_up kps_upD l.length l (Nat.le_refl _)
theorem ahN_g (l : Bl) : ah isN (l.map gg) = ah isN l := ah_map cs_up kps_upN l.length l (Nat.le_refl _)
theorem has_ee (c : UInt8) (r : Bl) : has1 (c :: r) [101, 69] = true ↔ c = 101 ∨ c = 69 := by
  have h1 : (101 : UInt8) = c ↔ c = 101 := ⟨Eq.symm, Eq.symm⟩
  have h2 : (69 : UInt8) = c ↔ c = 69 := ⟨Eq.symm, Eq.symm⟩
  by_cases q1 : c = 101
  · subst q1; simp [has1, Lib.indexByte]
  · by_cases q2 : c = 69
    · subst q2; simp [has1, Lib.indexByte]
    · simp [has1, Lib.indexByte, q1, q2, h1, h2]
theorem has_pm (c : UInt8) (r : Bl) : has1 (c :: r) [43, 45] = true ↔ c = 43 ∨ c = 45 := by
  have h1 : (43 : UInt8) = c ↔ c = 43 := ⟨Eq.symm, Eq.symm⟩
  have h2 : (45 : UInt8) = c ↔ c = 45 := ⟨Eq.symm, Eq.symm⟩
  by_cases q1 : c = 43
  · subst q1; simp [has1, Lib.indexByte]
  · by_cases q2 : c = 45
    · subst q2; simp [has1, Lib.indexByte]
    · simp [has1, Lib.indexByte, q1, q2, h1, h2]
/-- An exponent in great letters, cut short, is no longer. -/
theorem exZ_g (r : Bl) (k : Nat) : exZ ((r.take k).map gg) ≤ exZ r := by
  match r, k with
  | [], k => simp
  | c :: r, 0 => simp [exZ, has1]
  | c :: r, k + 1 =>
    rw [List.take_succ_cons, List.map_cons]
    by_cases he : gg c = 101 ∨ gg c = 69
    · have he2 := (gg_facts c).2.2.2.2 he
      match r, k with
      | [], k => simp [exZ, exA, has1, ah_nil]
      | a :: r, 0 => simp [exZ, exA, has1, ah_nil]
      | a :: r, k + 1 =>
        rw [List.take_succ_cons, List.map_cons]
        unfold exZ
        rw [if_pos ((has_ee _ _).2 he), if_pos ((has_ee _ _).2 he2)]
        have ea : exA (gg c :: gg a :: (r.take k).map gg) = exA (c :: a :: r) := by
          unfold exA
          rw [List.drop_one, List.tail_cons, List.drop_one, List.tail_cons]
          by_cases hp : a = 43 ∨ a = 45
          · rw [if_pos ((has_pm _ _).2 (hp.imp (gg_facts a).2.1.2 (gg_facts a).2.2.1.2)), if_pos ((has_pm _ _).2 hp)]
          · rw [if_neg (fun q => hp (((has_pm _ _).1 q).imp (gg_facts a).2.1.1 (gg_facts a).2.2.1.1)), if_neg (fun q => hp ((has_pm _ _).1 q))]
        rw [ea]
        have ed : ∀ m, m = 1 ∨ m = 2 → ah isD ((gg c :: gg a :: (r.take k).map gg).drop m) ≤ ah isD ((c :: a :: r).drop m) := by
          rintro m (rfl | rfl)
          · show ah isD (gg a :: (r.take k).map gg) ≤ ah isD (a :: r)
            have := ah_take_le lo_D (a :: r) (k + 1)
            rw [← ahD_g] at this
            simpa using this
          · show ah isD ((r.take k).map gg) ≤ ah isD r
            rw [ahD_g]
            exact ah_take_le lo_D r k
        have hm : exA (c :: a :: r) = 1 ∨ exA (c :: a :: r) = 2 := by unfold exA; split <;> simp
        have := ed _ hm
        split <;> split <;> omega
    · have : has1 (gg c :: (r.take k).map gg) [101, 69] = false := by
        cases hq : has1 (gg c :: (r.take k).map gg) [101, 69] with
        | false => rfl
        | true => exact absurd ((has_ee _ _).1 hq) he
      unfold exZ
      rw [this]
      simp

/-! ### where a name was read -/
theorem numF_n (l : Bl) : (numF l).n = nuZ l := by
  unfold numF
  split
  · rename_i h; rw [h]; rfl
  · show (l.take (nuZ l)).length = _
    rw [List.length_take]
    have : nuZ l ≤ l.length := by
      unfold nuZ
      split
      · exact deZ_le l
      · exact hexZ_le l
    omega
theorem chF_k1 (l : Bl) (he : (chF l).e = 0) (h : (chF l).k = 1) : chF l = naF l ∧ nuZ l < (naF l).n := by
  have ha := lgF_all _ _ he
  have e1 := ha (odF l) (by simp)
  have e2 := ha (numF l) (by simp)
  have e3 := ha (naF l) (by simp)
  have key : chF l = lgF (if (lgF nil0 [odF l, numF l]).n < (naF l).n then naF l else lgF nil0 [odF l, numF l]) [qnF l, qtF l, usF l, syF l, paF l, sgF l] := by
    unfold chF
    simp only [lgF, e1, e2, e3]
    simp
  have hk : ∀ f ∈ [qnF l, qtF l, usF l, syF l, paF l, sgF l], f.k ≠ 1 := by
    intro f hf
    simp only [List.mem_cons, List.not_mem_nil, or_false] at hf
    rcases hf with rfl | rfl | rfl | rfl | rfl | rfl
    · unfold qnF; split
      · rcases quF_k l 2 false with q | q <;> rw [q] <;> decide
      · decide
    · unfold qtF; split
      · rcases quF_k l 3 true with q | q <;> rw [q] <;> decide
      · decide
    · have hz : (usF l).e = 0 := ha (usF l) (by simp)
      unfold usF at hz ⊢
      split
      · rename_i h1
        rw [if_pos h1] at hz
        split
        · rename_i h2
          rw [if_pos h2] at hz
          intro q
          have hm := lgF_mem [naF (l.drop 1), qnF (l.drop 1), qtF (l.drop 1)] nil0
          have hz2 : (lgF nil0 [naF (l.drop 1), qnF (l.drop 1), qtF (l.drop 1)]).e = 0 := hz
          have h22 : (lgF nil0 [naF (l.drop 1), qnF (l.drop 1), qtF (l.drop 1)]).n = 0 := h2
          have q2 : (lgF nil0 [naF (l.drop 1), qnF (l.drop 1), qtF (l.drop 1)]).k = 1 := q
          rcases hm with e | e
          · rw [e] at q2; cases q2
          · simp only [List.mem_cons, List.not_mem_nil, or_false] at e
            rcases e with e | e | e
            · rw [e] at h22 q2
              unfold naF at h22 q2
              split at q2
              · cases q2
              · rename_i h5
                rw [if_neg h5] at h22
                simp only at h22
                have : ah isD (l.drop 1) = 0 := by
                  have := ah_spl lo_D (l.drop 1)
                  obtain ⟨D, r, g1, g2, g3, g4⟩ := this
                  have := ahN_app r D g3
                  rw [← g1, h22] at this
                  omega
                omega
            · rw [e] at q2
              unfold qnF at q2
              split at q2
              · rcases quF_k (l.drop 1) 2 false with z | z <;> (rw [z] at q2; cases q2)
              · cases q2
            · rw [e] at q2
              unfold qtF at q2
              split at q2
              · rcases quF_k (l.drop 1) 3 true with z | z <;> (rw [z] at q2; cases q2)
              · cases q2
        · intro q; cases q
      · decide
    · unfold syF; repeat' split
      all_goals (intro q; cases q)
    · unfold paF; split <;> decide
    · unfold sgF; split <;> (intro q; cases q)
  by_cases hlt : (lgF nil0 [odF l, numF l]).n < (naF l).n
  · rw [if_pos hlt] at key
    have hmx := lgF_max [odF l, numF l] nil0 (by
      rcases lgF_mem [odF l, numF l] nil0 with e | e
      · rw [e]; rfl
      · simp only [List.mem_cons, List.not_mem_nil, or_false] at e
        rcases e with e | e <;> rw [e] <;> assumption)
    refine ⟨?_, ?_⟩
    · rcases lgF_mem [qnF l, qtF l, usF l, syF l, paF l, sgF l] (naF l) with e | e
      · rw [key, e]
      · rw [← key] at e
        exact absurd h (hk _ e)
    · rw [← numF_n]
      exact Nat.lt_of_le_of_lt (hmx.2 _ (by simp)) hlt
  · exfalso
    rw [if_neg hlt] at key
    rcases lgF_mem [qnF l, qtF l, usF l, syF l, paF l, sgF l] (lgF nil0 [odF l, numF l]) with e | e
    · rw [key, e] at h
      rcases lgF_mem [odF l, numF l] nil0 with e | e
      · rw [e] at h; cases h
      · simp only [List.mem_cons, List.not_mem_nil, or_false] at e
        rcases e with e | e
        · rw [e] at h
          unfold odF at h e1
          split at h
          · rename_i h1
            rw [if_pos h1] at e1
            split at h
            · rename_i h2; rw [if_pos h2] at e1; exact h2 e1
            · cases h
          · cases h
        · rw [e] at h
          unfold numF at h
          split at h <;> cases h
    · rw [← key] at e
      exact hk _ e h
theorem hex_g : ∀ X : Bl, hexZ (X.map gg) = 0
  | [] => by simp [hexZ, pre, List.isPrefixOf]
  | [a] => by simp [hexZ, pre, List.isPrefixOf]
  | a :: b :: z => by
    have h := Ne.symm (gg_facts b).2.2.2.1
    simp [hexZ, pre, List.isPrefixOf, h]
theorem hex_d : ∀ (D : Bl) (c : UInt8) (s : Bl), (∀ x ∈ D, isD (x.toNat : Int) = true) → D ≠ [] → c ≠ 120 → hexZ (D ++ c :: s) = 0
  | [], c, s, _, h, _ => absurd rfl h
  | [d], c, s, _, _, hc => by
    have h := Ne.symm hc
    simp [hexZ, pre, List.isPrefixOf, h]
  | d :: a :: z, c, s, h3, _, _ => by
    have h : (120 : UInt8) ≠ a := by
      intro e
      have := h3 a (by simp)
      rw [← e] at this
      revert this
      decide
    simp [hexZ, pre, List.isPrefixOf, h]
/-- A name's bytes in great letters are no number as long. -/
theorem num_great (l : Bl) (h : ah isN l ≠ ah isD l) (hn : nuZ l < ah isN l) : nuZ ((l.take (ah isN l)).map gg) < ah isN l := by
  obtain ⟨D, r, h1, h2, h3, h4⟩ := ah_spl lo_D l
  have e1 := ahN_app r D h3
  rw [← h1] at e1
  rw [e1] at hn ⊢
  have hr0 : 0 < ah isN r := by omega
  match r, hr0, h4, h1, e1, hn with
  | [], hr0, _, _, _, _ => simp [ah_nil] at hr0
  | c :: s, hr0, h4, h1, e1, hn =>
    obtain ⟨m, hm⟩ : ∃ m, ah isN (c :: s) = m + 1 := ⟨ah isN (c :: s) - 1, by omega⟩
    rw [hm] at hn ⊢
    have et : (l.take (D.length + (m + 1))).map gg = D.map gg ++ gg c :: (s.take m).map gg := by
      rw [h1, List.take_append, List.take_of_length_le (by omega), show D.length + (m + 1) - D.length = m + 1 by omega, List.take_succ_cons, List.map_append, List.map_cons]
    rw [et]
    have hD : ∀ x ∈ D.map gg, isD (x.toNat : Int) = true := by
      intro x hx
      obtain ⟨y, hy, rfl⟩ := List.mem_map.1 hx
      have := kps_upD y (dig_asc y (h3 y hy))
      rw [h3 y hy] at this
      exact this
    have hc : isD (c.toNat : Int) = false := by
      rw [ah_lo lo_D] at h4
      cases hq : isD (c.toNat : Int) with
      | false => rfl
      | true => rw [hq] at h4; simp at h4
    have hgr : ah isD (gg c :: (s.take m).map gg) = 0 := by
      have := ahD_g (c :: s.take m)
      rw [List.map_cons] at this
      rw [this, ah_lo lo_D, hc]
      rfl
    have hgd := ah_app lo_D _ hgr (D.map gg) hD
    have hc46 : c ≠ 46 := by
      intro e
      subst e
      have : ah isN (46 :: s) = 0 := ah_stop _ _ (by rw [hd_asc _ _ _ (by decide)]; rfl)
      omega
    have hp1 : ∀ x : UInt8, x ≠ 46 → ∀ u : Bl, pre [46] (x :: u) = false := by
      intro x hx u
      have := Ne.symm hx
      simp [pre, List.isPrefixOf, this]
    have hpT : ptZ (D.map gg ++ gg c :: (s.take m).map gg) = D.length := by
      unfold ptZ
      rw [hgd, List.drop_left, hp1 _ (fun e => hc46 ((gg_facts c).1.1 e))]
      simp
    have hpl : ptZ l = D.length := by
      unfold ptZ
      rw [← h2, h1, List.drop_left, hp1 _ hc46]
      simp
    have hxT : hexZ (D.map gg ++ gg c :: (s.take m).map gg) = 0 := by
      have := hex_g (D ++ c :: s.take m)
      rw [List.map_append, List.map_cons] at this
      exact this
    unfold nuZ
    rw [if_pos hxT]
    unfold deZ
    rw [hpT]
    by_cases h0 : D.length = 0
    · rw [if_pos h0]; omega
    · rw [if_neg h0, show (D.map gg ++ gg c :: (s.take m).map gg).drop D.length = gg c :: (s.take m).map gg from List.drop_left' (by simp)]
      by_cases hz : exZ (gg c :: (s.take m).map gg) = 0
      · rw [hz]; omega
      · have hee : gg c = 101 ∨ gg c = 69 := by
          apply Decidable.byContradiction
          intro q
          apply hz
          unfold exZ
          rw [if_neg (fun z => q ((has_ee _ _).1 z))]
        have hcee := (gg_facts c).2.2.2.2 hee
        have hxl : hexZ l = 0 := by
          rw [h1]
          exact hex_d D c s h3 (fun e => h0 (by rw [e]; rfl)) (by rcases hcee with e | e <;> rw [e] <;> decide)
        have hge := exZ_g (c :: s) (m + 1)
        rw [List.take_succ_cons, List.map_cons] at hge
        have hdl : deZ l = D.length + exZ (c :: s) := by
          unfold deZ
          rw [hpl, if_neg h0]
          congr 1
          rw [h1, List.drop_left]
        unfold nuZ at hn
        rw [if_pos hxl, hdl] at hn
        omega

/-! ### own texts: names, numbers, odd remarks -/
theorem low_gg (t : Bl) : low (t.map gg) = low t := by
  unfold low
  rw [List.map_map]
  apply List.map_congr_left
  intro c _
  have := all256 (fun c => decide (lwB (gg c) = lwB c)) (by decide +kernel) c
  exact of_decide_eq_true this
theorem name_facts (c : UInt8) (h : isN (c.toNat : Int) = true) : c ≠ 47 ∧ c ≠ 96 ∧ c ≠ 39 ∧ c ≠ 34 ∧ c ≠ 64 ∧ c ≠ 35 ∧ c ≠ 45 ∧ isB (c.toNat : Int) = false := by
  have := all256 (fun c => decide (isN (c.toNat : Int) = true → c ≠ 47 ∧ c ≠ 96 ∧ c ≠ 39 ∧ c ≠ 34 ∧ c ≠ 64 ∧ c ≠ 35 ∧ c ≠ 45 ∧ isB (c.toNat : Int) = false)) (by decide +kernel) c
  exact (of_decide_eq_true this) h
theorem hdN_head (c : UInt8) (u : Bl) (h : ah isN (c :: u) ≠ 0) : isN (c.toNat : Int) = true := by
  by_cases hc : c.toNat < 128
  · cases hq : isN (c.toNat : Int) with
    | true => rfl
    | false => exact absurd (ah_stop _ _ (by rw [hd_asc _ _ _ hc, hq]; rfl)) h
  · have : (128 : Int) ≤ (c.toNat : Int) := by omega
    simp [isN, isL, this]
/-- A name in great letters is that name. -/
theorem nx_great (l : Bl) (h : ah isN l ≠ ah isD l) (hn : nuZ l < ah isN l) : nxF ((l.take (ah isN l)).map gg) = ⟨1, ba (low (l.take (ah isN l))), ((l.take (ah isN l)).map gg).length, 0⟩ ∧ opL ((l.take (ah isN l)).map gg) = false ∧ (l.take (ah isN l)).map gg ≠ [] := by
  have hz := num_great l h hn
  have hle := ah_le isN l
  have e1 : ah isN ((l.take (ah isN l)).map gg) = ah isN l := by rw [ahN_g, ah_take isN _ l (Nat.le_refl _)]
  have e2 : ah isD ((l.take (ah isN l)).map gg) ≠ ah isN l := by
    rw [ahD_g]
    have h1 := ah_take_le lo_D l (ah isN l)
    obtain ⟨D, r, g1, g2, g3, g4⟩ := ah_spl lo_D l
    have h2 := ahN_app r D g3
    rw [← g1] at h2
    omega
  have e3 : ((l.take (ah isN l)).map gg).length = ah isN l := by rw [List.length_map, List.length_take]; omega
  have e4 : low ((l.take (ah isN l)).map gg) = low (l.take (ah isN l)) := low_gg _
  rw [← e4]
  generalize (l.take (ah isN l)).map gg = T at *
  match T, e1, e2, e3, hz with
  | [], e1, _, e3, hz =>
    simp only [List.length_nil] at e3
    omega
  | c :: u, e1, e2, e3, hz =>
    obtain ⟨b1, b2, b3, b4, b5, b6, b7, b8⟩ := name_facts c (hdN_head c u (by omega))
    have hna : naF (c :: u) = ⟨1, ba (low (c :: u)), (c :: u).length, 0⟩ := by
      unfold naF
      rw [e1, if_neg (Ne.symm e2), ← e3, List.take_length]
    refine ⟨nx_ch c _ _ ?_ (by simp) b8 (opL_no _ _ b6 b7) (re_no _ _ b1), opL_no _ _ b6 b7, by simp⟩
    unfold chF
    rw [hna, od_no _ _ b1, qn_no _ _ b2, qt_no _ _ b3 b4, us_no _ _ b5, sy_no _ _ b5]
    refine lgF_pick _ rfl [nil0, nil0, nil0, nil0, paF _, sgF _] ?_ [nil0, numF _] nil0 (by simp [nil0]) ?_
    · intro f hf
      simp only [List.mem_cons, List.not_mem_nil, or_false] at hf
      rcases hf with rfl | rfl | rfl | rfl | rfl | rfl
      · exact e0m _
      · exact e0m _
      · exact e0m _
      · exact e0m _
      · exact ⟨paF_e _, (paF_fits _).1⟩
      · exact ⟨sgF_e _, (sgF_fits _).1⟩
    · intro f hf
      simp only [List.mem_cons, List.not_mem_nil, or_false] at hf
      rcases hf with rfl | rfl
      · exact e0n _ (by simp)
      · refine ⟨numF_e _, ?_⟩
        rw [numF_n]
        show _ < (c :: u).length
        omega
/-- An odd remark, read alone. -/
theorem nx_odd (l : Bl) (ho : opO l = true) (he : (reF l).e = 0) : nxF (l.take (reF l).n) = its 9 (l.take (reF l).n) ∧ opL (l.take (reF l).n) = false ∧ l.take (reF l).n ≠ [] := by
  have h3 := opO_len ho
  have hi : ¬ Lib.index (l.drop 2) [42, 47] < 0 := by
    intro q
    unfold reF at he
    rw [if_pos q] at he
    cases he
  have hn : (reF l).n = 2 + (Lib.index (l.drop 2) [42, 47]).toNat + 2 := by unfold reF; rw [if_neg hi]
  have hroom := Lib.index_room (l.drop 2) [42, 47] (by omega)
  simp only [List.length_drop, List.length_cons, List.length_nil] at hroom
  have hsp : l = l.take (reF l).n ++ l.drop (reF l).n := (List.take_append_drop _ _).symm
  have hlen : (l.take (reF l).n).length = (reF l).n := by rw [List.length_take]; omega
  generalize hT : l.take (reF l).n = T at *
  generalize l.drop (reF l).n = R at *
  have hoT : opO T = true := by
    rw [hsp] at ho
    unfold opO at ho ⊢
    unfold pre at ho ⊢
    rwa [pre_app _ T R (by simp; omega), pre_app _ T R (by simp; omega)] at ho
  have hd2 : l.drop 2 = T.drop 2 ++ R := by rw [hsp]; exact List.drop_append_of_le_length (by omega)
  have hix : Lib.index (T.drop 2) [42, 47] = Lib.index (l.drop 2) [42, 47] := by
    rw [hd2] at hi hn hroom ⊢
    exact index_cut [42, 47] R (T.drop 2) (by simp) (by omega) (by simp only [List.length_drop, List.length_cons, List.length_nil]; omega)
  have hre : reF T = ⟨0, ba [], (reF l).n, 0⟩ := by
    unfold reF
    rw [hix, if_neg hi]
  have hod : odF T = its 9 T := by
    unfold odF
    rw [if_pos hoT, hre, if_neg (by simp)]
    show its 9 (T.take (reF l).n) = _
    rw [← hlen, List.take_length]
  match T, hlen, hoT, hod with
  | [], hlen, _, _ => simp only [List.length_nil] at hlen; omega
  | c :: u, hlen, hoT, hod =>
    have hc : c = 47 := by
      unfold opO pre at hoT
      simp only [List.isPrefixOf, Bool.or_eq_true, Bool.and_eq_true, beq_iff_eq] at hoT
      rcases hoT with h | h <;> exact h.1.symm
    subst hc
    refine ⟨nx_ch 47 _ _ ?_ (by simp [its]) (by decide) (opL_no _ _ (by decide) (by decide)) (by rw [hoT]; simp), opL_no _ _ (by decide) (by decide), by simp⟩
    unfold chF
    rw [hod, num_no _ _ (by decide) (by decide) (by decide), na_no _ _ (by decide) (by decide), qn_no _ _ (by decide), qt_no _ _ (by decide) (by decide), us_no _ _ (by decide), sy_no _ _ (by decide)]
    refine lgF_pick _ rfl [nil0, nil0, nil0, nil0, nil0, nil0, paF _, sgF _] ?_ [] nil0 (by simp [nil0, its]) (fun f hf => by cases hf)
    intro f hf
    simp only [List.mem_cons, List.not_mem_nil, or_false] at hf
    rcases hf with rfl | rfl | rfl | rfl | rfl | rfl | rfl | rfl
    · exact e0m _
    · exact e0m _
    · exact e0m _
    · exact e0m _
    · exact e0m _
    · exact e0m _
    · exact ⟨paF_e _, (paF_fits _).1⟩
    · exact ⟨sgF_e _, (sgF_fits _).1⟩

/-! ### a number's own text -/
theorem hex_D : ∀ D : Bl, (∀ x ∈ D, isD (x.toNat : Int) = true) → hexZ D = 0
  | [], _ => by simp [hexZ, pre, List.isPrefixOf]
  | [a], _ => by simp [hexZ, pre, List.isPrefixOf]
  | d :: a :: z, h3 => by
    have h : (120 : UInt8) ≠ a := by
      intro e
      have := h3 a (by simp)
      rw [← e] at this
      revert this
      decide
    simp [hexZ, pre, List.isPrefixOf, h]
/-- An exponent: nothing, or e, perhaps a sign, digits; read alone it is as long. -/
theorem ex_own (v : Bl) : exZ (v.take (exZ v)) = exZ v ∧ exZ v ≤ v.length ∧ ah isD (v.take (exZ v)) = 0 ∧ (∀ u, v.take (exZ v) ≠ 46 :: u) ∧ (v.take (exZ v) = [] ∨ ∃ c u, v.take (exZ v) = c :: u ∧ c ≠ 120 ∧ c ≠ 46) := by
  by_cases hz : exZ v = 0
  · rw [hz, List.take_zero]
    exact ⟨rfl, Nat.zero_le _, rfl, fun u q => (by cases q), .inl rfl⟩
  · match v, hz with
    | [], hz => exact absurd rfl hz
    | c :: s, hz =>
      have hle := exZ_le (c :: s)
      have hc : c = 101 ∨ c = 69 := by
        apply Decidable.byContradiction
        intro q
        apply hz
        unfold exZ
        rw [if_neg (fun z => q ((has_ee _ _).1 z))]
      have hF : ah isD ((c :: s).drop (exA (c :: s))) ≠ 0 ∧ exZ (c :: s) = exA (c :: s) + ah isD ((c :: s).drop (exA (c :: s))) := by
        unfold exZ at hz ⊢
        rw [if_pos ((has_ee _ _).2 hc)] at hz ⊢
        by_cases q : ah isD ((c :: s).drop (exA (c :: s))) = 0
        · rw [if_pos q] at hz; exact absurd rfl hz
        · rw [if_neg q]; exact ⟨q, rfl⟩
      have hcD : isD (c.toNat : Int) = false := by rcases hc with rfl | rfl <;> decide
      have hm : exA (c :: s) = 1 ∨ exA (c :: s) = 2 := by unfold exA; split <;> simp
      obtain ⟨hF0, hF⟩ := hF
      obtain ⟨k, hk⟩ : ∃ k, exZ (c :: s) = k + 1 := ⟨exZ (c :: s) - 1, by omega⟩
      have et : (c :: s).take (exZ (c :: s)) = c :: s.take k := by rw [hk, List.take_succ_cons]
      rw [et]
      refine ⟨?_, hle, ?_, ?_, .inr ⟨c, _, rfl, ?_, ?_⟩⟩
      · have hdr : (c :: s.take k).drop (exA (c :: s)) = ((c :: s).drop (exA (c :: s))).take (ah isD ((c :: s).drop (exA (c :: s)))) := by
          rw [← et, List.drop_take, show exZ (c :: s) - exA (c :: s) = ah isD ((c :: s).drop (exA (c :: s))) by omega]
        have ea : exA (c :: s.take k) = exA (c :: s) := by
          match s, hF0 with
          | [], hF0 => simp
          | a :: z, hF0 =>
            obtain ⟨j, rfl⟩ : ∃ j, k = j + 1 := ⟨k - 1, by omega⟩
            rw [List.take_succ_cons]
            rfl
        have := ah_take isD _ ((c :: s).drop (exA (c :: s))) (Nat.le_refl _)
        rw [← hdr] at this
        unfold exZ
        rw [if_pos ((has_ee _ _).2 hc), if_pos ((has_ee _ _).2 hc), ea, this]
      · rw [ah_lo lo_D, hcD]; rfl
      · intro u q
        rcases hc with rfl | rfl <;> cases q
      · rcases hc with rfl | rfl <;> decide
      · rcases hc with rfl | rfl <;> decide
theorem pre46 (Y : Bl) (h : ∀ u, Y ≠ 46 :: u) : pre [46] Y = false := by
  cases Y with
  | nil => rfl
  | cons a u =>
    have : (46 : UInt8) ≠ a := fun e => h u (by rw [e])
    simp [pre, List.isPrefixOf, this]
/-- What nuZ reads, read alone. -/
theorem nu_own (l : Bl) (h : nuZ l ≠ 0) : nuZ (l.take (nuZ l)) = nuZ l ∧ ∃ c u, l.take (nuZ l) = c :: u ∧ c.toNat < 128 ∧ (isD (c.toNat : Int) = true ∨ c = 46) := by
  by_cases hx : hexZ l = 0
  · have e : nuZ l = deZ l := by unfold nuZ; rw [if_pos hx]
    rw [e] at h ⊢
    have hp : ptZ l ≠ 0 := by
      intro q
      apply h
      unfold deZ
      rw [if_pos q]
    have ed : deZ l = ptZ l + exZ (l.drop (ptZ l)) := by unfold deZ; rw [if_neg hp]
    have hpl := ptZ_le l
    obtain ⟨x1, x2, x3, x4, x5⟩ := ex_own (l.drop (ptZ l))
    have et : l.take (deZ l) = l.take (ptZ l) ++ (l.drop (ptZ l)).take (exZ (l.drop (ptZ l))) := by rw [ed, List.take_add]
    have hlY : ((l.drop (ptZ l)).take (exZ (l.drop (ptZ l)))).length = exZ (l.drop (ptZ l)) := by rw [List.length_take]; omega
    rw [et, ed]
    generalize (l.drop (ptZ l)).take (exZ (l.drop (ptZ l))) = Y at *
    generalize exZ (l.drop (ptZ l)) = X at *
    obtain ⟨D, r, g1, g2, g3, g4⟩ := ah_spl lo_D l
    have hY46 := pre46 Y x4
    by_cases h46 : pre [46] r = true
    · obtain ⟨w, rfl⟩ : ∃ w, r = 46 :: w := by
        match r, h46 with
        | [], h46 => simp [pre, List.isPrefixOf] at h46
        | a :: w, h46 =>
          simp only [pre, List.isPrefixOf, Bool.and_eq_true, beq_iff_eq] at h46
          exact ⟨w, by rw [h46.1]⟩
      obtain ⟨E, r', k1, k2, k3, k4⟩ := ah_spl lo_D w
      have hP : ptZ l = D.length + 1 + E.length := by
        unfold ptZ at hp ⊢
        have e1 : l.drop (ah isD l) = 46 :: w := by rw [← g2, g1]; exact List.drop_left
        rw [e1, if_pos h46] at hp ⊢
        rw [List.drop_one, List.tail_cons, ← g2, ← k2] at hp ⊢
        by_cases q : D.length + E.length = 0
        · rw [if_pos q] at hp; exact absurd rfl hp
        · rw [if_neg q]
      have hDE : D.length + E.length ≠ 0 := by
        intro q
        unfold ptZ at hp
        have e1 : l.drop (ah isD l) = 46 :: w := by rw [← g2, g1]; exact List.drop_left
        rw [e1, if_pos h46, List.drop_one, List.tail_cons, ← g2, ← k2, if_pos q] at hp
        exact hp rfl
      have eP : l.take (ptZ l) = D ++ 46 :: E := by
        rw [hP, g1, k1, show D ++ 46 :: (E ++ r') = (D ++ 46 :: E) ++ r' by simp]
        exact List.take_left' (by simp; omega)
      rw [eP, hP]
      have z0 : ah isD (46 :: (E ++ Y)) = 0 := by rw [ah_lo lo_D]; rfl
      have z1 : ah isD (D ++ 46 :: E ++ Y) = D.length := by
        rw [List.append_assoc, List.cons_append]
        exact ah_app lo_D _ z0 D g3
      have z2 : ah isD (E ++ Y) = E.length := ah_app lo_D Y x3 E k3
      have zp : ptZ (D ++ 46 :: E ++ Y) = D.length + 1 + E.length := by
        unfold ptZ
        have e1 : (D ++ 46 :: E ++ Y).drop D.length = 46 :: (E ++ Y) := by rw [List.append_assoc, List.cons_append]; exact List.drop_left
        rw [z1, e1, List.drop_one, List.tail_cons, z2, if_pos (by simp [pre, List.isPrefixOf]), if_neg hDE]
      have zx : hexZ (D ++ 46 :: E ++ Y) = 0 := by
        rw [List.append_assoc, List.cons_append]
        by_cases hD : D = []
        · subst hD
          simp [hexZ, pre, List.isPrefixOf]
        · exact hex_d D 46 _ g3 hD (by decide)
      refine ⟨?_, ?_⟩
      · unfold nuZ
        rw [if_pos zx]
        unfold deZ
        rw [zp, if_neg (by omega), show (D ++ 46 :: E ++ Y).drop (D.length + 1 + E.length) = Y from List.drop_left' (by simp; omega), x1]
      · match D, g3 with
        | [], _ => exact ⟨46, E ++ Y, by simp, by decide, .inr rfl⟩
        | d :: D, g3 => exact ⟨d, D ++ 46 :: E ++ Y, by simp, dig_asc d (g3 d (by simp)), .inl (g3 d (by simp))⟩
    · have hP : ptZ l = D.length := by
        unfold ptZ
        have e1 : l.drop (ah isD l) = r := by rw [← g2, g1]; exact List.drop_left
        rw [e1, if_neg h46, g2]
      have eP : l.take (ptZ l) = D := by rw [hP, g1]; exact List.take_left
      rw [eP, hP]
      rw [hP] at hp
      have z1 : ah isD (D ++ Y) = D.length := ah_app lo_D Y x3 D g3
      have zp : ptZ (D ++ Y) = D.length := by
        unfold ptZ
        rw [z1, List.drop_left, hY46]
        simp
      have hD : D ≠ [] := fun e => hp (by rw [e]; rfl)
      have zx : hexZ (D ++ Y) = 0 := by
        rcases x5 with e | ⟨c, u, e, c1, c2⟩
        · rw [e, List.append_nil]; exact hex_D D g3
        · rw [e]; exact hex_d D c u g3 hD c1
      refine ⟨?_, ?_⟩
      · unfold nuZ
        rw [if_pos zx]
        unfold deZ
        rw [zp, if_neg hp, List.drop_left, x1]
      · match D, g3, hD with
        | [], _, hD => exact absurd rfl hD
        | d :: D, g3, _ => exact ⟨d, D ++ Y, by simp, dig_asc d (g3 d (by simp)), .inl (g3 d (by simp))⟩
  · have e : nuZ l = hexZ l := by unfold nuZ; rw [if_neg hx]
    rw [e]
    have hp : pre [48, 120] l = true ∧ ah isH (l.drop 2) ≠ 0 ∧ hexZ l = 2 + ah isH (l.drop 2) := by
      unfold hexZ at hx ⊢
      by_cases q : pre [48, 120] l = true
      · rw [if_pos q] at hx ⊢
        by_cases q2 : ah isH (l.drop 2) = 0
        · rw [if_pos q2] at hx; exact absurd rfl hx
        · rw [if_neg q2]; exact ⟨q, q2, rfl⟩
      · rw [if_neg q] at hx; exact absurd rfl hx
    obtain ⟨hp, hm, hxe⟩ := hp
    obtain ⟨w, rfl⟩ : ∃ w, l = 48 :: 120 :: w := by
      match l, hp with
      | [], hp => simp [pre, List.isPrefixOf] at hp
      | [a], hp => simp [pre, List.isPrefixOf] at hp
      | a :: b :: w, hp =>
        simp only [pre, List.isPrefixOf, Bool.and_eq_true, beq_iff_eq] at hp
        exact ⟨w, by rw [hp.1, hp.2.1]⟩
    have hm' : ah isH w ≠ 0 := hm
    have hxe' : hexZ (48 :: 120 :: w) = 2 + ah isH w := hxe
    rw [hxe', show (48 :: 120 :: w : Bl).take (2 + ah isH w) = 48 :: 120 :: w.take (ah isH w) by rw [Nat.add_comm]; rfl]
    have zz : hexZ (48 :: 120 :: w.take (ah isH w)) = 2 + ah isH w := by
      unfold hexZ
      rw [if_pos (by simp [pre, List.isPrefixOf]), show (48 :: 120 :: w.take (ah isH w) : Bl).drop 2 = w.take (ah isH w) from rfl, ah_take isH _ w (Nat.le_refl _), if_neg hm']
    refine ⟨?_, 48, _, rfl, by decide, .inl (by decide)⟩
    unfold nuZ
    rw [zz, if_neg (by omega)]
/-- A number, read alone. -/
theorem nx_number (l : Bl) (h : nuZ l ≠ 0) : nxF (l.take (nuZ l)) = its 4 (l.take (nuZ l)) ∧ opL (l.take (nuZ l)) = false ∧ l.take (nuZ l) ≠ [] := by
  obtain ⟨e, c, u, h1, h2, h3⟩ := nu_own l h
  have hl : (l.take (nuZ l)).length = nuZ l := by
    have := numF_n l
    unfold numF at this
    rw [if_neg h] at this
    exact this
  have hn : numF (l.take (nuZ l)) = its 4 (l.take (nuZ l)) := by
    unfold numF
    rw [e, if_neg h]
    rw [List.take_take, Nat.min_self]
  rw [h1] at hn ⊢
  refine ⟨nx_num c u h2 h3 hn, ?_, by simp⟩
  refine opL_no _ _ ?_ ?_
  · rintro rfl
    rcases h3 with q | q
    · revert q; decide
    · cases q
  · rintro rfl
    rcases h3 with q | q
    · revert q; decide
    · cases q

/-! ### each word of a text, told anew -/
/-- A word, told: a name in great letters. -/
def tol (x : Wd) : Bl := if x.k = 1 then upp (bl x.tx) else told x
theorem sgZ_in (l : Bl) : ∀ n, sgZ l n ≠ 0 → l.take (sgZ l n) ∈ sgs
  | 0, h => absurd rfl h
  | n + 1, h => by
    unfold sgZ at h ⊢
    by_cases hs : sgB (l.take (n + 1)) = true
    · rw [if_pos hs]
      exact of_decide_eq_true hs
    · rw [if_neg hs] at h ⊢
      exact sgZ_in l n h
theorem nxF_ch (l : Bl) (hk : (nxF l).k ≠ 0) : nxF l = chF l := by
  unfold nxF at hk ⊢
  by_cases h : 0 < (gaF l).n ∨ (gaF l).e ≠ 0
  · rw [if_pos h, gaF_k] at hk
    exact absurd rfl hk
  · rw [if_neg h] at hk ⊢
    by_cases h2 : (chF l).n = 0 ∧ (chF l).e = 0
    · rw [if_pos h2] at hk
      exact absurd rfl hk
    · rw [if_neg h2]
theorem quF_kind (l : Bl) (k : Int) (es : Bool) (he : (quF l k es).e = 0) : (quF l k es).k = k := by
  unfold quF at he ⊢
  split at he
  · cases he
  · split at he
    · cases he
    · rename_i h; simp only [h]
/-- What a word that was read is, told. -/
theorem tol_own (l : Bl) (he : (nxF l).e = 0) (hk : (nxF l).k ≠ 0) (a : Int) : nxF (tol ⟨(nxF l).k, (nxF l).tx, a⟩) = ⟨(nxF l).k, (nxF l).tx, (tol ⟨(nxF l).k, (nxF l).tx, a⟩).length, 0⟩ ∧ opL (tol ⟨(nxF l).k, (nxF l).tx, a⟩) = false ∧ tol ⟨(nxF l).k, (nxF l).tx, a⟩ ≠ [] := by
  have hp := nxF_pos l he
  have e := nxF_ch l hk
  rw [e] at he hk hp ⊢
  rcases lgF_mem [odF l, numF l, naF l, qnF l, qtF l, usF l, syF l, paF l, sgF l] nil0 with q | q
  · have q' : chF l = nil0 := q
    rw [q'] at hk
    exact absurd rfl hk
  · have q' : chF l ∈ [odF l, numF l, naF l, qnF l, qtF l, usF l, syF l, paF l, sgF l] := q
    simp only [List.mem_cons, List.not_mem_nil, or_false] at q'
    rcases q' with q | q | q | q | q | q | q | q | q
    · rw [q] at he hk hp ⊢
      unfold odF at he hk hp ⊢
      by_cases h1 : opO l = true
      · rw [if_pos h1] at he hk hp ⊢
        by_cases h2 : (reF l).e = 0
        · rw [if_neg (by simpa using h2)]
          exact nx_odd l h1 h2
        · rw [if_pos h2] at he
          exact absurd he h2
      · rw [if_neg h1] at hk
        exact absurd rfl hk
    · rw [q] at he hk hp ⊢
      unfold numF at he hk hp ⊢
      by_cases h1 : nuZ l = 0
      · rw [if_pos h1] at hk
        exact absurd rfl hk
      · rw [if_neg h1]
        exact nx_number l h1
    · have hk1 : (chF l).k = 1 := by
        rw [q] at hk ⊢
        unfold naF at hk ⊢
        split at hk
        · exact absurd rfl hk
        · rename_i h; rw [if_neg h]
      have hlt := (chF_k1 l he hk1).2
      rw [q] at he hk hp ⊢
      unfold naF at he hk hp hlt ⊢
      by_cases h1 : ah isN l = ah isD l
      · rw [if_pos h1] at hk
        exact absurd rfl hk
      · rw [if_neg h1] at hlt ⊢
        have et : tol ⟨1, ba (low (l.take (ah isN l))), a⟩ = (l.take (ah isN l)).map gg := by
          show upp (bl (ba (low (l.take (ah isN l))))) = _
          rw [bl_ba, upp_low]
          rfl
        simp only
        rw [et]
        exact nx_great l h1 hlt
    · rw [q] at he hk hp ⊢
      unfold qnF at he hk hp ⊢
      by_cases h1 : has1 l [96] = true
      · rw [if_pos h1] at he hk hp ⊢
        rw [quF_kind _ _ _ he]
        exact ⟨nx_btw _, k_btw_op 96 _ (.inl rfl), k_btw_ne _ _⟩
      · rw [if_neg h1] at hk
        exact absurd rfl hk
    · rw [q] at he hk hp ⊢
      unfold qtF at he hk hp ⊢
      by_cases h1 : has1 l [39, 34] = true
      · rw [if_pos h1] at he hk hp ⊢
        rw [quF_kind _ _ _ he]
        exact ⟨nx_qto _, k_btw_op 39 _ (.inr rfl), k_btw_ne _ _⟩
      · rw [if_neg h1] at hk
        exact absurd rfl hk
    · rw [q] at he hk hp ⊢
      unfold usF at he hk hp ⊢
      by_cases h1 : pre [64] l = true
      · rw [if_pos h1] at he hk hp ⊢
        by_cases h2 : (usB (l.drop 1)).n = 0
        · rw [if_pos h2] at hp
          omega
        · rw [if_neg h2]
          exact ⟨nx_user _ (k_low_twice _), opL_no _ _ (by decide) (by decide), by simp [tol, told]⟩
      · rw [if_neg h1] at hk
        exact absurd rfl hk
    · rw [q] at he hk hp ⊢
      unfold syF at he hk hp ⊢
      by_cases h1 : pre [64, 64] l = true
      · rw [if_pos h1] at he hk hp ⊢
        by_cases h2 : ah isS (l.drop 2) = 0
        · rw [if_pos h2] at hk
          exact absurd rfl hk
        · rw [if_neg h2]
          refine ⟨nx_sys _ (k_low_twice _) ?_ ?_, opL_no _ _ (by decide) (by decide), by simp [tol, told]⟩
          · show ah isS ((List.take _ _).map lwB) = ((List.take _ _).map lwB).length
            rw [ah_map cs_low kps_lowS _ _ (Nat.le_refl _), List.length_map]
            exact ah_own isS _
          · intro z
            have z' : low (List.take (ah isS (l.drop 2)) (l.drop 2)) = [] := z
            have := congrArg List.length z'
            rw [k_low_len, List.length_take, List.length_nil] at this
            have := ah_le isS (l.drop 2)
            omega
      · rw [if_neg h1] at hk
        exact absurd rfl hk
    · rw [q] at he hk hp ⊢
      unfold paF at he hk hp ⊢
      by_cases h1 : has1 l [63] = true
      · rw [if_pos h1]
        exact ⟨nx_par, (by show opL [63] = false; decide), by simp [tol, told]⟩
      · rw [if_neg h1] at hk
        exact absurd rfl hk
    · rw [q] at he hk hp ⊢
      unfold sgF at he hk hp ⊢
      by_cases h1 : sgZ l (min 3 l.length) = 0
      · rw [if_pos h1] at hk
        exact absurd rfl hk
      · rw [if_neg h1]
        have hi := sgZ_in l _ h1
        obtain ⟨s1, s2, s3⟩ := sgn_ok _ hi
        exact ⟨nx_sgn _ hi, s3, s1⟩

/-! ### a whole text, told anew -/
/-- A remark between two blanks. -/
def rmk : Bl := [32, 47, 42, 32, 59, 32, 42, 47, 32]
def sayF (ws : List Wd) : Bl := ws.flatMap fun x => tol x ++ rmk
theorem nx_rem (u : Bl) : nxF (47 :: 42 :: 32 :: 59 :: 32 :: 42 :: 47 :: u) = ⟨0, ba [], 7, 0⟩ := by
  have ho : opO (47 :: 42 :: 32 :: 59 :: 32 :: 42 :: 47 :: u) = false := by simp [opO, pre, List.isPrefixOf]
  have hi : Lib.index (32 :: 59 :: 32 :: 42 :: 47 :: u) [42, 47] = 3 := by
    simp [Lib.index, List.isPrefixOf]
  have hr : reF (47 :: 42 :: 32 :: 59 :: 32 :: 42 :: 47 :: u) = ⟨0, ba [], 7, 0⟩ := by
    unfold reF
    rw [show (47 :: 42 :: 32 :: 59 :: 32 :: 42 :: 47 :: u : Bl).drop 2 = 32 :: 59 :: 32 :: 42 :: 47 :: u from rfl, hi]
    rfl
  have hg : gaF (47 :: 42 :: 32 :: 59 :: 32 :: 42 :: 47 :: u) = ⟨0, ba [], 7, 0⟩ := by
    have e2 : isB (((47 :: 42 :: 32 :: 59 :: 32 :: 42 :: 47 :: u : Bl).headD 0).toNat : Int) = false := by simp only [List.headD_cons]; decide
    unfold gaF
    rw [e2, opL_no _ _ (by decide) (by decide), ho, hr]
    simp [pre, List.isPrefixOf]
  unfold nxF
  rw [hg]
  simp
/-- A word that, told, is read again. -/
structure Own (x : Wd) : Prop where
  nx : nxF (tol x) = ⟨x.k, x.tx, (tol x).length, 0⟩
  op : opL (tol x) = false
  ne : tol x ≠ []
  k : x.k ≠ 0
theorem lx_say : ∀ ws : List Wd, (∀ x ∈ ws, Own x) → Lx (sayF ws) (ws.map stp)
  | [], _ => Lx.nil
  | x :: r, h => by
    have hx := h x (by simp)
    have ih := lx_say r (fun y hy => h y (by simp [hy]))
    have hb := ih.blank
    have hc : Lx (47 :: 42 :: 32 :: 59 :: 32 :: 42 :: 47 :: 32 :: sayF r) (r.map stp) := by
      have e := nx_rem (32 :: sayF r)
      have := Lx.step (47 :: 42 :: 32 :: 59 :: 32 :: 42 :: 47 :: 32 :: sayF r) (r.map stp) (by simp) (by rw [e]) (by rw [e]; exact hb)
      rw [e] at this
      exact this
    have hd : tol x ≠ [45, 45] := by
      intro q
      have h1 := hx.nx
      rw [q] at h1
      have h2 : (nxF [45, 45]).n = 1 := by decide +kernel
      rw [h1] at h2
      simp at h2
    have := Lx.word hx.nx rfl rfl hx.ne hd hx.op hc
    have e : one1 ⟨x.k, x.tx, (tol x).length, 0⟩ = [stp x] := by
      unfold one1
      rw [if_neg hx.k]
      rfl
    rw [e] at this
    have e2 : sayF (x :: r) = tol x ++ 32 :: 47 :: 42 :: 32 :: 59 :: 32 :: 42 :: 47 :: 32 :: sayF r := by
      show (tol x ++ rmk) ++ sayF r = _
      rw [List.append_assoc]
      rfl
    rw [e2, List.map_cons]
    exact this
theorem qt_cnt (es : Bool) (q : UInt8) : ∀ (l sa : Bl) (i : Nat) (r : Bl × Nat), qt es q l sa i = some r → r.1.length + i ≤ sa.length + r.2
  | [], sa, i, r, h => by simp [qt] at h
  | [c], sa, i, r, h => by
    simp only [qt] at h
    split at h
    · cases h
      simp only
      omega
    · cases h
  | c :: d :: l, sa, i, r, h => by
    simp only [qt] at h
    split at h
    · have h1 := qt_cnt es q l _ _ r h
      have := esc_le d
      rw [List.length_append] at h1
      omega
    · split at h
      · split at h
        · have h1 := qt_cnt es q l _ _ r h
          rw [List.length_append, List.length_cons, List.length_nil] at h1
          omega
        · cases h
          simp only
          omega
      · have h1 := qt_cnt es q (d :: l) _ _ r h
        rw [List.length_append, List.length_cons, List.length_nil] at h1
        omega
/-- A word says no more bytes than it has. -/
def Few (f : Fd) : Prop := f.tx.size ≤ f.n
theorem few0 : Few nil0 := Nat.le_refl _
theorem few_its (k : Int) (l : Bl) : Few (its k l) := Nat.le_refl _
theorem few_re (l : Bl) : Few (reF l) := by
  unfold reF
  split <;> exact Nat.zero_le _
theorem few_od (l : Bl) : Few (odF l) := by
  unfold odF
  repeat' split
  · exact few_re l
  · exact few_its _ _
  · exact few0
theorem few_num (l : Bl) : Few (numF l) := by
  unfold numF
  split
  · exact few0
  · exact few_its _ _
theorem few_na (l : Bl) : Few (naF l) := by
  unfold naF
  split
  · exact few0
  · show (low (l.take (ah isN l))).length ≤ ah isN l
    rw [k_low_len, List.length_take]
    omega
theorem few_qu (l : Bl) (k : Int) (es : Bool) : Few (quF l k es) := by
  unfold quF
  split
  · exact Nat.zero_le _
  · split
    · exact Nat.zero_le _
    · rename_i x h
      have := qt_cnt es _ _ _ _ x h
      show x.1.length ≤ x.2
      simp only [List.length_nil] at this
      omega
theorem few_qn (l : Bl) : Few (qnF l) := by
  unfold qnF
  split
  · exact few_qu _ _ _
  · exact few0
theorem few_qt (l : Bl) : Few (qtF l) := by
  unfold qtF
  split
  · exact few_qu _ _ _
  · exact few0
theorem few_lg (fs : List Fd) (b : Fd) (hb : Few b) (h : ∀ f ∈ fs, Few f) : Few (lgF b fs) := by
  rcases lgF_mem fs b with e | e
  · rw [e]; exact hb
  · exact h _ e
theorem few_usB (l : Bl) : Few (usB l) := by
  refine few_lg _ _ few0 (fun f hf => ?_)
  simp only [List.mem_cons, List.not_mem_nil, or_false] at hf
  rcases hf with rfl | rfl | rfl
  · exact few_na l
  · exact few_qn l
  · exact few_qt l
theorem few_us (l : Bl) : Few (usF l) := by
  have h := few_usB (l.drop 1)
  unfold usF
  split
  · split
    · exact h
    · show (low (bl (usB (l.drop 1)).tx)).length ≤ _ + 1
      rw [k_low_len, bl_len]
      exact Nat.le_succ_of_le h
  · exact few0
theorem few_sy (l : Bl) : Few (syF l) := by
  unfold syF
  repeat' split
  · exact few0
  · show (low ((l.drop 2).take (ah isS (l.drop 2)))).length ≤ _ + 2
    rw [k_low_len, List.length_take]
    omega
  · exact few0
theorem few_pa (l : Bl) : Few (paF l) := by
  unfold paF
  split <;> exact Nat.zero_le _
theorem few_sg (l : Bl) : Few (sgF l) := by
  unfold sgF
  split
  · exact few0
  · exact few_its _ _
theorem few_ch (l : Bl) : Few (chF l) := by
  refine few_lg _ _ few0 (fun f hf => ?_)
  simp only [List.mem_cons, List.not_mem_nil, or_false] at hf
  rcases hf with rfl | rfl | rfl | rfl | rfl | rfl | rfl | rfl | rfl
  · exact few_od l
  · exact few_num l
  · exact few_na l
  · exact few_qn l
  · exact few_qt l
  · exact few_us l
  · exact few_sy l
  · exact few_pa l
  · exact few_sg l
theorem tol_len (x : Wd) : (tol x).length ≤ 4 * x.tx.size + 4 := by
  unfold tol
  split
  · unfold upp
    rw [List.length_map, bl_len]
    omega
  · exact told_len x
/-- Each word of a text is told as what it is, and all that is told has no more than 17 times the text's bytes. -/
theorem wsF_own : ∀ (m : Nat) (l : Bl) (i : Nat), (∀ x ∈ (wsF m l i).1, Own x) ∧ (sayF (wsF m l i).1).length ≤ 17 * l.length
  | 0, l, i => ⟨fun x hx => (by cases hx), Nat.zero_le _⟩
  | m + 1, l, i => by
    simp only [wsF]
    by_cases hl : l = []
    · rw [if_pos hl]
      exact ⟨fun x hx => (by cases hx), Nat.zero_le _⟩
    · rw [if_neg hl]
      by_cases he : (nxF l).e = 0
      · rw [if_neg (by simpa using he)]
        split
        · obtain ⟨i1, i2⟩ := wsF_own m (l.drop (nxF l).n) (i + (nxF l).n)
          have hp := nxF_pos l he
          have hn := nxF_le l hl
          rw [List.length_drop] at i2
          by_cases hk : (nxF l).k = 0
          · simp only [hk, if_true, List.nil_append]
            exact ⟨i1, by omega⟩
          · simp only [hk, if_false, List.cons_append, List.nil_append]
            obtain ⟨t1, t2, t3⟩ := tol_own l he hk (i : Int)
            refine ⟨fun x hx => ?_, ?_⟩
            · rcases List.mem_cons.1 hx with rfl | hx
              · exact ⟨t1, t2, t3, hk⟩
              · exact i1 x hx
            · have h1 := tol_len ⟨(nxF l).k, (nxF l).tx, (i : Int)⟩
              have h2 : (nxF l).tx.size ≤ (nxF l).n := by
                have := few_ch l
                rw [← nxF_ch l hk] at this
                exact this
              have h3 : (sayF (⟨(nxF l).k, (nxF l).tx, (i : Int)⟩ :: (wsF m (l.drop (nxF l).n) (i + (nxF l).n)).1)).length = (tol ⟨(nxF l).k, (nxF l).tx, (i : Int)⟩).length + 9 + (sayF (wsF m (l.drop (nxF l).n) (i + (nxF l).n)).1).length := by
                show ((tol ⟨(nxF l).k, (nxF l).tx, (i : Int)⟩ ++ rmk) ++ sayF (wsF m (l.drop (nxF l).n) (i + (nxF l).n)).1).length = _
                rw [List.length_append, List.length_append]
                rfl
              rw [h3]
              simp only at h1
              omega
        · exact ⟨fun x hx => (by cases hx), Nat.zero_le _⟩
      · rw [if_pos (by simpa using he)]
        exact ⟨fun x hx => (by cases hx), Nat.zero_le _⟩
/-- A text, told anew, does what it did. -/
theorem ofF_say (s : Bl) (hs : s.length ≤ 2000) (h : (alW s).2 = ok0) : ofF (sayF (alW s).1) = ofF s ∧ (ofF s).2 = ok0 ∧ (sayF (alW s).1).length ≤ 34000 ∧ (∀ x ∈ (alW s).1, Own x) := by
  obtain ⟨h1, h2⟩ := alW_ok h
  obtain ⟨o1, o2⟩ := wsF_own s.length s 0
  rw [← h2] at o1 o2
  have hx := lx_say _ o1
  obtain ⟨a1, a2⟩ := lx_alW (by omega) hx
  have e1 : ofF s = (ofW (alW s).1, ok0) := by
    unfold ofF
    rw [if_pos (show (alW s).2 = (⟨0, 0⟩ : Ft) from h)]
    rfl
  have e2 : ofF (sayF (alW s).1) = (ofW (alW (sayF (alW s).1)).1, ok0) := by
    unfold ofF
    rw [if_pos (show (alW (sayF (alW s).1)).2 = (⟨0, 0⟩ : Ft) from a1)]
    rfl
  rw [e2, e1, ofW_stp (show _ from a2)]
  exact ⟨rfl, rfl, by omega, o1⟩

end Go.Proofs.YtddfbaaghjcbnaaGreatDoor

namespace Go.Proofs.YtddfbaaghjcbnaaGreatDoor
open Go.RowKit
set_option linter.unusedVariables false
set_option linter.unusedSimpArgs false

def upI (x : Int) : Int := if 97 ≤ x ∧ x ≤ 122 then x - 32 else x
theorem upI_B (c : UInt8) : UInt8.ofNat (upI c.toNat).toNat = upB c := by
  have := all256 (fun c => decide (UInt8.ofNat (upI c.toNat).toNat = upB c)) (by decide +kernel) c
  exact of_decide_eq_true this
theorem up_str (s : ByteArray) : strOfNums ((nums s).map upI) = ba (upp (bl s)) := by
  apply ByteArray.ext
  apply Array.ext'
  rw [strOfNums_data, nums_bl, List.map_map, List.map_map]
  show _ = upp (bl s)
  unfold upp
  apply List.map_congr_left
  intro a _
  exact upI_B a
theorem upI_b {x : Int} (h : 0 ≤ x ∧ x ≤ 255) : 0 ≤ upI x ∧ upI x ≤ 255 := by
  unfold upI
  split <;> omega
/-- Of s's bytes at block g the first j are great, the others as they were. -/
def Ups (s : ByteArray) (g j : Nat) (w : World) : Prop := ∀ t, t < s.size → w.cell? ⟨g, t, none⟩ = some (.int .u8 (if t < j then upI (lwAt s t) else lwAt s t)) ∧ w.frozen? ⟨g, t, none⟩ = false
theorem Ups.stored {s : ByteArray} {g j : Nat} {w : World} (h : Ups s g j w) (hj : j < s.size) (v : Int) (hv : v = upI (lwAt s j)) : Ups s g (j + 1) (w.setCell ⟨g, j, none⟩ (.int .u8 v)) := by
  intro t ht
  refine ⟨?_, by rw [World.frozen?_setCell]; exact (h t ht).2⟩
  by_cases e : t = j
  · subst e
    rw [World.cell?_setCell_same _ _ _ (h t ht).1, if_pos (by omega), hv]
  · rw [World.cell?_setCell_other _ _ _ _ (by simp <;> omega), (h t ht).1]
    congr 2
    by_cases q : t < j
    · rw [if_pos q, if_pos (by omega)]
    · rw [if_neg q, if_neg (by omega)]
theorem Ups.kept {s : ByteArray} {g j : Nat} {w : World} (h : Ups s g j w) (hv : upI (lwAt s j) = lwAt s j) : Ups s g (j + 1) w := by
  intro t ht
  refine ⟨?_, (h t ht).2⟩
  rw [(h t ht).1]
  congr 2
  by_cases e : t = j
  · subst e
    rw [if_neg (by omega), if_pos (by omega), hv]
  · by_cases q : t < j
    · rw [if_pos q, if_pos (by omega)]
    · rw [if_neg q, if_neg (by omega)]
theorem Ups.of (s : ByteArray) (g : Nat) (w : World) (h : Lws s g 0 w) : Ups s g 0 w := by
  intro t ht
  have := h t ht
  rw [if_neg (by omega)] at this ⊢
  exact this
/-- All great. -/
theorem Ups.bs {s : ByteArray} {g j c : Nat} {w : World} (h : Ups s g j w) (hj : s.size ≤ j) (hc : s.size ≤ c) (hm : c ≤ 9223372036854775807) : Bs w (some ⟨g, 0, none⟩) s.size c (nums (ba (upp (bl s)))) := by
  have hn : nums (ba (upp (bl s))) = (nums s).map upI := by
    rw [nums_bl, nums_bl, bl_ba, List.map_map]
    unfold upp
    rw [List.map_map]
    apply List.map_congr_left
    intro a _
    have := all256 (fun c => decide (((upB c).toNat : Int) = upI (c.toNat : Int))) (by decide +kernel) a
    exact of_decide_eq_true this
  rw [hn]
  refine ⟨by simp [nums_length], hc, hm, (fun e => by cases e), fun x hx => ?_, .inr ⟨g, 0, rfl, fun i hi => ?_⟩⟩
  · obtain ⟨y, hy, rfl⟩ := List.mem_map.1 hx
    exact upI_b (nums_byt s y hy)
  · rw [Nat.zero_add, (h i hi).1, if_pos (by omega)]
    congr 2
    have hz := bl_len s
    unfold lwAt
    rw [nums_bl]
    simp [List.getElem?_eq_getElem (show i < (bl s).length by omega)]
/-- None made great: the word is no name. -/
theorem Lws.bs0 {s : ByteArray} {g c : Nat} {w : World} (h : Lws s g 0 w) (hc : s.size ≤ c) (hm : c ≤ 9223372036854775807) : Bs w (some ⟨g, 0, none⟩) s.size c (nums s) := by
  refine ⟨by simp [nums_length], hc, hm, (fun e => by cases e), fun x hx => nums_byt s x hx, .inr ⟨g, 0, rfl, fun i hi => ?_⟩⟩
  rw [Nat.zero_add, (h i hi).1, if_neg (by omega)]
  congr 2
  have hz := bl_len s
  unfold lwAt
  rw [nums_bl]
  simp [List.getElem?_eq_getElem (show i < (bl s).length by omega)]
theorem nums_app (a b : Bl) : nums (ba (a ++ b)) = nums (ba a) ++ nums (ba b) := by
  rw [nums_bl, nums_bl, nums_bl, bl_ba, bl_ba, bl_ba, List.map_append]
theorem str_nums (l : Bl) : strOfNums (nums (ba l)) = ba l := by
  apply ByteArray.ext
  apply Array.ext'
  rw [strOfNums_data, nums_bl, List.map_map, bl_ba]
  show _ = l
  have : ∀ c : UInt8, UInt8.ofNat ((c.toNat : Int)).toNat = c := fun c => by simp
  conv => rhs; rw [← List.map_id l]
  apply List.map_congr_left
  intro a _
  exact this a

/-- 'l[i:j]' of words. -/
theorem run_cutW_lh (ao : Option Addr) (n c lo hi : Nat) (h1 : lo ≤ hi) (h2 : hi ≤ c) (L H : Int) (hL : L = lo) (hH : H = hi) (w : World) :
    (Instr.slice 23 (.slice ao n c) (some (.int .i64 L)) (some (.int .i64 H)) none).run Tryz.prog w = .ok (.slice (cutW ao c lo) (hi - lo) (c - lo)) w := by
  subst hL hH
  rw [run_slice_lh w 23 ao n c elemW .i64 .i64 lo hi (by omega) (by omega) (by omega), Tryz.sizeWd]
  rfl
/-- One word of a row. -/
theorem Wds.one {w : World} {ao : Option Addr} {n c : Nat} {l : List Wd} (h : Wds w ao n c l) {j : Nat} {x : Wd} (hx : l[j]? = some x) : Wds w (cutW ao c j) (j + 1 - j) (c - j) [x] := by
  have hj : j < l.length := (List.getElem?_eq_some_iff.1 hx).1
  have := h.cut (lo := j) (hi := j + 1) (by omega) (by rw [← h.len]; omega)
  have e : (l.drop j).take (j + 1 - j) = [x] := by
    have := drop_wd hx
    rw [this, show j + 1 - j = 1 by omega]
    rfl
  rwa [e] at this
/-- One word, told. -/
theorem told_one (x : Wd) : tolds [] 0 [x] = told x := by
  show tolds ((if 0 < 0 then ([] : Bl) ++ [32] else []) ++ told x) 1 [] = told x
  rfl
/-- 'append(out, s...)', s a text: what has changed. -/
theorem wpList_appT {ops : Array Oper} {rest : List Oper} {o : Oper} {a : Act} {w : World} {Q : Exit → Act → World → Prop} (hgd : o.guard = none) (sl x : Operand)
    (ho : o.op = .call { callee := .builtin .append, args := #[sl, x], argTypes := #[32, 9] })
    (B : Nat) (ao : Option Addr) (n c : Nat) (bs : List Int) (hs : a.eval sl = .slice ao n c) (hm : Mine B w ao n c bs)
    (s : ByteArray) (hx : a.eval x = .string s) (hbound : n + s.size ≤ 140737488355328) (hB : B ≤ w.heap.size)
    (h : ∀ ao1 c1 w1, Mine B w1 ao1 (n + s.size) c1 (bs ++ nums s) → Below B w w1 → wpList Tryz.prog ops Q rest (a.put o.dst (.slice ao1 (n + s.size) c1)) w1) :
    wpList Tryz.prog ops Q (o :: rest) a w := by
  obtain ⟨i0, hi, hz0, hz1, hz2⟩ := info_parts Tryz.infoByte
  refine Lib.wpList_append_own_string w hgd sl x 32 9 ho B 5 i0 Tryz.underlying32 Tryz.underlying9 hi hz0 hz1 hz2 _ _ _ hs hm.own s hx (by unfold maxLen; omega) (by omega) hB ?_
  intro v' w' hown hgrow _
  have hcells : Lib.strCells s = (nums s).map (Value.int .u8) := by simp [Lib.strCells, nums]
  rw [hcells, ← List.map_append] at hown
  have hbel : Below B w w' := (Below.refl B w).grown hgrow hB (fun k hk => (hm.own.lt k hk).1)
  have hex : ∃ ao1 c1, v' = .slice ao1 (n + s.size) c1 := by
    rcases hown.2 with ⟨hv, h0⟩ | ⟨g, cap, cur, hv, _⟩
    · exact ⟨.none, 0, by rw [hv, h0]⟩
    · exact ⟨_, _, hv⟩
  obtain ⟨ao1, c1, hv⟩ := hex
  subst hv
  exact h ao1 c1 w' ⟨by simp [hm.len, nums_length], hown, hm.byt.app (nums_byt s)⟩ hbel

end Go.Proofs.YtddfbaaghjcbnaaGreatDoor
