/-
  What is left of words for a digest, as plain functions on lists of words: the program's passes, the document's, and that both leave the same. No program and no memory is named here.
-/
import Derived.Test.YtgbahfadjdincaaGreatDoorScPlain
namespace Go.Proofs.YtgbahfadjdincaaGreatDoor
set_option linter.unusedVariables false
set_option linter.unusedSimpArgs false

def dOp : ByteArray := ba [40]
def dCl : ByteArray := ba [41]
def dCo : ByteArray := ba [44]
def dEq : ByteArray := ba [61]
def dMi : ByteArray := ba [45]
def dPl : ByteArray := ba [43]
def dSe : ByteArray := ba [59]
def dQu : ByteArray := ba [63]
/-- A text, a number is a parameter. -/
def dpar (x : Wd) : Wd := if x.k = 3 ∨ x.k = 4 then ⟨8, ba [], x.at'⟩ else x
/-- A sign; with ? a parameter. -/
def dis (s : ByteArray) (x : Wd) : Bool := if s = dQu then decide (x.k = 8) else decide (x.k = 5) && decide (x.tx = s)
theorem dis_ne {s t : ByteArray} {x : Wd} (h : dis s x = true) (hn : s ≠ t) : dis t x = false := by
  unfold dis at h ⊢
  by_cases h1 : s = dQu
  · rw [if_pos h1] at h
    rw [if_neg (fun e => hn (by rw [h1, e]))]
    have h8 : x.k = 8 := by simpa using h
    simp [h8]
  · rw [if_neg h1] at h
    have h5 : x.k = 5 ∧ x.tx = s := by simpa using h
    by_cases h2 : t = dQu
    · rw [if_pos h2]
      simp [h5.1]
    · rw [if_neg h2]
      simp [h5.1, h5.2, hn]
/-- Words begin with some. -/
def dbg : List Wd → List ByteArray → Bool
  | _, [] => true
  | [], _ :: _ => false
  | x :: l, s :: r => dis s x && dbg l r
theorem dbg_short : ∀ (l : List Wd) (s : List ByteArray), l.length < s.length → dbg l s = false
  | _, [], h => by simp at h
  | [], _ :: _, _ => rfl
  | x :: l, s :: r, h => by
    simp only [dbg, dbg_short l r (by simpa using h), Bool.and_false]
theorem dbg_snoc : ∀ (a : List Wd) (x : Wd) (ss : List ByteArray) (s : ByteArray), a.length = ss.length → dbg (a ++ [x]) (ss ++ [s]) = (dbg a ss && dis s x)
  | [], x, [], s, _ => by simp [dbg]
  | y :: a, x, t :: ss, s, h => by
    have ih := dbg_snoc a x ss s (by simpa using h)
    show (dis t y && dbg (a ++ [x]) (ss ++ [s])) = _
    rw [ih]
    simp [dbg, Bool.and_assoc]
  | [], _, _ :: _, _, h => by simp at h
  | _ :: _, _, [], _, h => by simp at h
/-- Words end with some. -/
def dend (l : List Wd) (s : List ByteArray) : Bool := decide (s.length ≤ l.length) && dbg (l.drop (l.length - s.length)) s
theorem dend_nil (l : List Wd) : dend l [] = true := by
  unfold dend
  cases h : l.drop (l.length - ([] : List ByteArray).length) <;> simp [dbg]
theorem dend_none (s : ByteArray) (r : List ByteArray) : dend [] (s :: r) = false := by simp [dend]
theorem dend_snoc (k : List Wd) (x : Wd) (ss : List ByteArray) (s : ByteArray) : dend (k ++ [x]) (ss ++ [s]) = (dend k ss && dis s x) := by
  unfold dend
  by_cases h : ss.length ≤ k.length
  · have e : (k ++ [x]).drop ((k ++ [x]).length - (ss ++ [s]).length) = k.drop (k.length - ss.length) ++ [x] := by
      rw [show (k ++ [x]).length - (ss ++ [s]).length = k.length - ss.length by simp, List.drop_append_of_le_length (by omega)]
    rw [e, dbg_snoc _ _ _ _ (by simp; omega)]
    simp [h]
  · simp [h]
theorem dend1 (k : List Wd) (x : Wd) (s : ByteArray) : dend (k ++ [x]) [s] = dis s x := by
  have := dend_snoc k x [] s
  rw [dend_nil, Bool.true_and] at this
  exact this
theorem dend2 (k : List Wd) (x : Wd) (s t : ByteArray) : dend (k ++ [x]) [s, t] = (dend k [s] && dis t x) := dend_snoc k x [s] t
theorem dend3 (k : List Wd) (x : Wd) (s t u : ByteArray) : dend (k ++ [x]) [s, t, u] = (dend k [s, t] && dis u x) := dend_snoc k x [s, t] u

/-- The words that a change leaves: it tells how many of those left go, by those that were kept. -/
def dwo (P : List Wd → List Wd → Nat) : Nat → List Wd → List Wd → List Wd
  | _, k, [] => k
  | s + 1, k, _ :: r => dwo P s k r
  | 0, k, x :: r => if P k (x :: r) = 0 then dwo P 0 (k ++ [x]) r else dwo P (P k (x :: r) - 1) k r
theorem dwo_nil (P : List Wd → List Wd → Nat) (s : Nat) (k : List Wd) : dwo P s k [] = k := by cases s <;> rfl
theorem dwo_drop (P : List Wd → List Wd → Nat) : ∀ (l : List Wd) (s : Nat) (k : List Wd), dwo P s k l = dwo P 0 k (l.drop s)
  | [], s, k => by rw [List.drop_nil, dwo_nil, dwo_nil]
  | x :: r, 0, k => rfl
  | x :: r, s + 1, k => dwo_drop P r s k
theorem dwo_stay {P : List Wd → List Wd → Nat} {k : List Wd} {x : Wd} {r : List Wd} (h : P k (x :: r) = 0) : dwo P 0 k (x :: r) = dwo P 0 (k ++ [x]) r := by
  show (if P k (x :: r) = 0 then _ else _) = _
  rw [if_pos h]
theorem dwo_go {P : List Wd → List Wd → Nat} {k l : List Wd} (h : P k l ≠ 0) : dwo P 0 k l = dwo P 0 k (l.drop (P k l)) := by
  cases l with
  | nil => rw [List.drop_nil]
  | cons x r =>
    show (if P k (x :: r) = 0 then _ else _) = _
    rw [if_neg h, dwo_drop]
    obtain ⟨n, hn⟩ : ∃ n, P k (x :: r) = n + 1 := ⟨P k (x :: r) - 1, by omega⟩
    rw [hn]
    rfl

def dP1 (_ l : List Wd) : Nat := match l with
  | x :: _ => if x.k = 9 then 1 else 0
  | [] => 0
def dah (p : Option Wd) : Bool := match p with
  | none => true
  | some x => dis dOp x || dis dCo x || dis dEq x
def dsn (p : Option Wd) (l : List Wd) : Bool := match l with
  | x :: r => dah p && (dis dMi x || dis dPl x) && dbg r [dQu]
  | [] => false
def dP2 (k l : List Wd) : Nat := if dsn k.getLast? l then 1 else 0
/-- How many words the pairs of a comma and a parameter have with which words begin. -/
def dcn : List Wd → Nat
  | x :: y :: r => if dis dCo x && dis dQu y then dcn r + 2 else 0
  | _ => 0
def dP3 (k l : List Wd) : Nat := if dend k [dOp, dQu] then (if dbg (l.drop (dcn l)) [dCl] then dcn l else 0) else 0
def dP4 (k l : List Wd) : Nat := if dend k [dOp, dQu, dCl] && dbg l [dCo, dOp, dQu, dCl] then 4 else 0
/-- The signs at the end. -/
def dse (l : List Wd) : Nat := (l.reverse.takeWhile (dis dSe)).length
def dre (l : List Wd) : List Wd := l.take (l.length - dse l)
def dgW (l : List Wd) : List Wd := dre (dwo dP4 0 [] (dwo dP3 0 [] (dwo dP2 0 [] (dwo dP1 0 [] (l.map dpar)))))

/-- The document's: signs ahead of parameters. -/
def dsg (p : Option Wd) : List Wd → List Wd
  | [] => []
  | x :: r => if dsn p (x :: r) then dsg (some x) r else x :: dsg (some x) r
/-- How long the row of parameters is with which words begin; 0, if there is none. -/
def drw (l : List Wd) : Nat := if dbg l [dOp, dQu] then (if dbg (l.drop (2 + dcn (l.drop 2))) [dCl] then 3 + dcn (l.drop 2) else 0) else 0
def drs : Nat → List Wd → List Wd
  | _, [] => []
  | s + 1, _ :: r => drs s r
  | 0, x :: r => if drw (x :: r) = 0 then x :: drs 0 r else (x :: r).take 2 ++ (((x :: r).drop (drw (x :: r) - 1)).take 1 ++ drs (drw (x :: r) - 1) r)
def dsk : List Wd → Nat
  | c :: o :: q :: p :: r => if dbg [c, o, q, p] [dCo, dOp, dQu, dCl] then dsk r + 4 else 0
  | _ => 0
def dls : Nat → List Wd → List Wd
  | _, [] => []
  | s + 1, _ :: r => dls s r
  | 0, x :: r => if dbg (x :: r) [dOp, dQu, dCl] then (x :: r).take 3 ++ dls (2 + dsk (r.drop 2)) r else x :: dls 0 r
def drg (l : List Wd) : List Wd := dre (dls 0 (drs 0 (dsg none ((l.filter fun x => decide (x.k ≠ 9)).map dpar))))

theorem drs_drop : ∀ (l : List Wd) (s : Nat), drs s l = drs 0 (l.drop s)
  | [], s => by rw [List.drop_nil]; cases s <;> rfl
  | x :: r, 0 => rfl
  | x :: r, s + 1 => drs_drop r s
theorem dls_drop : ∀ (l : List Wd) (s : Nat), dls s l = dls 0 (l.drop s)
  | [], s => by rw [List.drop_nil]; cases s <;> rfl
  | x :: r, 0 => rfl
  | x :: r, s + 1 => dls_drop r s
theorem drs_stay {x : Wd} {r : List Wd} (h : drw (x :: r) = 0) : drs 0 (x :: r) = x :: drs 0 r := by
  show (if drw (x :: r) = 0 then _ else _) = _
  rw [if_pos h]
theorem drs_row {x : Wd} {r : List Wd} (h : drw (x :: r) ≠ 0) : drs 0 (x :: r) = (x :: r).take 2 ++ (((x :: r).drop (drw (x :: r) - 1)).take 1 ++ drs 0 ((x :: r).drop (drw (x :: r)))) := by
  show (if drw (x :: r) = 0 then _ else _) = _
  rw [if_neg h, drs_drop]
  obtain ⟨n, hn⟩ : ∃ n, drw (x :: r) = n + 1 := ⟨drw (x :: r) - 1, by omega⟩
  rw [hn]
  rfl
theorem dls_stay {x : Wd} {r : List Wd} (h : dbg (x :: r) [dOp, dQu, dCl] = false) : dls 0 (x :: r) = x :: dls 0 r := by
  show (if _ then _ else _) = _
  rw [h]
  rfl
theorem dls_row {x y p : Wd} {r : List Wd} (h : dbg (x :: y :: p :: r) [dOp, dQu, dCl] = true) : dls 0 (x :: y :: p :: r) = [x, y, p] ++ dls 0 (r.drop (dsk r)) := by
  show (if _ then _ else _) = _
  rw [h, if_pos rfl, dls_drop]
  show [x, y, p] ++ dls 0 ((y :: p :: r).drop (2 + dsk r)) = _
  rw [show 2 + dsk r = dsk r + 2 by omega]
  rfl

theorem dwo_1 : ∀ (l k : List Wd), dwo dP1 0 k l = k ++ l.filter fun x => decide (x.k ≠ 9)
  | [], k => by rw [dwo_nil]; simp
  | x :: r, k => by
    by_cases h : x.k = 9
    · have e : dP1 k (x :: r) = 1 := by simp [dP1, h]
      rw [dwo_go (by rw [e]; decide), e, List.drop_one, List.tail_cons, dwo_1 r k]
      simp [h]
    · have e : dP1 k (x :: r) = 0 := by simp [dP1, h]
      rw [dwo_stay e, dwo_1 r (k ++ [x])]
      simp [h]
theorem dpar_k (x : Wd) : (dpar x).k = 9 ↔ x.k = 9 := by
  unfold dpar
  split
  · rename_i h
    constructor
    · intro e; cases e
    · intro e; omega
  · exact Iff.rfl
theorem dpar_odd (l : List Wd) : (l.map dpar).filter (fun x => decide (x.k ≠ 9)) = (l.filter fun x => decide (x.k ≠ 9)).map dpar := by
  induction l with
  | nil => rfl
  | cons x r ih =>
    by_cases h : x.k = 9
    · simp [(dpar_k x).2 h, h] at ih ⊢; exact ih
    · have : (dpar x).k ≠ 9 := fun e => h ((dpar_k x).1 e)
      simp [this, h] at ih ⊢; exact ih
theorem dne : dQu ≠ dMi ∧ dQu ≠ dPl ∧ dQu ≠ dOp ∧ dQu ≠ dCl ∧ dQu ≠ dCo ∧ dOp ≠ dQu ∧ dOp ≠ dCl ∧ dOp ≠ dCo ∧ dCl ≠ dOp ∧ dCl ≠ dCo ∧ dCl ≠ dQu ∧ dCo ≠ dOp ∧ dCo ≠ dQu := by decide +kernel
theorem dbg1 {l : List Wd} {s : ByteArray} (h : dbg l [s] = true) : ∃ y r, l = y :: r ∧ dis s y = true := by
  cases l with
  | nil => cases h
  | cons y r => exact ⟨y, r, rfl, by simpa [dbg] using h⟩
theorem dwo_2 : ∀ (l k : List Wd), dwo dP2 0 k l = k ++ dsg k.getLast? l
  | [], k => by rw [dwo_nil]; simp [dsg]
  | x :: r, k => by
    cases h : dsn k.getLast? (x :: r) with
    | true =>
      have e : dP2 k (x :: r) = 1 := by simp [dP2, h]
      rw [dwo_go (by rw [e]; decide), e, List.drop_one, List.tail_cons, dwo_2 r k]
      simp only [dsg, h, if_true]
      have hq : dbg r [dQu] = true := by
        simp only [dsn, Bool.and_eq_true] at h
        exact h.2
      obtain ⟨y, t, rfl, hy⟩ := dbg1 hq
      have s0 : ∀ p, dsn p (y :: t) = false := fun p => by simp [dsn, dis_ne hy dne.1, dis_ne hy dne.2.1]
      simp [dsg, s0]
    | false =>
      have e : dP2 k (x :: r) = 0 := by simp [dP2, h]
      rw [dwo_stay e, dwo_2 r (k ++ [x])]
      simp [dsg, h]
theorem drw_no {x : Wd} {r : List Wd} (h : dis dOp x = false ∨ dbg r [dQu] = false) : drw (x :: r) = 0 := by
  unfold drw
  rw [if_neg]
  rcases h with h | h
  · simp [dbg, h]
  · cases r with
    | nil => simp [dbg]
    | cons y t =>
      have : dis dQu y = false := by simpa [dbg] using h
      simp [dbg, this]
theorem dcn_no {x : Wd} {r : List Wd} (h : dis dCo x = false) : dcn (x :: r) = 0 := by
  cases r with
  | nil => rfl
  | cons y t => simp [dcn, h]
theorem dwo_3 : ∀ (m : Nat) (l k : List Wd), l.length ≤ m → dP3 k l = 0 → (dend k [dOp] = true → dbg l [dQu] = false) → dwo dP3 0 k l = k ++ drs 0 l
  | _, [], k, _, _, _ => by rw [dwo_nil]; simp [drs]
  | 0, _ :: _, _, h, _, _ => by simp at h
  | m + 1, z :: r, k, hl, h0, hk => by
    rw [dwo_stay h0]
    have hlr : r.length ≤ m := by simpa using hl
    by_cases hA : dis dOp z = true ∧ dbg r [dQu] = true
    · obtain ⟨hz, hq⟩ := hA
      obtain ⟨y, t, rfl, hy⟩ := dbg1 hq
      have hlt : t.length ≤ m := by simp at hlr; omega
      have p1 : dP3 (k ++ [z]) (y :: t) = 0 := by
        unfold dP3
        rw [dend2, dis_ne hz dne.2.2.2.2.2.1, Bool.and_false]
        rfl
      rw [dwo_stay p1]
      have hD : dend (k ++ [z] ++ [y]) [dOp, dQu] = true := by rw [dend2, dend1, hz, hy]; rfl
      have hD1 : dend (k ++ [z] ++ [y]) [dOp] = false := by rw [dend1]; exact dis_ne hy dne.2.2.1
      have hrw : drw (z :: y :: t) = if dbg (t.drop (dcn t)) [dCl] then 3 + dcn t else 0 := by
        unfold drw
        have e1 : dbg (z :: y :: t) [dOp, dQu] = true := by simp [dbg, hz, hy]
        rw [if_pos e1]
        have e2 : (z :: y :: t).drop (2 + dcn ((z :: y :: t).drop 2)) = t.drop (dcn t) := by
          show (z :: y :: t).drop (2 + dcn t) = _
          rw [show 2 + dcn t = dcn t + 2 by omega]
          rfl
        rw [e2]
        rfl
      have p2 : dP3 (k ++ [z] ++ [y]) t = if dbg (t.drop (dcn t)) [dCl] then dcn t else 0 := by
        unfold dP3
        rw [if_pos hD]
      cases hc : dbg (t.drop (dcn t)) [dCl] with
      | true =>
        rw [hc] at hrw p2
        simp only [if_true] at hrw p2
        obtain ⟨p, u, hu, hp⟩ := dbg1 hc
        have e1 : dwo dP3 0 (k ++ [z] ++ [y]) t = dwo dP3 0 (k ++ [z] ++ [y]) (p :: u) := by
          by_cases hz0 : dcn t = 0
          · rw [← hu, hz0]
            rfl
          · rw [dwo_go (by rw [p2]; exact hz0), p2, hu]
        have hlu : (p :: u).length ≤ m := by rw [← hu, List.length_drop]; omega
        have p3 : dP3 (k ++ [z] ++ [y]) (p :: u) = 0 := by
          unfold dP3
          rw [dcn_no (dis_ne hp dne.2.2.2.2.2.2.2.2.2.1)]
          simp
        have ih := dwo_3 m (p :: u) (k ++ [z] ++ [y]) hlu p3 (fun e => by rw [hD1] at e; cases e)
        rw [e1, ih, drs_stay (drw_no (.inl (dis_ne hp dne.2.2.2.2.2.2.2.2.1))), drs_row (by rw [hrw]; omega), hrw]
        have e3 : (z :: y :: t).drop (3 + dcn t - 1) = p :: u := by
          rw [show 3 + dcn t - 1 = dcn t + 2 by omega, ← hu]
          rfl
        have e4 : (z :: y :: t).drop (3 + dcn t) = u := by
          have : (z :: y :: t).drop (3 + dcn t) = ((z :: y :: t).drop (3 + dcn t - 1)).drop 1 := by rw [List.drop_drop]; congr 1; omega
          rw [this, e3]
          rfl
        rw [e3, e4]
        simp
      | false =>
        rw [hc] at hrw p2
        simp only [Bool.false_eq_true, if_false] at hrw p2
        have ih := dwo_3 m t (k ++ [z] ++ [y]) hlt p2 (fun e => by rw [hD1] at e; cases e)
        rw [ih, drs_stay hrw, drs_stay (drw_no (.inl (dis_ne hy dne.2.2.1)))]
        simp
    · have hn : dis dOp z = false ∨ dbg r [dQu] = false := by
        cases h1 : dis dOp z with
        | false => exact .inl rfl
        | true =>
          right
          cases h2 : dbg r [dQu] with
          | false => rfl
          | true => exact absurd ⟨h1, h2⟩ hA
      have p1 : dP3 (k ++ [z]) r = 0 := by
        unfold dP3
        rw [dend2]
        cases h1 : dend k [dOp] with
        | false => rfl
        | true =>
          have := hk h1
          have hq : dis dQu z = false := by simpa [dbg] using this
          rw [hq]
          rfl
      have ih := dwo_3 m r (k ++ [z]) hlr p1 (fun e => by
        rw [dend1] at e
        rcases hn with h | h
        · rw [h] at e; cases e
        · exact h)
      rw [ih, drs_stay (drw_no hn)]
      simp
theorem dsk_end : ∀ (m : Nat) (l : List Wd), l.length ≤ m → dbg (l.drop (dsk l)) [dCo, dOp, dQu, dCl] = false
  | m, [], _ => rfl
  | m, [_], _ => by simp [dsk, dbg]
  | m, [_, _], _ => by simp [dsk, dbg]
  | m, [_, _, _], _ => by simp [dsk, dbg]
  | 0, _ :: _ :: _ :: _ :: _, h => by simp at h
  | m + 1, c :: o :: q :: p :: r, h => by
    have ih := dsk_end m r (by simp at h; omega)
    cases hc : dbg [c, o, q, p] [dCo, dOp, dQu, dCl] with
    | true =>
      simp only [dsk, hc, if_true]
      exact ih
    | false =>
      simp only [dsk, hc, Bool.false_eq_true, if_false, List.drop_zero]
      simpa [dbg] using hc
theorem dwo_skip {k : List Wd} (hk : dend k [dOp, dQu, dCl] = true) : ∀ (m : Nat) (l : List Wd), l.length ≤ m → dwo dP4 0 k l = dwo dP4 0 k (l.drop (dsk l))
  | m, [], _ => rfl
  | m, [_], _ => rfl
  | m, [_, _], _ => rfl
  | m, [_, _, _], _ => rfl
  | 0, _ :: _ :: _ :: _ :: _, h => by simp at h
  | m + 1, c :: o :: q :: p :: r, h => by
    have ih := dwo_skip hk m r (by simp at h; omega)
    cases hc : dbg [c, o, q, p] [dCo, dOp, dQu, dCl] with
    | true =>
      simp only [dsk, hc, if_true]
      have e : dP4 k (c :: o :: q :: p :: r) = 4 := by
        unfold dP4
        have : dbg (c :: o :: q :: p :: r) [dCo, dOp, dQu, dCl] = true := by simpa [dbg] using hc
        rw [hk, this]
        rfl
      rw [dwo_go (by rw [e]; decide), e]
      exact ih
    | false =>
      simp only [dsk, hc, Bool.false_eq_true, if_false, List.drop_zero]
theorem dwo_4 : ∀ (m : Nat) (l k : List Wd), l.length ≤ m → dP4 k l = 0 → (dend k [dOp, dQu] = true → dbg l [dCl] = false) → (dend k [dOp] = true → dbg l [dQu, dCl] = false) → dwo dP4 0 k l = k ++ dls 0 l
  | _, [], k, _, _, _, _ => by rw [dwo_nil]; simp [dls]
  | 0, _ :: _, _, h, _, _, _ => by simp at h
  | m + 1, z :: r, k, hl, h0, h1, h2 => by
    rw [dwo_stay h0]
    have hlr : r.length ≤ m := by simpa using hl
    cases hA : dbg (z :: r) [dOp, dQu, dCl] with
    | true =>
      obtain ⟨y, p, t, rfl⟩ : ∃ y p t, r = y :: p :: t := by
        rcases r with _ | ⟨y, _ | ⟨p, t⟩⟩
        · simp [dbg] at hA
        · simp [dbg] at hA
        · exact ⟨y, p, t, rfl⟩
      have hB : dis dOp z = true ∧ dis dQu y = true ∧ dis dCl p = true := by
        simp only [dbg, Bool.and_eq_true, Bool.and_true] at hA
        exact hA
      obtain ⟨hz, hy, hp⟩ := hB
      have p1 : dP4 (k ++ [z]) (y :: p :: t) = 0 := by
        unfold dP4
        rw [dend3, dis_ne hz dne.2.2.2.2.2.2.1, Bool.and_false, Bool.false_and]
        rfl
      have p2 : dP4 (k ++ [z] ++ [y]) (p :: t) = 0 := by
        unfold dP4
        rw [dend3, dis_ne hy dne.2.2.2.1, Bool.and_false, Bool.false_and]
        rfl
      have hK : dend (k ++ [z] ++ [y] ++ [p]) [dOp, dQu, dCl] = true := by rw [dend3, dend2, dend1, hz, hy, hp]; rfl
      rw [dwo_stay p1, dwo_stay p2, dwo_skip hK t.length t (Nat.le_refl _)]
      have hlt : (t.drop (dsk t)).length ≤ m := by simp at hlr ⊢; omega
      have p3 : dP4 (k ++ [z] ++ [y] ++ [p]) (t.drop (dsk t)) = 0 := by
        unfold dP4
        rw [dsk_end t.length t (Nat.le_refl _), Bool.and_false]
        rfl
      rw [dwo_4 m _ _ hlt p3 (fun e => by rw [dend2, dis_ne hp dne.2.2.2.2.2.2.2.2.2.2.1, Bool.and_false] at e; cases e) (fun e => by rw [dend1, dis_ne hp dne.2.2.2.2.2.2.2.2.1] at e; cases e), dls_row hA]
      simp
    | false =>
      have p1 : dP4 (k ++ [z]) r = 0 := by
        unfold dP4
        rw [dend3]
        cases h3 : dend k [dOp, dQu] with
        | false => rfl
        | true =>
          have hq : dis dCl z = false := by simpa [dbg] using h1 h3
          rw [hq]
          rfl
      rw [dwo_4 m r (k ++ [z]) hlr p1 (fun e => by
        rw [dend2, Bool.and_eq_true] at e
        have := h2 e.1
        simpa [dbg, e.2] using this) (fun e => by
        rw [dend1] at e
        simpa [dbg, e] using hA), dls_stay hA]
      simp
theorem dgW_eq (l : List Wd) : dgW l = drg l := by
  unfold dgW drg
  rw [dwo_1, List.nil_append, dpar_odd, dwo_2, List.nil_append, dwo_3 _ _ [] (Nat.le_refl _) (by simp [dP3, dend]) (fun e => by simp [dend] at e), List.nil_append, dwo_4 _ _ [] (Nat.le_refl _) (by simp [dP4, dend]) (fun e => by simp [dend] at e) (fun e => by simp [dend] at e)]
  rfl

/-- In the document's rows no row of parameters is longer than one. -/
theorem drs_cons : ∀ (x : Wd) (r : List Wd), ∃ t, drs 0 (x :: r) = x :: t
  | x, r => by
    by_cases h : drw (x :: r) = 0
    · exact ⟨_, drs_stay h⟩
    · rw [drs_row h]
      cases r with
      | nil => exact ⟨_, rfl⟩
      | cons y t => exact ⟨_, rfl⟩
theorem dbg_head (l : List Wd) (s : ByteArray) : dbg (drs 0 l) [s] = dbg l [s] := by
  cases l with
  | nil => rfl
  | cons x r =>
    obtain ⟨t, h⟩ := drs_cons x r
    rw [h]
    simp [dbg]
theorem dcn_drs : ∀ (m : Nat) (l : List Wd), l.length ≤ m → dcn (drs 0 l) = dcn l ∧ (drs 0 l).drop (dcn l) = drs 0 (l.drop (dcn l))
  | _, [], _ => ⟨rfl, rfl⟩
  | _, [x], _ => by
    have e : drs 0 [x] = [x] := by rw [drs_stay (drw_no (.inr rfl))]; rfl
    rw [e]
    exact ⟨rfl, by simp [dcn, e]⟩
  | 0, _ :: _ :: _, h => by simp at h
  | m + 1, x :: y :: r, h => by
    cases hx : dis dCo x with
    | false =>
      obtain ⟨t, e⟩ := drs_cons x (y :: r)
      have e1 : dcn (x :: y :: r) = 0 := dcn_no hx
      rw [e1, e, dcn_no hx]
      exact ⟨rfl, by rw [List.drop_zero, List.drop_zero, e]⟩
    | true =>
      have e0 := drs_stay (drw_no (.inl (dis_ne hx dne.2.2.2.2.2.2.2.2.2.2.2.1)) : drw (x :: y :: r) = 0)
      cases hy : dis dQu y with
      | false =>
        obtain ⟨t, e⟩ := drs_cons y r
        have e1 : dcn (x :: y :: r) = 0 := by simp [dcn, hy]
        rw [e1, e0, e]
        refine ⟨by simp [dcn, hy], ?_⟩
        rw [List.drop_zero, List.drop_zero, e0, e]
      | true =>
        have e1 := drs_stay (drw_no (.inl (dis_ne hy dne.2.2.1)) : drw (y :: r) = 0)
        obtain ⟨i1, i2⟩ := dcn_drs m r (by simp at h; omega)
        have e2 : ∀ u, dcn (x :: y :: u) = dcn u + 2 := fun u => by simp [dcn, hx, hy]
        rw [e0, e1, e2, e2, i1]
        exact ⟨rfl, i2⟩
theorem drw_drs (z : Wd) (r : List Wd) : drw (z :: drs 0 r) = drw (z :: r) := by
  by_cases hA : dis dOp z = true ∧ dbg r [dQu] = true
  · obtain ⟨hz, hq⟩ := hA
    obtain ⟨y, t, rfl, hy⟩ := dbg1 hq
    rw [drs_stay (drw_no (.inl (dis_ne hy dne.2.2.1)) : drw (y :: t) = 0)]
    obtain ⟨i1, i2⟩ := dcn_drs t.length t (Nat.le_refl _)
    have key : ∀ u, drw (z :: y :: u) = if dbg (u.drop (dcn u)) [dCl] then 3 + dcn u else 0 := fun u => by
      unfold drw
      have e1 : dbg (z :: y :: u) [dOp, dQu] = true := by simp [dbg, hz, hy]
      rw [if_pos e1]
      have e2 : (z :: y :: u).drop (2 + dcn ((z :: y :: u).drop 2)) = u.drop (dcn u) := by
        show (z :: y :: u).drop (2 + dcn u) = _
        rw [show 2 + dcn u = dcn u + 2 by omega]
        rfl
      rw [e2]
      rfl
    rw [key, key, i1, i2, dbg_head]
  · have hn : dis dOp z = false ∨ dbg r [dQu] = false := by
      cases h1 : dis dOp z with
      | false => exact .inl rfl
      | true =>
        right
        cases h2 : dbg r [dQu] with
        | false => rfl
        | true => exact absurd ⟨h1, h2⟩ hA
    rw [drw_no hn, drw_no]
    rcases hn with h | h
    · exact .inl h
    · exact .inr (by rw [dbg_head]; exact h)
theorem drw_short : ∀ (m : Nat) (l : List Wd), l.length ≤ m → ∀ i, drw ((drs 0 l).drop i) = 0 ∨ (drw ((drs 0 l).drop i) = 3 ∧ dbg ((drs 0 l).drop i) [dOp, dQu, dCl] = true)
  | _, [], _, i => by
    left
    rw [show drs 0 [] = [] from rfl, List.drop_nil]
    rfl
  | 0, _ :: _, h, _ => by simp at h
  | m + 1, x :: r, h, i => by
    have hlr : r.length ≤ m := by simpa using h
    by_cases h0 : drw (x :: r) = 0
    · rw [drs_stay h0]
      cases i with
      | zero =>
        left
        rw [List.drop_zero, drw_drs, h0]
      | succ i => exact drw_short m r hlr i
    · have hA : dbg (x :: r) [dOp, dQu] = true := by
        unfold drw at h0
        cases hc : dbg (x :: r) [dOp, dQu] with
        | true => rfl
        | false => rw [hc] at h0; simp at h0
      obtain ⟨y, t, rfl⟩ : ∃ y t, r = y :: t := by
        cases r with
        | nil => simp [dbg] at hA
        | cons y t => exact ⟨y, t, rfl⟩
      have hB : dis dOp x = true ∧ dis dQu y = true := by
        simp only [dbg, Bool.and_eq_true, Bool.and_true] at hA
        exact hA
      obtain ⟨hx, hy⟩ := hB
      have e2 : (x :: y :: t).drop (2 + dcn ((x :: y :: t).drop 2)) = t.drop (dcn t) := by
        show (x :: y :: t).drop (2 + dcn t) = _
        rw [show 2 + dcn t = dcn t + 2 by omega]
        rfl
      have hrw : drw (x :: y :: t) = if dbg (t.drop (dcn t)) [dCl] then 3 + dcn t else 0 := by
        unfold drw
        rw [if_pos hA, e2]
        rfl
      cases hc : dbg (t.drop (dcn t)) [dCl] with
      | false => rw [hrw, hc] at h0; simp at h0
      | true =>
        rw [hc, if_pos rfl] at hrw
        obtain ⟨p, u, hu, hp⟩ := dbg1 hc
        have e3 : (x :: y :: t).drop (3 + dcn t - 1) = p :: u := by
          rw [show 3 + dcn t - 1 = dcn t + 2 by omega, ← hu]
          rfl
        have e4 : (x :: y :: t).drop (3 + dcn t) = u := by
          have : (x :: y :: t).drop (3 + dcn t) = ((x :: y :: t).drop (3 + dcn t - 1)).drop 1 := by rw [List.drop_drop]; congr 1; omega
          rw [this, e3]
          rfl
        have e5 : drs 0 (x :: y :: t) = x :: y :: p :: drs 0 u := by
          rw [drs_row h0, hrw, e3, e4]
          rfl
        have hlu : u.length ≤ m := by
          have : (p :: u).length ≤ t.length := by rw [← hu, List.length_drop]; omega
          simp at this hlr
          omega
        rw [e5]
        match i with
        | 0 =>
          right
          rw [List.drop_zero]
          have e6 : dbg (x :: y :: p :: drs 0 u) [dOp, dQu, dCl] = true := by simp [dbg, hx, hy, hp]
          refine ⟨?_, e6⟩
          unfold drw
          have e7 : dbg (x :: y :: p :: drs 0 u) [dOp, dQu] = true := by simp [dbg, hx, hy]
          have e8 : dcn ((x :: y :: p :: drs 0 u).drop 2) = 0 := dcn_no (dis_ne hp dne.2.2.2.2.2.2.2.2.2.1)
          rw [if_pos e7, e8]
          have e9 : dbg ((x :: y :: p :: drs 0 u).drop (2 + 0)) [dCl] = true := by simp [dbg, hp]
          rw [if_pos e9]
        | 1 =>
          left
          exact drw_no (.inl (dis_ne hy dne.2.2.1))
        | 2 =>
          left
          exact drw_no (.inl (dis_ne hp dne.2.2.2.2.2.2.2.2.1))
        | i + 3 => exact drw_short m u hlu i

end Go.Proofs.YtgbahfadjdincaaGreatDoor
