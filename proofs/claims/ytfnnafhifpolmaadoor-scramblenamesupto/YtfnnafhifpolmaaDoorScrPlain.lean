/-
  A nonce, responses, what is stored and what is right, as functions of lists of numbers; and what follows: a response is right for what is stored. No program and no memory is named here.
-/
import Derived.Test.YtfnnafhifpolmaaDoorShaTold
namespace Go.Proofs.YtfnnafhifpolmaaDoor
open Go
set_option linter.unusedVariables false
set_option linter.unusedSimpArgs false

/-- A byte of a nonce, out of a draw. -/
def nby (x : Int) : Int := if 36 ≤ x % 254 + 1 then x % 254 + 2 else x % 254 + 1
def okb (x : Int) : Bool := !(x == 0 || x == 36)
/-- What Check answers. -/
def nck (l : List Int) : Int := if l.length = 20 ∧ l.all okb = true then 0 else 2
/-- Bit by bit. -/
def xr (x y : Int) : Int := bits .xor .u8 x y
def crs (a b : List Int) : List Int := List.zipWith xr a b
/-- How long a hash of a kind is. -/
def hsz (k : Int) : Nat := if k = 1 then 20 else 32
/-- The hash of nonce and what is stored, in the kind's order. -/
def cov (k : Int) (s n : List Int) : List Int := sumk k (if k = 1 then n ++ s else s ++ n)
/-- What is stored of a password; its response. -/
def sto (k : Int) (p : List Int) : List Int := if p.length = 0 then [] else sumk k (sumk k p)
def rsp (k : Int) (p n : List Int) : List Int := if p.length = 0 then [] else crs (sumk k p) (cov k (sumk k (sumk k p)) n)
/-- What Native, Fast answer; Stored; Right. -/
def rspA (k : Int) (p n : List Int) : List Int := if nck n = 0 then rsp k p n else []
def stoE (k : Int) : Int := if k = 1 ∨ k = 2 then 0 else 2
def stoA (k : Int) (p : List Int) : List Int := if k = 1 ∨ k = 2 then sto k p else []
def rgt (k : Int) (s n r : List Int) : Bool := if s.length = 0 then decide (r.length = 0) else if r.length = hsz k then decide (sumk k (crs r (cov k s n)) = s) else false
def rgE (k : Int) (s n : List Int) : Int := if k = 1 ∨ k = 2 then (if nck n = 0 then (if s.length = 0 ∨ s.length = hsz k then 0 else 5) else 2) else 2
def rgA (k : Int) (s n r : List Int) : Bool := if rgE k s n = 0 then rgt k s n r else false
def nonE (d : List Int) : Int := if d.length = 20 then 0 else 2
def nonA (d : List Int) : List Int := if d.length = 20 then d.map nby else []

theorem nby_byt (x : Int) (h0 : 0 ≤ x) (h1 : x ≤ 255) : 0 ≤ nby x ∧ nby x ≤ 255 := by unfold nby; split <;> omega
theorem nby_ok (x : Int) (h0 : 0 ≤ x) (h1 : x ≤ 255) : okb (nby x) = true := by
  unfold okb nby
  split
  · simp; omega
  · simp; omega
theorem map_nby_byt {l : List Int} (h : Byt l) : Byt (l.map nby) := by
  intro y hy
  obtain ⟨x, hx, rfl⟩ := List.mem_map.1 hy
  exact nby_byt x (h x hx).1 (h x hx).2
theorem nck_of {l : List Int} (h : l.length = 20) (k : l.all okb = true) : nck l = 0 := by unfold nck; rw [if_pos ⟨h, k⟩]
theorem nck_len {l : List Int} (h : ¬ l.length = 20) : nck l = 2 := by unfold nck; rw [if_neg (fun q => h q.1)]
theorem nck_at {l : List Int} {j : Nat} (hj : j < l.length) (h : okb (l[j]?.getD 0) = false) : nck l = 2 := by
  unfold nck
  rw [if_neg]
  intro q
  have := List.all_eq_true.1 q.2 l[j] (List.getElem_mem hj)
  simp only [List.getElem?_eq_getElem hj, Option.getD_some] at h
  rw [h] at this
  cases this
theorem nck_two (l : List Int) : nck l = 0 ∨ nck l = 2 := by unfold nck; split <;> simp
theorem nck_20 {l : List Int} (h : nck l = 0) : l.length = 20 := by
  unfold nck at h
  split at h
  · rename_i q; exact q.1
  · omega
theorem non_ok {d : List Int} (hb : Byt d) (h : d.length = 20) : nck (nonA d) = 0 := by
  unfold nonA
  rw [if_pos h]
  refine nck_of (by simp [h]) ?_
  rw [List.all_eq_true]
  intro y hy
  obtain ⟨x, hx, rfl⟩ := List.mem_map.1 hy
  exact nby_ok x (hb x hx).1 (hb x hx).2
theorem all_next {l : List Int} {j : Nat} (hj : j < l.length) (h : (l.take j).all okb = true) (k : okb (l[j]?.getD 0) = true) : (l.take (j + 1)).all okb = true := by
  rw [List.take_add_one, List.all_append, h, List.getElem?_eq_getElem hj]
  simp only [List.getElem?_eq_getElem hj, Option.getD_some] at k
  simp [k]
theorem map_next (f : Int → Int) {l : List Int} {j : Nat} (hj : j < l.length) : (l.take (j + 1)).map f = (l.take j).map f ++ [f (l[j]?.getD 0)] := by
  rw [List.take_add_one, List.map_append, List.getElem?_eq_getElem hj]
  simp

theorem xr_byt (x y : Int) : 0 ≤ xr x y ∧ xr x y ≤ 255 := by
  unfold xr bits
  have : ∀ z, 0 ≤ IntKind.u8.wrap z ∧ IntKind.u8.wrap z ≤ 255 := by intro z; rw [IntKind.wrap_u8]; omega
  exact this _
theorem xr_back (x y : Int) (h0 : 0 ≤ x) (h1 : x ≤ 255) (h2 : 0 ≤ y) (h3 : y ≤ 255) : xr (xr x y) y = x := by
  unfold xr
  rw [u8_xor x y h0 (by omega) h2 (by omega)]
  have hlt : x.toNat ^^^ y.toNat < 2 ^ 8 := Nat.xor_lt_two_pow (by omega) (by omega)
  rw [u8_xor _ y (by omega) (by omega) h2 (by omega)]
  rw [Int.toNat_natCast, Nat.xor_assoc, Nat.xor_self, Nat.xor_zero]
  omega
theorem crs_len (a b : List Int) (h : a.length = b.length) : (crs a b).length = a.length := by unfold crs; simp [h]
theorem crs_byt (a b : List Int) : Byt (crs a b) := by
  intro z hz
  unfold crs at hz
  rw [List.zipWith_eq_zipWith_take_min] at hz
  rw [List.mem_iff_getElem] at hz
  obtain ⟨i, hi, rfl⟩ := hz
  rw [List.getElem_zipWith]
  exact xr_byt _ _
theorem crs_next {a b : List Int} {j : Nat} (ha : j < a.length) (hb : j < b.length) : crs (a.take (j + 1)) b = crs (a.take j) b ++ [xr (a[j]?.getD 0) (b[j]?.getD 0)] := by
  apply List.ext_getElem?
  intro i
  unfold crs
  rw [List.getElem?_zipWith]
  rcases Nat.lt_trichotomy i j with h | h | h
  · rw [List.getElem?_append_left (by simp; omega), List.getElem?_zipWith]
    simp [List.getElem?_take, h, show i < j + 1 by omega]
  · subst h
    rw [List.getElem?_append_right (by simp; omega)]
    simp [List.getElem?_take, ha, hb, Nat.min_eq_left (Nat.le_of_lt ha), Nat.min_eq_left (Nat.le_of_lt hb)]
  · rw [List.getElem?_append_right (by simp; omega)]
    simp only [List.getElem?_take, show ¬ i < j + 1 by omega, if_false]
    rw [List.getElem?_eq_none (l := [xr (a[j]?.getD 0) (b[j]?.getD 0)])]
    simp
    omega
theorem crs_take (a b : List Int) (h : a.length ≤ b.length) : (crs a b).length = a.length := by unfold crs; simp [h]
/-- What lies under a cover. -/
theorem crs_back : ∀ (a c : List Int), Byt a → Byt c → a.length = c.length → crs (crs a c) c = a
  | [], c, _, _, _ => by simp [crs]
  | x :: r, [], _, _, h => by simp at h
  | x :: r, y :: s, ha, hc, h => by
    have hx := ha x (by simp)
    have hy := hc y (by simp)
    have ih := crs_back r s (fun z hz => ha z (List.mem_cons_of_mem _ hz)) (fun z hz => hc z (List.mem_cons_of_mem _ hz)) (by simpa using h)
    unfold crs at ih ⊢
    simp only [List.zipWith_cons_cons]
    rw [xr_back x y hx.1 hx.2 hy.1 hy.2, ih]
/-- A row that is filled from its front. -/
theorem fill_set (l : List Int) (n j : Nat) (v : Int) (hl : l.length = j) (hj : j < n) : (l ++ List.replicate (n - j) 0).set j v = (l ++ [v]) ++ List.replicate (n - (j + 1)) 0 := by
  subst hl
  obtain ⟨m, hm⟩ : ∃ m, n - l.length = m + 1 := ⟨n - l.length - 1, by omega⟩
  rw [hm, show n - (l.length + 1) = m by omega, List.set_append_right _ _ (Nat.le_refl _), Nat.sub_self]
  simp [List.replicate_succ]

theorem told_byt (W : List Int) (h : Wds W) : ∀ j, j ≤ W.length → Byt (told j W)
  | 0, _ => Byt.nil
  | j + 1, hj => by rw [told_step W j (by omega)]; exact (told_byt W h j (by omega)).app (sm4_byt (h j))
theorem sumk_byt (k : Int) (xs : List Int) : Byt (sumk k xs) := told_byt _ (wf_wds k _ _) _ (by rw [wf_len]; unfold nk; split <;> omega)
theorem sumk_len (k : Int) (xs : List Int) : (sumk k xs).length = hsz k := by
  unfold sumk
  rw [told_len _ _ (by rw [wf_len]; unfold nk; split <;> omega)]
  unfold nk hsz
  split <;> rfl
theorem cov_byt (k : Int) (s n : List Int) : Byt (cov k s n) := sumk_byt _ _
theorem cov_len (k : Int) (s n : List Int) : (cov k s n).length = hsz k := sumk_len _ _
theorem hsz_pos (k : Int) : 0 < hsz k := by unfold hsz; split <;> omega
theorem hsz_le (k : Int) : hsz k ≤ 32 := by unfold hsz; split <;> omega
theorem sto_byt (k : Int) (p : List Int) : Byt (sto k p) := by
  unfold sto
  split
  · exact Byt.nil
  · exact sumk_byt _ _
theorem rsp_byt (k : Int) (p n : List Int) : Byt (rsp k p n) := by
  unfold rsp
  split
  · exact Byt.nil
  · exact crs_byt _ _
theorem sto_len (k : Int) (p : List Int) : (sto k p).length = if p.length = 0 then 0 else hsz k := by
  unfold sto
  split
  · rfl
  · exact sumk_len _ _
theorem rsp_len (k : Int) (p n : List Int) : (rsp k p n).length = if p.length = 0 then 0 else hsz k := by
  unfold rsp
  split
  · rfl
  · rw [crs_len _ _ (by rw [sumk_len, cov_len]), sumk_len]

/-- What Right says of what is stored, no error. -/
theorem rgE_sto (k : Int) (p n : List Int) (hk : k = 1 ∨ k = 2) (hn : nck n = 0) : rgE k (sto k p) n = 0 := by
  unfold rgE
  rw [if_pos hk, if_pos hn, if_pos]
  rw [sto_len]
  split
  · exact .inl rfl
  · exact .inr rfl
theorem rgA_sto (k : Int) (p n r : List Int) (hk : k = 1 ∨ k = 2) (hn : nck n = 0) : rgA k (sto k p) n r = rgt k (sto k p) n r := by
  unfold rgA
  rw [if_pos (rgE_sto k p n hk hn)]
/-- The response of a text of which the same is stored is right. -/
theorem rgt_same (k : Int) (p q n : List Int) (h : sto k p = sto k q) : rgt k (sto k p) n (rsp k q n) = true := by
  have hp := sto_len k p
  have hq := sto_len k q
  have hz := hsz_pos k
  unfold rgt
  by_cases h0 : q.length = 0
  · rw [if_pos h0] at hq
    rw [if_pos (by rw [h]; exact hq), rsp_len, if_pos h0]
    rfl
  · rw [if_neg h0] at hq
    rw [if_neg (by rw [h]; omega), rsp_len, if_neg h0, if_pos rfl]
    refine decide_eq_true ?_
    have e : sto k q = sumk k (sumk k q) := by unfold sto; rw [if_neg h0]
    have e2 : rsp k q n = crs (sumk k q) (cov k (sumk k (sumk k q)) n) := by unfold rsp; rw [if_neg h0]
    rw [h, e, e2, crs_back _ _ (sumk_byt _ _) (cov_byt _ _ _) (by rw [sumk_len, cov_len])]
/-- With a byte more it is not. -/
theorem rgt_more (k : Int) (p n : List Int) (x : Int) : rgt k (sto k p) n (rsp k p n ++ [x]) = false := by
  unfold rgt
  rw [sto_len, List.length_append, rsp_len]
  have hz := hsz_pos k
  by_cases h0 : p.length = 0
  · simp [h0]
  · simp [h0]
/-- Who hears a response, and has what is stored, has every later response. -/
theorem rsp_knows (p n m : List Int) (hp : ¬ p.length = 0) (i : Nat) (hi : i < 20) :
    xr (xr ((rsp 1 p n)[i]?.getD 0) ((cov 1 (sto 1 p) n)[i]?.getD 0)) ((cov 1 (sto 1 p) m)[i]?.getD 0) = (rsp 1 p m)[i]?.getD 0 := by
  have e : sto 1 p = sumk 1 (sumk 1 p) := by unfold sto; rw [if_neg hp]
  have hl : hsz 1 = 20 := rfl
  have key : ∀ n, (rsp 1 p n)[i]?.getD 0 = xr ((sumk 1 p)[i]?.getD 0) ((cov 1 (sto 1 p) n)[i]?.getD 0) := by
    intro n
    have h1 : i < (sumk 1 p).length := by rw [sumk_len]; omega
    have h2 : i < (cov 1 (sumk 1 (sumk 1 p)) n).length := by rw [cov_len]; omega
    unfold rsp
    rw [if_neg hp, e]
    unfold crs
    rw [List.getElem?_zipWith, List.getElem?_eq_getElem h1, List.getElem?_eq_getElem h2]
    rfl
  rw [key, key, xr_back _ _ ((sumk_byt _ _).at i).1 ((sumk_byt _ _).at i).2 ((cov_byt _ _ _).at i).1 ((cov_byt _ _ _).at i).2]

end Go.Proofs.YtfnnafhifpolmaaDoor
