/-
  The fixed stream of pieces, as a plain list of bits: symbols and fields one behind the other. No program and no memory is named here.
-/
import Derived.Test.YtalkeooejobjhaaDoorBitPut
import Derived.Test.YtalkeooejobjhaaDoorMPlain
namespace Go.Proofs.YtalkeooejobjhaaDoor
set_option linter.unusedVariables false
set_option linter.unusedSimpArgs false

/-- The bits of a field, from bit i on, the lowest first. -/
def fto (x : Int) : Nat → Nat → List Int
  | _, 0 => []
  | i, n + 1 => x / 2 ^ i % 2 :: fto x (i + 1) n
theorem fto_len (x : Int) : ∀ n i, (fto x i n).length = n
  | 0, i => rfl
  | n + 1, i => by simp [fto, fto_len x n]
theorem fto_01 (x : Int) : ∀ n i, Bit01 (fto x i n)
  | 0, i => by intro y hy; cases hy
  | n + 1, i => by
    intro y hy
    simp only [fto, List.mem_cons] at hy
    rcases hy with h | h
    · subst h; omega
    · exact fto_01 x n (i + 1) y h
theorem fto_at (x : Int) : ∀ n i j, j < n → (fto x i n)[j]?.getD 0 = x / 2 ^ (i + j) % 2
  | 0, i, j, h => by omega
  | n + 1, i, 0, h => by simp [fto]
  | n + 1, i, j + 1, h => by
    simp only [fto, List.getElem?_cons_succ]
    rw [fto_at x n (i + 1) j (by omega), show i + 1 + j = i + (j + 1) by omega]

/-- The last span that begins at n or ahead of it. -/
def lst (t : List Nat) (n : Nat) : Nat → Nat
  | 0 => 0
  | k + 1 => if t[k + 1]?.getD 0 ≤ n then k + 1 else lst t n k
theorem lst_is (t : List Nat) (n s : Nat) (h0 : s = 0 ∨ t[s]?.getD 0 ≤ n) : ∀ K, s ≤ K → (∀ j, s < j → j ≤ K → n < t[j]?.getD 0) → lst t n K = s
  | 0, hs, _ => by simp only [lst]; omega
  | K + 1, hs, h => by
    simp only [lst]
    by_cases he : s = K + 1
    · subst he
      rcases h0 with h0 | h0
      · omega
      · rw [if_pos h0]
    · have := h (K + 1) (by omega) (Nat.le_refl _)
      rw [if_neg (by omega)]
      exact lst_is t n s h0 K (by omega) (fun j h1 h2 => h j h1 (by omega))
/-- The spans of lengths and distances, by number. -/
def lix (n : Nat) : Nat := if n = 258 then 28 else lst lenB n 27
def dix (n : Nat) : Nat := lst dstB n 29
def lb (k : Nat) : Nat := lenB[k]?.getD 0
def lx (k : Nat) : Nat := lenX[k]?.getD 0
def db (k : Nat) : Nat := dstB[k]?.getD 0
def dx (k : Nat) : Nat := dstX[k]?.getD 0
/-- The bits of a piece. -/
def ptx (p : Pc) : List Int :=
  if p.l = 0 then sbits fixL p.b
  else sbits fixL ((257 + lix p.l.toNat : Nat) : Int) ++ (fto (p.l - (lb (lix p.l.toNat) : Int)) 0 (lx (lix p.l.toNat)) ++ (sbits fixD ((dix p.d.toNat : Nat) : Int) ++ fto (p.d - (db (dix p.d.toNat) : Int)) 0 (dx (dix p.d.toNat))))
def ptxs (l : List Pc) : List Int := l.flatMap ptx
def head3 : List Int := fto 1 0 1 ++ fto 1 0 2
def ftx (l : List Pc) : List Int := head3 ++ (ptxs l ++ sbits fixL 256)
/-- The fixed stream. -/
def fxs (l : List Pc) : List Int := pkF [] 0 (ftx l)
def fxq (l : List Pc) : List Int × Int := if chk 0 l = 0 then (fxs l, 0) else ([], chk 0 l)

theorem Bit01.app {a b : List Int} (ha : Bit01 a) (hb : Bit01 b) : Bit01 (a ++ b) := fun x hx => (List.mem_append.1 hx).elim (ha x) (hb x)
theorem ptx_01 (p : Pc) : Bit01 (ptx p) := by
  unfold ptx
  split
  · exact sbits_01 _ _
  · exact (sbits_01 _ _).app ((fto_01 _ _ _).app ((sbits_01 _ _).app (fto_01 _ _ _)))
theorem ptxs_01 (l : List Pc) : Bit01 (ptxs l) := by
  intro x hx
  obtain ⟨p, _, hp⟩ := List.mem_flatMap.1 hx
  exact ptx_01 p x hp
theorem ftx_01 (l : List Pc) : Bit01 (ftx l) := ((fto_01 _ _ _).app (fto_01 _ _ _)).app ((ptxs_01 l).app (sbits_01 _ _))

/-! The spans follow one another. -/
theorem lb_step : ∀ k, k < 27 → lb (k + 1) = lb k + 2 ^ lx k := by decide
theorem db_step : ∀ k, k < 29 → db (k + 1) = db k + 2 ^ dx k := by decide
theorem lx_is : ∀ k, k < 28 → lx k = k / 4 - 1 := by decide
theorem dx_is : ∀ k, k < 30 → dx k = k / 2 - 1 := by decide
theorem lb_mono {j k : Nat} (h : j ≤ k) (hk : k ≤ 27) : lb j ≤ lb k := by
  induction k with
  | zero => rw [show j = 0 by omega]; exact Nat.le_refl _
  | succ k ih =>
    by_cases he : j = k + 1
    · rw [he]; exact Nat.le_refl _
    · have := ih (by omega) (by omega)
      have := lb_step k (by omega)
      have := Nat.pow_pos (n := lx k) (show 0 < 2 by omega)
      omega
theorem db_mono {j k : Nat} (h : j ≤ k) (hk : k ≤ 29) : db j ≤ db k := by
  induction k with
  | zero => rw [show j = 0 by omega]; exact Nat.le_refl _
  | succ k ih =>
    by_cases he : j = k + 1
    · rw [he]; exact Nat.le_refl _
    · have := ih (by omega) (by omega)
      have := db_step k (by omega)
      have := Nat.pow_pos (n := dx k) (show 0 < 2 by omega)
      omega
/-- A length's span is the one that it lies in. -/
theorem lix_is {n k : Nat} (hk : k ≤ 27) (h0 : lb k ≤ n) (h1 : n < lb k + 2 ^ lx k) (hn : n < 258) : lix n = k := by
  unfold lix
  rw [if_neg (by omega)]
  refine lst_is lenB n k (.inr h0) 27 hk fun j hj hj2 => ?_
  have h2 := lb_step k (by omega)
  have h3 := lb_mono (show k + 1 ≤ j by omega) hj2
  show n < lb j
  omega
theorem dix_is {n k : Nat} (hk : k ≤ 29) (h0 : db k ≤ n) (h1 : n < db k + 2 ^ dx k) : dix n = k := by
  unfold dix
  refine lst_is dstB n k (.inr h0) 29 hk fun j hj hj2 => ?_
  have h2 := db_step k (by omega)
  have h3 := db_mono (show k + 1 ≤ j by omega) hj2
  show n < db j
  omega

/-! The codes are codes. -/
theorem fixL_len : fixL.length = 288 := by kernel_rfl
theorem fixD_len : fixD.length = 32 := by kernel_rfl
theorem cer_fixL : cer fixL = 0 := by kernel_rfl
theorem cer_fixD : cer fixD = 0 := by kernel_rfl
theorem good_fixL : Good fixL := good_of cer_fixL
theorem good_fixD : Good fixD := good_of cer_fixD
theorem ln_fixL : ∀ i, i < 288 → 7 ≤ ln fixL i ∧ ln fixL i ≤ 9 := by
  intro i hi
  have h : (List.range 288).all (fun i => decide (7 ≤ ln fixL i) && decide (ln fixL i ≤ 9)) = true := by kernel_rfl
  have := List.all_eq_true.1 h i (by simpa using hi)
  simpa using this
theorem ln_fixD : ∀ i, i < 32 → ln fixD i = 5 := by
  intro i hi
  have h : (List.range 32).all (fun i => decide (ln fixD i = 5)) = true := by kernel_rfl
  have := List.all_eq_true.1 h i (by simpa using hi)
  simpa using this
theorem sbits_n (L : List Int) (s : Nat) : (sbits L (s : Int)).length = (ln L s).toNat := by unfold sbits; rw [bto_len]; simp
end Go.Proofs.YtalkeooejobjhaaDoor
