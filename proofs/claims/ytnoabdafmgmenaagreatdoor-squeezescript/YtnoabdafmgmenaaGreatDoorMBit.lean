/-
  Bits put into bytes one behind the other, and the bits of a code's symbols, as plain lists of numbers; a byte of a row of the call's own. Conditions: none but what is said.
  The fixed stream of pieces, as a plain list of bits: symbols and fields one behind the other. No program and no memory is named here.
-/
import Derived.Test.YtnoabdafmgmenaaGreatDoorMHuf
import Derived.Test.YtnoabdafmgmenaaGreatDoorMMem
import Derived.Test.YtnoabdafmgmenaaGreatDoorMPlain
namespace Go.Proofs.YtnoabdafmgmenaaGreatDoor
open Go.RowKit
set_option linter.unusedVariables false
set_option linter.unusedSimpArgs false

/-- A bit behind n bits. -/
def room8 (b : List Int) (n : Nat) : List Int := if n % 8 = 0 then b ++ [0] else b
def putB (b : List Int) (n : Nat) (x : Int) : List Int := (room8 b n).set (n / 8) ((room8 b n)[n / 8]?.getD 0 + x * 2 ^ (n % 8))
def pkF : List Int → Nat → List Int → List Int
  | b, _, [] => b
  | b, n, x :: r => pkF (putB b n x) (n + 1) r
/-- The bits of a code, the highest first. -/
def bto (c : Int) : Nat → List Int
  | 0 => []
  | k + 1 => c / 2 ^ k % 2 :: bto c k

/-- Bytes that hold n bits, all further bits 0. -/
structure Wst (b : List Int) (n : Nat) : Prop where
  len : b.length = (n + 7) / 8
  byt : Byt b
  last : n % 8 ≠ 0 → b[n / 8]?.getD 0 < 2 ^ (n % 8)

theorem Wst.nought : Wst [] 0 := ⟨rfl, Byt.nil, fun h => absurd rfl h⟩

theorem room8_len {b : List Int} {n : Nat} (h : Wst b n) : (room8 b n).length = n / 8 + 1 := by
  have := h.len
  unfold room8
  split
  · simp; omega
  · omega
theorem room8_byt {b : List Int} {n : Nat} (h : Wst b n) : Byt (room8 b n) := by
  unfold room8
  split
  · exact h.byt.app (Byt.one (by omega) (by omega))
  · exact h.byt
theorem room8_at {b : List Int} {n : Nat} (h : Wst b n) : 0 ≤ (room8 b n)[n / 8]?.getD 0 ∧ (room8 b n)[n / 8]?.getD 0 < 2 ^ (n % 8) := by
  refine ⟨((room8_byt h).at (n / 8)).1, ?_⟩
  have hl := h.len
  unfold room8
  split
  · rename_i h0
    rw [List.getElem?_append_right (by omega), show n / 8 - b.length = 0 by omega, h0]
    simp
  · rename_i h0
    exact h.last h0
theorem pow_8 {m : Nat} (h : m < 8) : 1 ≤ (2 : Int) ^ m ∧ (2 : Int) ^ m ≤ 128 := by
  refine ⟨Int.pow_pos (by omega), ?_⟩
  have := Nat.pow_le_pow_right (show 0 < 2 by omega) (show m ≤ 7 by omega)
  have h2 : (2 : Int) ^ m ≤ 2 ^ 7 := by exact_mod_cast this
  omega
theorem put_val {b : List Int} {n : Nat} (h : Wst b n) {x : Int} (x0 : 0 ≤ x) (x1 : x ≤ 1) : 0 ≤ x * 2 ^ (n % 8) ∧ x * 2 ^ (n % 8) ≤ 128 ∧ (room8 b n)[n / 8]?.getD 0 + x * 2 ^ (n % 8) ≤ 255 ∧ (room8 b n)[n / 8]?.getD 0 + x * 2 ^ (n % 8) < 2 ^ (n % 8 + 1) := by
  have h1 := room8_at h
  have h2 := pow_8 (show n % 8 < 8 by omega)
  have h3 : x = 0 ∨ x = 1 := by omega
  rw [Int.pow_succ]
  rcases h3 with rfl | rfl
  · refine ⟨by omega, by omega, by omega, by omega⟩
  · refine ⟨by omega, by omega, by omega, by omega⟩
theorem Wst.put {b : List Int} {n : Nat} (h : Wst b n) {x : Int} (x0 : 0 ≤ x) (x1 : x ≤ 1) : Wst (putB b n x) (n + 1) := by
  have hl := room8_len h
  have hv := put_val h x0 x1
  have ha := room8_at h
  refine ⟨by simp [putB, hl]; omega, fun y hy => ?_, fun h0 => ?_⟩
  · unfold putB at hy
    rcases List.mem_or_eq_of_mem_set hy with hh | hh
    · exact room8_byt h y hh
    · omega
  · have e : (n + 1) / 8 = n / 8 := by omega
    have e2 : (n + 1) % 8 = n % 8 + 1 := by omega
    rw [e, e2]
    unfold putB
    rw [getD_set _ _ _ _ (by omega), if_pos rfl]
    exact hv.2.2.2

theorem pkF_app : ∀ (s t : List Int) (b : List Int) (n : Nat), pkF b n (s ++ t) = pkF (pkF b n s) (n + s.length) t
  | [], t, b, n => by simp [pkF]
  | x :: s, t, b, n => by
    simp only [List.cons_append, pkF, List.length_cons]
    rw [pkF_app s t]
    congr 1
    omega
theorem bto_len (c : Int) : ∀ k, (bto c k).length = k
  | 0 => rfl
  | k + 1 => by simp [bto, bto_len c k]
def Bit01 (l : List Int) : Prop := ∀ x ∈ l, 0 ≤ x ∧ x ≤ 1
theorem bto_01 (c : Int) : ∀ k, Bit01 (bto c k)
  | 0 => by intro x hx; cases hx
  | k + 1 => by
    intro x hx
    simp only [bto, List.mem_cons] at hx
    rcases hx with h | h
    · subst h; omega
    · exact bto_01 c k x h
theorem Wst.pk : ∀ (t : List Int) {b : List Int} {n : Nat}, Wst b n → Bit01 t → Wst (pkF b n t) (n + t.length)
  | [], b, n, h, _ => h
  | x :: r, b, n, h, h01 => by
    have hx := h01 x (by simp)
    have := Wst.pk r (h.put hx.1 hx.2) (fun y hy => h01 y (by simp [hy]))
    rw [List.length_cons, show n + (r.length + 1) = n + 1 + r.length by omega]
    exact this

theorem run_idxOwn (g n c : Nat) {i : Nat} (hi : i < n) (I : Int) (hI : I = i) (wx : World) : (Instr.indexAt 31 (.slice (some ⟨g, 0, none⟩) n c) (.int .i64 I)).run Tryz.prog wx = .ok (.pointer (some ⟨g, i, none⟩)) wx := by
  subst hI
  rw [run_indexAt_slice wx 31 _ n c .i64 (i : Int) Tryz.elemBytes]
  simp [Tryz.sizeByte, hi, Addr.add_lit, Result.andThen]
theorem mine_cell {B : Nat} {w : World} {g n c : Nat} {bs : List Int} (h : Mine B w (some ⟨g, 0, none⟩) n c bs) {i : Nat} (hi : i < n) : w.cell? ⟨g, i, none⟩ = some (.int .u8 (bs[i]?.getD 0)) := by
  rcases h.bs.at' with q | ⟨b', o', e', c'⟩
  · omega
  · simp only [Option.some.injEq, Addr.mk.injEq, and_true] at e'
    obtain ⟨rfl, rfl⟩ := e'
    have := c' i hi
    rw [Nat.zero_add] at this
    simpa using this
theorem mine_drew {B : Nat} {w : World} {ao : Option Addr} {n c : Nat} {bs : List Int} (h : Mine B w ao n c bs) : Mine B w.drew ao n c bs := ⟨h.len, h.own.drew, h.byt⟩

/-- One round of appendCode's loop, behind the append. -/
theorem put_stored {B : Nat} {w : World} {g n c : Nat} {b : List Int} {A : Nat} (h : Wst b A) (hm : Mine B w (some ⟨g, 0, none⟩) n c (room8 b A)) {x : Int} (x0 : 0 ≤ x) (x1 : x ≤ 1) : Mine B (w.setCell ⟨g, A / 8, none⟩ (.int .u8 ((room8 b A)[A / 8]?.getD 0 + x * 2 ^ (A % 8)))) (some ⟨g, 0, none⟩) n c (putB b A x) := by
  have hv := put_val h x0 x1
  have ha := room8_at h
  exact hm.stored (A / 8) _ (by omega) (by omega)

def sbad (L : List Int) (s : Int) : Bool := decide (s < 0) || decide ((L.length : Int) ≤ s) || decide (ln L s.toNat = 0)
/-- The bits of a symbol, of symbols. -/
def sbits (L : List Int) (s : Int) : List Int := bto (code L s.toNat) (ln L s.toNat).toNat
def wtext (L : List Int) : List Int → List Int
  | [] => []
  | s :: r => sbits L s ++ wtext L r
theorem wtext_app (L : List Int) : ∀ a b, wtext L (a ++ b) = wtext L a ++ wtext L b
  | [], b => rfl
  | s :: a, b => by simp [wtext, wtext_app L a b]
theorem sbits_01 (L : List Int) (s : Int) : Bit01 (sbits L s) := bto_01 _ _
theorem wtext_01 (L : List Int) : ∀ ss, Bit01 (wtext L ss)
  | [] => by intro x hx; cases hx
  | s :: r => by
    intro x hx
    rcases List.mem_append.1 hx with h | h
    · exact sbits_01 L s x h
    · exact wtext_01 L r x h
theorem sgood {L : List Int} {s : Int} (h : sbad L s = false) : 0 ≤ s ∧ s < L.length ∧ ln L s.toNat ≠ 0 := by
  simp [sbad] at h
  omega
theorem sbits_len {L : List Int} (hG : Good L) {s : Int} (h : sbad L s = false) : ((sbits L s).length : Int) = ln L s.toNat ∧ 1 ≤ (sbits L s).length ∧ (sbits L s).length ≤ 15 := by
  have h1 := sgood h
  have h2 := hG.fit _ (ln_mem (show s.toNat < L.length by omega))
  unfold sbits
  rw [bto_len]
  omega

end Go.Proofs.YtnoabdafmgmenaaGreatDoor

namespace Go.Proofs.YtnoabdafmgmenaaGreatDoor
set_option linter.unusedVariables false
set_option linter.unusedSimpArgs false

/-- The bits of a field, from bit i on, the lowest first. -/
def fto (x : Int) : Nat → Nat → List Int
  | _, 0 => []
  | i, n + 1 => x / 2 ^ i % 2 :: fto x (i + 1) n
theorem fto_len (x : Int) : ∀ n i, (fto x i n).length = n
  | 0, i => rfl
  | n + 1, i => by simp [fto, fto_len x n]
theorem fto_01 (x : Int) : ∀ n i, Bit01 (fto x i n)
  | 0, i => by intro y hy; cases hy
  | n + 1, i => by
    intro y hy
    simp only [fto, List.mem_cons] at hy
    rcases hy with h | h
    · subst h; omega
    · exact fto_01 x n (i + 1) y h
theorem fto_at (x : Int) : ∀ n i j, j < n → (fto x i n)[j]?.getD 0 = x / 2 ^ (i + j) % 2
  | 0, i, j, h => by omega
  | n + 1, i, 0, h => by simp [fto]
  | n + 1, i, j + 1, h => by
    simp only [fto, List.getElem?_cons_succ]
    rw [fto_at x n (i + 1) j (by omega), show i + 1 + j = i + (j + 1) by omega]

/-- The last span that begins at n or ahead of it. -/
def lst (t : List Nat) (n : Nat) : Nat → Nat
  | 0 => 0
  | k + 1 => if t[k + 1]?.getD 0 ≤ n then k + 1 else lst t n k
theorem lst_is (t : List Nat) (n s : Nat) (h0 : s = 0 ∨ t[s]?.getD 0 ≤ n) : ∀ K, s ≤ K → (∀ j, s < j → j ≤ K → n < t[j]?.getD 0) → lst t n K = s
  | 0, hs, _ => by simp only [lst]; omega
  | K + 1, hs, h => by
    simp only [lst]
    by_cases he : s = K + 1
    · subst he
      rcases h0 with h0 | h0
      · omega
      · rw [if_pos h0]
    · have := h (K + 1) (by omega) (Nat.le_refl _)
      rw [if_neg (by omega)]
      exact lst_is t n s h0 K (by omega) (fun j h1 h2 => h j h1 (by omega))
/-- The spans of lengths and distances, by number. -/
def lix (n : Nat) : Nat := if n = 258 then 28 else lst lenB n 27
def dix (n : Nat) : Nat := lst dstB n 29
def lb (k : Nat) : Nat := lenB[k]?.getD 0
def lx (k : Nat) : Nat := lenX[k]?.getD 0
def db (k : Nat) : Nat := dstB[k]?.getD 0
def dx (k : Nat) : Nat := dstX[k]?.getD 0
/-- The bits of a piece. -/
def ptx (p : Pc) : List Int :=
  if p.l = 0 then sbits fixL p.b
  else sbits fixL ((257 + lix p.l.toNat : Nat) : Int) ++ (fto (p.l - (lb (lix p.l.toNat) : Int)) 0 (lx (lix p.l.toNat)) ++ (sbits fixD ((dix p.d.toNat : Nat) : Int) ++ fto (p.d - (db (dix p.d.toNat) : Int)) 0 (dx (dix p.d.toNat))))
def ptxs (l : List Pc) : List Int := l.flatMap ptx
def head3 : List Int := fto 1 0 1 ++ fto 1 0 2
def ftx (l : List Pc) : List Int := head3 ++ (ptxs l ++ sbits fixL 256)
/-- The fixed stream. -/
def fxs (l : List Pc) : List Int := pkF [] 0 (ftx l)
def fxq (l : List Pc) : List Int × Int := if chk 0 l = 0 then (fxs l, 0) else ([], chk 0 l)

theorem Bit01.app {a b : List Int} (ha : Bit01 a) (hb : Bit01 b) : Bit01 (a ++ b) := fun x hx => (List.mem_append.1 hx).elim (ha x) (hb x)
theorem ptx_01 (p : Pc) : Bit01 (ptx p) := by
  unfold ptx
  split
  · exact sbits_01 _ _
  · exact (sbits_01 _ _).app ((fto_01 _ _ _).app ((sbits_01 _ _).app (fto_01 _ _ _)))
theorem ptxs_01 (l : List Pc) : Bit01 (ptxs l) := by
  intro x hx
  obtain ⟨p, _, hp⟩ := List.mem_flatMap.1 hx
  exact ptx_01 p x hp
theorem ftx_01 (l : List Pc) : Bit01 (ftx l) := ((fto_01 _ _ _).app (fto_01 _ _ _)).app ((ptxs_01 l).app (sbits_01 _ _))

/-! The spans follow one another. -/
theorem lb_step : ∀ k, k < 27 → lb (k + 1) = lb k + 2 ^ lx k := by decide
theorem db_step : ∀ k, k < 29 → db (k + 1) = db k + 2 ^ dx k := by decide
theorem lx_is : ∀ k, k < 28 → lx k = k / 4 - 1 := by decide
theorem dx_is : ∀ k, k < 30 → dx k = k / 2 - 1 := by decide
theorem lb_mono {j k : Nat} (h : j ≤ k) (hk : k ≤ 27) : lb j ≤ lb k := by
  induction k with
  | zero => rw [show j = 0 by omega]; exact Nat.le_refl _
  | succ k ih =>
    by_cases he : j = k + 1
    · rw [he]; exact Nat.le_refl _
    · have := ih (by omega) (by omega)
      have := lb_step k (by omega)
      have := Nat.pow_pos (n := lx k) (show 0 < 2 by omega)
      omega
theorem db_mono {j k : Nat} (h : j ≤ k) (hk : k ≤ 29) : db j ≤ db k := by
  induction k with
  | zero => rw [show j = 0 by omega]; exact Nat.le_refl _
  | succ k ih =>
    by_cases he : j = k + 1
    · rw [he]; exact Nat.le_refl _
    · have := ih (by omega) (by omega)
      have := db_step k (by omega)
      have := Nat.pow_pos (n := dx k) (show 0 < 2 by omega)
      omega
/-- A length's span is the one that it lies in. -/
theorem lix_is {n k : Nat} (hk : k ≤ 27) (h0 : lb k ≤ n) (h1 : n < lb k + 2 ^ lx k) (hn : n < 258) : lix n = k := by
  unfold lix
  rw [if_neg (by omega)]
  refine lst_is lenB n k (.inr h0) 27 hk fun j hj hj2 => ?_
  have h2 := lb_step k (by omega)
  have h3 := lb_mono (show k + 1 ≤ j by omega) hj2
  show n < lb j
  omega
theorem dix_is {n k : Nat} (hk : k ≤ 29) (h0 : db k ≤ n) (h1 : n < db k + 2 ^ dx k) : dix n = k := by
  unfold dix
  refine lst_is dstB n k (.inr h0) 29 hk fun j hj hj2 => ?_
  have h2 := db_step k (by omega)
  have h3 := db_mono (show k + 1 ≤ j by omega) hj2
  show n < db j
  omega

/-! The codes are codes. -/
theorem fixL_len : fixL.length = 288 := by kernel_rfl
theorem fixD_len : fixD.length = 32 := by kernel_rfl
theorem cer_fixL : cer fixL = 0 := by kernel_rfl
theorem cer_fixD : cer fixD = 0 := by kernel_rfl
theorem good_fixL : Good fixL := good_of cer_fixL
theorem good_fixD : Good fixD := good_of cer_fixD
theorem ln_fixL : ∀ i, i < 288 → 7 ≤ ln fixL i ∧ ln fixL i ≤ 9 := by
  intro i hi
  have h : (List.range 288).all (fun i => decide (7 ≤ ln fixL i) && decide (ln fixL i ≤ 9)) = true := by kernel_rfl
  have := List.all_eq_true.1 h i (by simpa using hi)
  simpa using this
theorem ln_fixD : ∀ i, i < 32 → ln fixD i = 5 := by
  intro i hi
  have h : (List.range 32).all (fun i => decide (ln fixD i = 5)) = true := by kernel_rfl
  have := List.all_eq_true.1 h i (by simpa using hi)
  simpa using this
theorem sbits_n (L : List Int) (s : Nat) : (sbits L (s : Int)).length = (ln L s).toNat := by unfold sbits; rw [bto_len]; simp
end Go.Proofs.YtnoabdafmgmenaaGreatDoor
