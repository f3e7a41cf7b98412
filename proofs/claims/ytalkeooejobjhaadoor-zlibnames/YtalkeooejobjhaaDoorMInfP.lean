/-
  The reading of a compressed stream, as plain functions of lists: a state is the bit that comes next, the first error, all that was told. No program and no memory is named here.
  The reading of a compressed stream: bounds of what is read. No program and no memory is named here.
-/
import Derived.Test.YtalkeooejobjhaaDoorHufRdq
import Derived.Test.YtalkeooejobjhaaDoorMPlain
namespace Go.Proofs.YtalkeooejobjhaaDoor
set_option linter.unusedVariables false
set_option linter.unusedSimpArgs false

/-- The bit that comes next, the first error, all that was told. -/
structure PS where
  p : Nat
  e : Int
  o : List Int

def stopS (z : Int) (s : PS) : PS := if s.e = 0 then { s with e := z } else s
def bitS (b : List Int) (s : PS) : Int × PS := if s.e = 0 then (if s.p / 8 < b.length then (bitAt b s.p, { s with p := s.p + 1 }) else (0, { s with e := 4 })) else (0, s)
/-- A field of n bits. -/
def fldN (b : List Int) : Nat → PS → Int × PS
  | 0, s => (0, s)
  | n + 1, s => ((fldN b n s).1 + (bitS b (fldN b n s).2).1 * 2 ^ n, (bitS b (fldN b n s).2).2)
/-- A symbol of the code that has the lengths L. -/
def symS (L b : List Int) (s : PS) : Int × PS := if s.e = 0 then ((rdq L b s.p).1, { s with p := s.p + (rdq L b s.p).2.1.toNat, e := (rdq L b s.p).2.2 }) else (0, s)
/-- A number of a span. -/
def wthS (b : List Int) (base bits : Nat) (s : PS) : Int × PS := ((base : Int) + (fldN b bits s).1, (fldN b bits s).2)
def tobS (s : PS) : PS := if s.e = 0 then { s with p := (s.p + 7) / 8 * 8 } else s
/-- Is there room for a byte more? -/
def romS (m : Int) (s : PS) : PS := if (s.o.length : Int) < m then s else stopS 3 s
def telS (m c : Int) (s : PS) : PS := if (romS m s).e = 0 then { romS m s with o := s.o ++ [c] } else romS m s
/-- A byte from d back is told. -/
def bckS (m : Int) (d : Nat) (s : PS) : PS := telS m (s.o[s.o.length - d]?.getD 0) s
def cpyL (m : Int) (d : Nat) : Nat → PS → PS
  | 0, s => s
  | n + 1, s => cpyL m d n (bckS m d s)
def farS (d : Nat) (s : PS) : PS := if s.o.length < d then stopS 5 s else s
def cpyS (m : Int) (n d : Nat) (s : PS) : PS := cpyL m d n (farS d s)
def ordL : List Nat := [16, 17, 18, 0, 8, 7, 9, 6, 10, 5, 11, 4, 12, 3, 13, 2, 14, 1, 15]
/-- The distance of a symbol of the distance code. -/
def dsyS (b : List Int) (x : Int) (s : PS) : Int × PS := if x < 30 then wthS b (dstB[x.toNat]?.getD 0) (dstX[x.toNat]?.getD 0) s else (0, stopS 5 s)
def dstS (D b : List Int) (s : PS) : Int × PS := dsyS b (symS D b s).1 (symS D b s).2
def lthS (b : List Int) (x : Int) (s : PS) : Int × PS := wthS b (lenB[(x - 257).toNat]?.getD 0) (lenX[(x - 257).toNat]?.getD 0) s
/-- A copy, its symbol x being read. -/
def cpxS (D b : List Int) (m x : Int) (s : PS) : PS := cpyS m (lthS b x s).1.toNat (dstS D b (lthS b x s).2).1.toNat (dstS D b (lthS b x s).2).2
/-- The symbols of a block. -/
def cdS (L D b : List Int) (m : Int) : Nat → PS → PS
  | 0, s => s
  | f + 1, s =>
    if s.e = 0 then
      if (symS L b s).1 < 256 then cdS L D b m f (telS m (symS L b s).1 (symS L b s).2)
      else if (symS L b s).1 = 256 then (symS L b s).2
      else if (symS L b s).1 < 286 then cdS L D b m f (cpxS D b m (symS L b s).1 (symS L b s).2)
      else cdS L D b m f (stopS 5 (symS L b s).2)
    else s
def stoL (b : List Int) (m : Int) : Nat → PS → PS
  | 0, s => s
  | n + 1, s => stoL b m n (telS m (fldN b 8 s).1 (fldN b 8 s).2)
def sttS (b : List Int) (m c t : Int) (s : PS) : PS := stoL b m c.toNat (if t = 65535 - c then s else stopS 5 s)
def stoS (b : List Int) (m : Int) (s : PS) : PS :=
  sttS b m (fldN b 16 (tobS s)).1 (fldN b 16 (fldN b 16 (tobS s)).2).1 (fldN b 16 (fldN b 16 (tobS s)).2).2
def cntS (b : List Int) (least most : Int) (s : PS) : Int × PS := (least + (fldN b 5 s).1, if least + (fldN b 5 s).1 ≤ most then (fldN b 5 s).2 else stopS 5 (fldN b 5 s).2)
/-- The lengths of the code of lengths, behind i fields. -/
def colN (b : List Int) : Nat → PS → List Int × PS
  | 0, s => (List.replicate 19 0, s)
  | i + 1, s => ((colN b i s).1.set (ordL[i]?.getD 0) (fldN b 3 (colN b i s).2).1, (fldN b 3 (colN b i s).2).2)
def colC (r : List Int × PS) : List Int × PS := (r.1, if whole r.1 = true then r.2 else stopS 5 r.2)
def colS (b : List Int) (s : PS) : List Int × PS := colC (colN b (4 + (fldN b 4 s).1).toNat (fldN b 4 s).2)
def agnS (b a : List Int) (s : PS) : List Int × PS := if a.length = 0 then ([], stopS 5 s) else (a ++ List.replicate (3 + (fldN b 2 s).1).toNat (a[a.length - 1]?.getD 0), (fldN b 2 s).2)
def nneS (b a : List Int) (k n : Nat) (s : PS) : List Int × PS := (a ++ List.replicate ((k : Int) + (fldN b n s).1).toNat 0, (fldN b n s).2)
/-- What a symbol x of the code of lengths does. -/
def lexS (b a : List Int) (x : Int) (s : PS) : List Int × PS := if x = 16 then agnS b a s else if x = 17 then nneS b a 3 3 s else if x = 18 then nneS b a 11 7 s else (a ++ [x], s)
def lenL (C b : List Int) (N : Nat) : Nat → List Int → PS → List Int × PS
  | 0, a, s => (a, s)
  | f + 1, a, s =>
    if a.length < N ∧ s.e = 0 then lenL C b N f (lexS b a (symS C b s).1 (symS C b s).2).1 (lexS b a (symS C b s).1 (symS C b s).2).2
    else (a, s)
def lenC (N : Nat) (r : List Int × PS) : List Int × PS := (r.1, if r.1.length ≤ N then r.2 else stopS 5 r.2)
def lenS (C b : List Int) (N : Nat) (s : PS) : List Int × PS := lenC N (lenL C b N (N + 1) [] s)
def lits (L : List Int) : Bool := decide (L[256]?.getD 0 ≠ 0) && (whole L || decide (L.sum = 1))
def dsts (D : List Int) : Bool := whole D || decide (D.sum ≤ 1)
/-- The two codes of a dynamic block, of all their lengths. -/
def twoS (l : Nat) (r : List Int × PS) : (List Int × List Int) × PS :=
  if r.2.e = 0 then ((r.1.take l, r.1.drop l), if (lits (r.1.take l) && dsts (r.1.drop l)) = true then r.2 else stopS 5 r.2) else (([], []), r.2)
def co3S (b : List Int) (l d : Int) (r : List Int × PS) : (List Int × List Int) × PS := twoS l.toNat (lenS r.1 b (l + d).toNat r.2)
def co2S (b : List Int) (l : Int) (r : Int × PS) : (List Int × List Int) × PS := co3S b l r.1 (colS b r.2)
def cosS (b : List Int) (s : PS) : (List Int × List Int) × PS := co2S b (cntS b 257 286 s).1 (cntS b 1 30 (cntS b 257 286 s).2)
/-- A block of kind k. -/
def knds (F : Nat) (b : List Int) (m k : Int) (s : PS) : PS :=
  if k = 0 then stoS b m s else if k = 1 then cdS fixL fixD b m F s else if k = 2 then cdS (cosS b s).1.1 (cosS b s).1.2 b m F (cosS b s).2 else stopS 5 s
/-- What a block tells of itself. -/
structure Blk where
  kind : Int
  last : Bool
  at_ : Nat
  out : Int
def hd1 (b : List Int) (s : PS) : Int × PS := fldN b 1 s
def hd2 (b : List Int) (s : PS) : Int × PS := fldN b 2 (fldN b 1 s).2
def blkS (F : Nat) (b : List Int) (m : Int) (s : PS) : PS := knds F b m (hd2 b s).1 (hd2 b s).2
def blkV (F : Nat) (b : List Int) (m : Int) (s : PS) : Blk := ⟨(hd2 b s).1, decide ((hd1 b s).1 = 1), s.p, ((blkS F b m s).o.length : Int) - s.o.length⟩
/-- All blocks, f being as many as there can be. -/
def allS (F : Nat) (b : List Int) (m : Int) : Nat → Bool → List Blk → PS → List Blk × PS
  | 0, ov, l, s => (l, s)
  | f + 1, ov, l, s => if ov = false ∧ s.e = 0 then allS F b m f (blkV F b m s).last (l ++ [blkV F b m s]) (blkS F b m s) else (l, s)
def infS (F : Nat) (b : List Int) (m : Int) : List Blk × PS := allS F b m F false [] ⟨0, 0, []⟩

theorem stopS_live {z : Int} {s : PS} (h : s.e = 0) : stopS z s = { s with e := z } := if_pos h
theorem stopS_dead {z : Int} {s : PS} (h : s.e ≠ 0) : stopS z s = s := if_neg h
theorem stopS_p (z : Int) (s : PS) : (stopS z s).p = s.p := by unfold stopS; split <;> rfl
theorem stopS_o (z : Int) (s : PS) : (stopS z s).o = s.o := by unfold stopS; split <;> rfl
theorem stopS_e (z : Int) (s : PS) (hz : z ≠ 0) : (stopS z s).e ≠ 0 := by unfold stopS; split <;> assumption
theorem bitS_live {b : List Int} {s : PS} (h : s.e = 0) (hs : s.p / 8 < b.length) : bitS b s = (bitAt b s.p, { s with p := s.p + 1 }) := by unfold bitS; rw [if_pos h, if_pos hs]
theorem bitS_short {b : List Int} {s : PS} (h : s.e = 0) (hs : ¬ s.p / 8 < b.length) : bitS b s = (0, { s with e := 4 }) := by unfold bitS; rw [if_pos h, if_neg hs]
theorem bitS_dead {b : List Int} {s : PS} (h : s.e ≠ 0) : bitS b s = (0, s) := by unfold bitS; rw [if_neg h]
theorem bitS_bd (b : List Int) (s : PS) : 0 ≤ (bitS b s).1 ∧ (bitS b s).1 ≤ 1 := by
  unfold bitS
  split
  · split
    · exact bitAt_bd b s.p
    · simp
  · simp
theorem fldN_bd (b : List Int) : ∀ (n : Nat) (s : PS), 0 ≤ (fldN b n s).1 ∧ (fldN b n s).1 < 2 ^ n
  | 0, s => by simp [fldN]
  | n + 1, s => by
    have ih := fldN_bd b n s
    have hb := bitS_bd b (fldN b n s).2
    have hp : (0 : Int) < 2 ^ n := Int.pow_pos (by omega)
    simp only [fldN]
    rw [Int.pow_succ]
    have h1 : (bitS b (fldN b n s).2).1 = 0 ∨ (bitS b (fldN b n s).2).1 = 1 := by omega
    rcases h1 with h1 | h1 <;> rw [h1] <;> omega
theorem symS_bd (L b : List Int) (s : PS) : 0 ≤ (symS L b s).1 ∧ ((symS L b s).1 = 0 ∨ (symS L b s).1 < L.length) := by
  unfold symS
  split
  · unfold rdq
    split
    · split
      · simp
      · have := dec_bd L b ((s.p : Int).toNat) (lng L 16) 0 0
        exact ⟨this.1, this.2.2.1⟩
    · simp
  · simp

end Go.Proofs.YtalkeooejobjhaaDoor

namespace Go.Proofs.YtalkeooejobjhaaDoor
set_option linter.unusedVariables false
set_option linter.unusedSimpArgs false

theorem dec_e (L b : List Int) (at_ : Nat) : ∀ f n x, (dec L b at_ f n x).2.2 = 0 ∨ (dec L b at_ f n x).2.2 = 4 ∨ (dec L b at_ f n x).2.2 = 5
  | 0, n, x => by simp [dec]
  | f + 1, n, x => by
    simp only [dec]
    split
    · simp
    · split
      · simp
      · exact dec_e L b at_ f (n + 1) _
theorem cer_e (L : List Int) : 0 ≤ cer L ∧ cer L ≤ 7 := by
  unfold cer
  split
  · omega
  · split
    · omega
    · split <;> omega
theorem rdq_ok (L b : List Int) (p : Nat) (h : (rdq L b p).2.2 = 0) : ∃ i k : Nat, rdq L b p = ((i : Int), (k : Int), 0) ∧ i < L.length ∧ 1 ≤ k ∧ p + k ≤ 8 * b.length ∧ cer L = 0 := by
  unfold rdq at h ⊢
  by_cases hc : cer L = 0
  · rw [if_pos hc] at h ⊢
    rw [if_neg (by omega)] at h ⊢
    obtain ⟨i, k, h1, h2, h3, h4, h5, h6⟩ := dec_ok L b ((p : Int).toNat) (lng L 16) 0 0 h
    exact ⟨i, k, h1, h2, by omega, by omega, hc⟩
  · rw [if_neg hc] at h
    exact absurd h hc
theorem rdq_no (L b : List Int) (p : Nat) (h : ¬ (rdq L b p).2.2 = 0) : (rdq L b p).1 = 0 ∧ (rdq L b p).2.1 = 0 ∧ 0 ≤ (rdq L b p).2.2 ∧ (rdq L b p).2.2 ≤ 7 := by
  have hce := cer_e L
  unfold rdq at h ⊢
  by_cases hc : cer L = 0
  · rw [if_pos hc] at h ⊢
    rw [if_neg (by omega)] at h ⊢
    have h1 := dec_err L b ((p : Int).toNat) (lng L 16) 0 0
    have h2 := dec_e L b ((p : Int).toNat) (lng L 16) 0 0
    unfold rd at h ⊢
    rcases h1 with h1 | h1
    · exact absurd h1 h
    · exact ⟨h1.1, h1.2, by omega, by omega⟩
  · rw [if_neg hc]
    exact ⟨rfl, rfl, hce.1, hce.2⟩
theorem symS_live {L b : List Int} {s : PS} (h : s.e = 0) : symS L b s = ((rdq L b s.p).1, { s with p := s.p + (rdq L b s.p).2.1.toNat, e := (rdq L b s.p).2.2 }) := if_pos h
theorem symS_dead {L b : List Int} {s : PS} (h : s.e ≠ 0) : symS L b s = (0, s) := if_neg h
theorem rdq_fit (L b : List Int) (p : Nat) (hp : p ≤ 8 * b.length) : 0 ≤ (rdq L b p).1 ∧ 0 ≤ (rdq L b p).2.1 ∧ p + (rdq L b p).2.1.toNat ≤ 8 * b.length ∧ 0 ≤ (rdq L b p).2.2 ∧ (rdq L b p).2.2 ≤ 7 := by
  by_cases h : (rdq L b p).2.2 = 0
  · obtain ⟨i, k, h1, h2, h3, h4, _⟩ := rdq_ok L b p h
    rw [h1]
    refine ⟨?_, ?_, ?_, ?_, ?_⟩ <;> simp <;> omega
  · obtain ⟨h1, h2, h3, h4⟩ := rdq_no L b p h
    rw [h1, h2]
    exact ⟨by omega, by omega, by simpa using hp, h3, h4⟩
theorem symS_320 (L b : List Int) (s : PS) : (symS L b s).1 < 320 := by
  by_cases he : s.e = 0
  · rw [symS_live he]
    by_cases h : (rdq L b s.p).2.2 = 0
    · obtain ⟨i, k, h1, h2, h3, h4, hc⟩ := rdq_ok L b s.p h
      rw [h1]
      have := (good_of hc).len
      simp
      omega
    · rw [(rdq_no L b s.p h).1]
      simp
  · rw [symS_dead he]
    simp
theorem fldN_dead {b : List Int} {s : PS} (h : s.e ≠ 0) : ∀ n, fldN b n s = (0, s)
  | 0 => rfl
  | n + 1 => by simp only [fldN, fldN_dead h n, bitS_dead h]; simp
theorem romS_dead {m : Int} {s : PS} (h : s.e ≠ 0) : romS m s = s := by unfold romS; split; rfl; exact stopS_dead h
theorem romS_o (m : Int) (s : PS) : (romS m s).o = s.o := by unfold romS; split; rfl; exact stopS_o _ _
theorem telS_dead {m c : Int} {s : PS} (h : s.e ≠ 0) : telS m c s = s := by unfold telS; rw [romS_dead h, if_neg h]
theorem telS_live {m c : Int} {s : PS} (h : s.e = 0) (hm : (s.o.length : Int) < m) : telS m c s = { s with o := s.o ++ [c] } := by unfold telS romS; rw [if_pos hm, if_pos h]
theorem telS_full {m c : Int} {s : PS} (h : s.e = 0) (hm : ¬ (s.o.length : Int) < m) : telS m c s = { s with e := 3 } := by unfold telS romS; rw [if_neg hm, stopS_live h, if_neg (by simp)]
theorem bckS_dead {m : Int} {d : Nat} {s : PS} (h : s.e ≠ 0) : bckS m d s = s := telS_dead h
theorem cpyL_dead {m : Int} {d : Nat} {s : PS} (h : s.e ≠ 0) : ∀ n, cpyL m d n s = s
  | 0 => rfl
  | n + 1 => by simp only [cpyL, bckS_dead h]; exact cpyL_dead h n
theorem stoL_dead {b : List Int} {m : Int} {s : PS} (h : s.e ≠ 0) : ∀ n, stoL b m n s = s
  | 0 => rfl
  | n + 1 => by simp only [stoL, fldN_dead h, telS_dead h]; exact stoL_dead h n
theorem cdS_dead {L D b : List Int} {m : Int} {s : PS} (h : s.e ≠ 0) : ∀ n, cdS L D b m n s = s
  | 0 => rfl
  | n + 1 => by simp only [cdS]; exact if_neg h
theorem lenL_dead {C b : List Int} {N : Nat} {a : List Int} {s : PS} (h : s.e ≠ 0) : ∀ n, lenL C b N n a s = (a, s)
  | 0 => rfl
  | n + 1 => by simp only [lenL]; exact if_neg (fun q => h q.2)

end Go.Proofs.YtalkeooejobjhaaDoor
