/-
  The reading of a compressed stream, as plain functions of lists: a state is the bit that comes next, the first error, all that was told. No program and no memory is named here.
  The reading of a compressed stream: bounds of what is read. No program and no memory is named here.
  The lengths of a dynamic block's codes: bounds of what is read. No program and no memory is named here.
  What every step of the reading keeps to: behind an error nothing changes; what is read goes on, and stays within the bytes and the limit; other bytes behind what was read, or a greater limit, do not count; fewer bytes, or a smaller limit, give the same or just that error. No program and no memory is named here.
-/
import Derived.Test.YtnoabdafmgmenaaGreatDoorMHuf2
import Derived.Test.YtnoabdafmgmenaaGreatDoorMPlain
namespace Go.Proofs.YtnoabdafmgmenaaGreatDoor
set_option linter.unusedVariables false
set_option linter.unusedSimpArgs false

/-- The bit that comes next, the first error, all that was told. -/
structure PS where
  p : Nat
  e : Int
  o : List Int

def stopS (z : Int) (s : PS) : PS := if s.e = 0 then { s with e := z } else s
def bitS (b : List Int) (s : PS) : Int × PS := if s.e = 0 then (if s.p / 8 < b.length then (bitAt b s.p, { s with p := s.p + 1 }) else (0, { s with e := 4 })) else (0, s)
/-- A field of n bits. -/
def fldN (b : List Int) : Nat → PS → Int × PS
  | 0, s => (0, s)
  | n + 1, s => ((fldN b n s).1 + (bitS b (fldN b n s).2).1 * 2 ^ n, (bitS b (fldN b n s).2).2)
/-- A symbol of the code that has the lengths L. -/
def symS (L b : List Int) (s : PS) : Int × PS := if s.e = 0 then ((rdq L b s.p).1, { s with p := s.p + (rdq L b s.p).2.1.toNat, e := (rdq L b s.p).2.2 }) else (0, s)
/-- A number of a span. -/
def wthS (b : List Int) (base bits : Nat) (s : PS) : Int × PS := ((base : Int) + (fldN b bits s).1, (fldN b bits s).2)
def tobS (s : PS) : PS := if s.e = 0 then { s with p := (s.p + 7) / 8 * 8 } else s
/-- Is there room for a byte more? -/
def romS (m : Int) (s : PS) : PS := if (s.o.length : Int) < m then s else stopS 3 s
def telS (m c : Int) (s : PS) : PS := if (romS m s).e = 0 then { romS m s with o := s.o ++ [c] } else romS m s
/-- A byte from d back is told. -/
def bckS (m : Int) (d : Nat) (s : PS) : PS := telS m (s.o[s.o.length - d]?.getD 0) s
def cpyL (m : Int) (d : Nat) : Nat → PS → PS
  | 0, s => s
  | n + 1, s => cpyL m d n (bckS m d s)
def farS (d : Nat) (s : PS) : PS := if s.o.length < d then stopS 5 s else s
def cpyS (m : Int) (n d : Nat) (s : PS) : PS := cpyL m d n (farS d s)
def ordL : List Nat := [16, 17, 18, 0, 8, 7, 9, 6, 10, 5, 11, 4, 12, 3, 13, 2, 14, 1, 15]
/-- The distance of a symbol of the distance code. -/
def dsyS (b : List Int) (x : Int) (s : PS) : Int × PS := if x < 30 then wthS b (dstB[x.toNat]?.getD 0) (dstX[x.toNat]?.getD 0) s else (0, stopS 5 s)
def dstS (D b : List Int) (s : PS) : Int × PS := dsyS b (symS D b s).1 (symS D b s).2
def lthS (b : List Int) (x : Int) (s : PS) : Int × PS := wthS b (lenB[(x - 257).toNat]?.getD 0) (lenX[(x - 257).toNat]?.getD 0) s
/-- A copy, its symbol x being read. -/
def cpxS (D b : List Int) (m x : Int) (s : PS) : PS := cpyS m (lthS b x s).1.toNat (dstS D b (lthS b x s).2).1.toNat (dstS D b (lthS b x s).2).2
/-- The symbols of a block. -/
def cdS (L D b : List Int) (m : Int) : Nat → PS → PS
  | 0, s => s
  | f + 1, s =>
    if s.e = 0 then
      if (symS L b s).1 < 256 then cdS L D b m f (telS m (symS L b s).1 (symS L b s).2)
      else if (symS L b s).1 = 256 then (symS L b s).2
      else if (symS L b s).1 < 286 then cdS L D b m f (cpxS D b m (symS L b s).1 (symS L b s).2)
      else cdS L D b m f (stopS 5 (symS L b s).2)
    else s
def stoL (b : List Int) (m : Int) : Nat → PS → PS
  | 0, s => s
  | n + 1, s => stoL b m n (telS m (fldN b 8 s).1 (fldN b 8 s).2)
def sttS (b : List Int) (m c t : Int) (s : PS) : PS := stoL b m c.toNat (if t = 65535 - c then s else stopS 5 s)
def stoS (b : List Int) (m : Int) (s : PS) : PS :=
  sttS b m (fldN b 16 (tobS s)).1 (fldN b 16 (fldN b 16 (tobS s)).2).1 (fldN b 16 (fldN b 16 (tobS s)).2).2
def cntS (b : List Int) (least most : Int) (s : PS) : Int × PS := (least + (fldN b 5 s).1, if least + (fldN b 5 s).1 ≤ most then (fldN b 5 s).2 else stopS 5 (fldN b 5 s).2)
/-- The lengths of the code of lengths, behind i fields. -/
def colN (b : List Int) : Nat → PS → List Int × PS
  | 0, s => (List.replicate 19 0, s)
  | i + 1, s => ((colN b i s).1.set (ordL[i]?.getD 0) (fldN b 3 (colN b i s).2).1, (fldN b 3 (colN b i s).2).2)
def colC (r : List Int × PS) : List Int × PS := (r.1, if whole r.1 = true then r.2 else stopS 5 r.2)
def colS (b : List Int) (s : PS) : List Int × PS := colC (colN b (4 + (fldN b 4 s).1).toNat (fldN b 4 s).2)
def agnS (b a : List Int) (s : PS) : List Int × PS := if a.length = 0 then ([], stopS 5 s) else (a ++ List.replicate (3 + (fldN b 2 s).1).toNat (a[a.length - 1]?.getD 0), (fldN b 2 s).2)
def nneS (b a : List Int) (k n : Nat) (s : PS) : List Int × PS := (a ++ List.replicate ((k : Int) + (fldN b n s).1).toNat 0, (fldN b n s).2)
/-- What a symbol x of the code of lengths does. -/
def lexS (b a : List Int) (x : Int) (s : PS) : List Int × PS := if x = 16 then agnS b a s else if x = 17 then nneS b a 3 3 s else if x = 18 then nneS b a 11 7 s else (a ++ [x], s)
def lenL (C b : List Int) (N : Nat) : Nat → List Int → PS → List Int × PS
  | 0, a, s => (a, s)
  | f + 1, a, s =>
    if a.length < N ∧ s.e = 0 then lenL C b N f (lexS b a (symS C b s).1 (symS C b s).2).1 (lexS b a (symS C b s).1 (symS C b s).2).2
    else (a, s)
def lenC (N : Nat) (r : List Int × PS) : List Int × PS := (r.1, if r.1.length ≤ N then r.2 else stopS 5 r.2)
def lenS (C b : List Int) (N : Nat) (s : PS) : List Int × PS := lenC N (lenL C b N (N + 1) [] s)
def lits (L : List Int) : Bool := decide (L[256]?.getD 0 ≠ 0) && (whole L || decide (L.sum = 1))
def dsts (D : List Int) : Bool := whole D || decide (D.sum ≤ 1)
/-- The two codes of a dynamic block, of all their lengths. -/
def twoS (l : Nat) (r : List Int × PS) : (List Int × List Int) × PS :=
  if r.2.e = 0 then ((r.1.take l, r.1.drop l), if (lits (r.1.take l) && dsts (r.1.drop l)) = true then r.2 else stopS 5 r.2) else (([], []), r.2)
def co3S (b : List Int) (l d : Int) (r : List Int × PS) : (List Int × List Int) × PS := twoS l.toNat (lenS r.1 b (l + d).toNat r.2)
def co2S (b : List Int) (l : Int) (r : Int × PS) : (List Int × List Int) × PS := co3S b l r.1 (colS b r.2)
def cosS (b : List Int) (s : PS) : (List Int × List Int) × PS := co2S b (cntS b 257 286 s).1 (cntS b 1 30 (cntS b 257 286 s).2)
/-- A block of kind k. -/
def knds (F : Nat) (b : List Int) (m k : Int) (s : PS) : PS :=
  if k = 0 then stoS b m s else if k = 1 then cdS fixL fixD b m F s else if k = 2 then cdS (cosS b s).1.1 (cosS b s).1.2 b m F (cosS b s).2 else stopS 5 s
/-- What a block tells of itself. -/
structure Blk where
  kind : Int
  last : Bool
  at_ : Nat
  out : Int
def hd1 (b : List Int) (s : PS) : Int × PS := fldN b 1 s
def hd2 (b : List Int) (s : PS) : Int × PS := fldN b 2 (fldN b 1 s).2
def blkS (F : Nat) (b : List Int) (m : Int) (s : PS) : PS := knds F b m (hd2 b s).1 (hd2 b s).2
def blkV (F : Nat) (b : List Int) (m : Int) (s : PS) : Blk := ⟨(hd2 b s).1, decide ((hd1 b s).1 = 1), s.p, ((blkS F b m s).o.length : Int) - s.o.length⟩
/-- All blocks, f being as many as there can be. -/
def allS (F : Nat) (b : List Int) (m : Int) : Nat → Bool → List Blk → PS → List Blk × PS
  | 0, ov, l, s => (l, s)
  | f + 1, ov, l, s => if ov = false ∧ s.e = 0 then allS F b m f (blkV F b m s).last (l ++ [blkV F b m s]) (blkS F b m s) else (l, s)
def infS (F : Nat) (b : List Int) (m : Int) : List Blk × PS := allS F b m F false [] ⟨0, 0, []⟩

theorem stopS_live {z : Int} {s : PS} (h : s.e = 0) : stopS z s = { s with e := z } := if_pos h
theorem stopS_dead {z : Int} {s : PS} (h : s.e ≠ 0) : stopS z s = s := if_neg h
theorem stopS_p (z : Int) (s : PS) : (stopS z s).p = s.p := by unfold stopS; split <;> rfl
theorem stopS_o (z : Int) (s : PS) : (stopS z s).o = s.o := by unfold stopS; split <;> rfl
theorem stopS_e (z : Int) (s : PS) (hz : z ≠ 0) : (stopS z s).e ≠ 0 := by unfold stopS; split <;> assumption
theorem bitS_live {b : List Int} {s : PS} (h : s.e = 0) (hs : s.p / 8 < b.length) : bitS b s = (bitAt b s.p, { s with p := s.p + 1 }) := by unfold bitS; rw [if_pos h, if_pos hs]
theorem bitS_short {b : List Int} {s : PS} (h : s.e = 0) (hs : ¬ s.p / 8 < b.length) : bitS b s = (0, { s with e := 4 }) := by unfold bitS; rw [if_pos h, if_neg hs]
theorem bitS_dead {b : List Int} {s : PS} (h : s.e ≠ 0) : bitS b s = (0, s) := by unfold bitS; rw [if_neg h]
theorem bitS_bd (b : List Int) (s : PS) : 0 ≤ (bitS b s).1 ∧ (bitS b s).1 ≤ 1 := by
  unfold bitS
  split
  · split
    · exact bitAt_bd b s.p
    · simp
  · simp
theorem fldN_bd (b : List Int) : ∀ (n : Nat) (s : PS), 0 ≤ (fldN b n s).1 ∧ (fldN b n s).1 < 2 ^ n
  | 0, s => by simp [fldN]
  | n + 1, s => by
    have ih := fldN_bd b n s
    have hb := bitS_bd b (fldN b n s).2
    have hp : (0 : Int) < 2 ^ n := Int.pow_pos (by omega)
    simp only [fldN]
    rw [Int.pow_succ]
    have h1 : (bitS b (fldN b n s).2).1 = 0 ∨ (bitS b (fldN b n s).2).1 = 1 := by omega
    rcases h1 with h1 | h1 <;> rw [h1] <;> omega
theorem symS_bd (L b : List Int) (s : PS) : 0 ≤ (symS L b s).1 ∧ ((symS L b s).1 = 0 ∨ (symS L b s).1 < L.length) := by
  unfold symS
  split
  · unfold rdq
    split
    · split
      · simp
      · have := dec_bd L b ((s.p : Int).toNat) (lng L 16) 0 0
        exact ⟨this.1, this.2.2.1⟩
    · simp
  · simp

end Go.Proofs.YtnoabdafmgmenaaGreatDoor

namespace Go.Proofs.YtnoabdafmgmenaaGreatDoor
set_option linter.unusedVariables false
set_option linter.unusedSimpArgs false

theorem dec_e (L b : List Int) (at_ : Nat) : ∀ f n x, (dec L b at_ f n x).2.2 = 0 ∨ (dec L b at_ f n x).2.2 = 4 ∨ (dec L b at_ f n x).2.2 = 5
  | 0, n, x => by simp [dec]
  | f + 1, n, x => by
    simp only [dec]
    split
    · simp
    · split
      · simp
      · exact dec_e L b at_ f (n + 1) _
theorem cer_e (L : List Int) : 0 ≤ cer L ∧ cer L ≤ 7 := by
  unfold cer
  split
  · omega
  · split
    · omega
    · split <;> omega
theorem rdq_ok (L b : List Int) (p : Nat) (h : (rdq L b p).2.2 = 0) : ∃ i k : Nat, rdq L b p = ((i : Int), (k : Int), 0) ∧ i < L.length ∧ 1 ≤ k ∧ p + k ≤ 8 * b.length ∧ cer L = 0 := by
  unfold rdq at h ⊢
  by_cases hc : cer L = 0
  · rw [if_pos hc] at h ⊢
    rw [if_neg (by omega)] at h ⊢
    obtain ⟨i, k, h1, h2, h3, h4, h5, h6⟩ := dec_ok L b ((p : Int).toNat) (lng L 16) 0 0 h
    exact ⟨i, k, h1, h2, by omega, by omega, hc⟩
  · rw [if_neg hc] at h
    exact absurd h hc
theorem rdq_no (L b : List Int) (p : Nat) (h : ¬ (rdq L b p).2.2 = 0) : (rdq L b p).1 = 0 ∧ (rdq L b p).2.1 = 0 ∧ 0 ≤ (rdq L b p).2.2 ∧ (rdq L b p).2.2 ≤ 7 := by
  have hce := cer_e L
  unfold rdq at h ⊢
  by_cases hc : cer L = 0
  · rw [if_pos hc] at h ⊢
    rw [if_neg (by omega)] at h ⊢
    have h1 := dec_err L b ((p : Int).toNat) (lng L 16) 0 0
    have h2 := dec_e L b ((p : Int).toNat) (lng L 16) 0 0
    unfold rd at h ⊢
    rcases h1 with h1 | h1
    · exact absurd h1 h
    · exact ⟨h1.1, h1.2, by omega, by omega⟩
  · rw [if_neg hc]
    exact ⟨rfl, rfl, hce.1, hce.2⟩
theorem symS_live {L b : List Int} {s : PS} (h : s.e = 0) : symS L b s = ((rdq L b s.p).1, { s with p := s.p + (rdq L b s.p).2.1.toNat, e := (rdq L b s.p).2.2 }) := if_pos h
theorem symS_dead {L b : List Int} {s : PS} (h : s.e ≠ 0) : symS L b s = (0, s) := if_neg h
theorem rdq_fit (L b : List Int) (p : Nat) (hp : p ≤ 8 * b.length) : 0 ≤ (rdq L b p).1 ∧ 0 ≤ (rdq L b p).2.1 ∧ p + (rdq L b p).2.1.toNat ≤ 8 * b.length ∧ 0 ≤ (rdq L b p).2.2 ∧ (rdq L b p).2.2 ≤ 7 := by
  by_cases h : (rdq L b p).2.2 = 0
  · obtain ⟨i, k, h1, h2, h3, h4, _⟩ := rdq_ok L b p h
    rw [h1]
    refine ⟨?_, ?_, ?_, ?_, ?_⟩ <;> simp <;> omega
  · obtain ⟨h1, h2, h3, h4⟩ := rdq_no L b p h
    rw [h1, h2]
    exact ⟨by omega, by omega, by simpa using hp, h3, h4⟩
theorem symS_320 (L b : List Int) (s : PS) : (symS L b s).1 < 320 := by
  by_cases he : s.e = 0
  · rw [symS_live he]
    by_cases h : (rdq L b s.p).2.2 = 0
    · obtain ⟨i, k, h1, h2, h3, h4, hc⟩ := rdq_ok L b s.p h
      rw [h1]
      have := (good_of hc).len
      simp
      omega
    · rw [(rdq_no L b s.p h).1]
      simp
  · rw [symS_dead he]
    simp
theorem fldN_dead {b : List Int} {s : PS} (h : s.e ≠ 0) : ∀ n, fldN b n s = (0, s)
  | 0 => rfl
  | n + 1 => by simp only [fldN, fldN_dead h n, bitS_dead h]; simp
theorem romS_dead {m : Int} {s : PS} (h : s.e ≠ 0) : romS m s = s := by unfold romS; split; rfl; exact stopS_dead h
theorem romS_o (m : Int) (s : PS) : (romS m s).o = s.o := by unfold romS; split; rfl; exact stopS_o _ _
theorem telS_dead {m c : Int} {s : PS} (h : s.e ≠ 0) : telS m c s = s := by unfold telS; rw [romS_dead h, if_neg h]
theorem telS_live {m c : Int} {s : PS} (h : s.e = 0) (hm : (s.o.length : Int) < m) : telS m c s = { s with o := s.o ++ [c] } := by unfold telS romS; rw [if_pos hm, if_pos h]
theorem telS_full {m c : Int} {s : PS} (h : s.e = 0) (hm : ¬ (s.o.length : Int) < m) : telS m c s = { s with e := 3 } := by unfold telS romS; rw [if_neg hm, stopS_live h, if_neg (by simp)]
theorem bckS_dead {m : Int} {d : Nat} {s : PS} (h : s.e ≠ 0) : bckS m d s = s := telS_dead h
theorem cpyL_dead {m : Int} {d : Nat} {s : PS} (h : s.e ≠ 0) : ∀ n, cpyL m d n s = s
  | 0 => rfl
  | n + 1 => by simp only [cpyL, bckS_dead h]; exact cpyL_dead h n
theorem stoL_dead {b : List Int} {m : Int} {s : PS} (h : s.e ≠ 0) : ∀ n, stoL b m n s = s
  | 0 => rfl
  | n + 1 => by simp only [stoL, fldN_dead h, telS_dead h]; exact stoL_dead h n
theorem cdS_dead {L D b : List Int} {m : Int} {s : PS} (h : s.e ≠ 0) : ∀ n, cdS L D b m n s = s
  | 0 => rfl
  | n + 1 => by simp only [cdS]; exact if_neg h
theorem lenL_dead {C b : List Int} {N : Nat} {a : List Int} {s : PS} (h : s.e ≠ 0) : ∀ n, lenL C b N n a s = (a, s)
  | 0 => rfl
  | n + 1 => by simp only [lenL]; exact if_neg (fun q => h q.2)

end Go.Proofs.YtnoabdafmgmenaaGreatDoor

namespace Go.Proofs.YtnoabdafmgmenaaGreatDoor
set_option linter.unusedVariables false
set_option linter.unusedSimpArgs false

def Rng (a : List Int) : Prop := ∀ x ∈ a, 0 ≤ x ∧ x ≤ 15
theorem Rng.rep {a : List Int} (h : Rng a) (k : Nat) {v : Int} (h0 : 0 ≤ v) (h1 : v ≤ 15) : Rng (a ++ List.replicate k v) := by
  intro x hx
  rcases List.mem_append.1 hx with q | q
  · exact h x q
  · have := List.eq_of_mem_replicate q
    omega
theorem Rng.one {a : List Int} (h : Rng a) {v : Int} (h0 : 0 ≤ v) (h1 : v ≤ 15) : Rng (a ++ [v]) := h.rep 1 h0 h1
theorem Rng.getD {a : List Int} (h : Rng a) (i : Nat) : 0 ≤ a[i]?.getD 0 ∧ a[i]?.getD 0 ≤ 15 := by
  rcases Nat.lt_or_ge i a.length with hi | hi
  · simp only [List.getElem?_eq_getElem hi, Option.getD_some]
    exact h _ (List.getElem_mem hi)
  · simp [List.getElem?_eq_none hi]

theorem lexS_rng {b a : List Int} {x : Int} {s : PS} (h : Rng a) (h0 : 0 ≤ x) (h1 : x < 19) : Rng (lexS b a x s).1 := by
  unfold lexS
  split
  · unfold agnS
    split
    · intro y hy; cases hy
    · exact h.rep _ (h.getD _).1 (h.getD _).2
  · split
    · exact h.rep _ (by omega) (by omega)
    · split
      · exact h.rep _ (by omega) (by omega)
      · exact h.one h0 (by omega)
theorem lexS_len {b a : List Int} {x : Int} {s : PS} : (lexS b a x s).1.length ≤ a.length + 140 ∧ ((lexS b a x s).2.e = 0 → a.length + 1 ≤ (lexS b a x s).1.length) := by
  have b2 := fldN_bd b 2 s
  have b3 := fldN_bd b 3 s
  have b7 := fldN_bd b 7 s
  unfold lexS
  split
  · unfold agnS
    split
    · refine ⟨by simp, fun h => absurd h (stopS_e 5 s (by omega))⟩
    · simp only [List.length_append, List.length_replicate]
      omega
  · split
    · simp only [nneS, List.length_append, List.length_replicate]
      omega
    · split
      · simp only [nneS, List.length_append, List.length_replicate]
        omega
      · simp
theorem lenL_rng {C b : List Int} {N : Nat} (hC : C.length ≤ 19) : ∀ (f : Nat) (a : List Int) (s : PS), Rng a → Rng (lenL C b N f a s).1
  | 0, a, s, h => h
  | f + 1, a, s, h => by
    simp only [lenL]
    split
    · have hb := symS_bd C b s
      exact lenL_rng hC f _ _ (lexS_rng h hb.1 (by omega))
    · exact h
theorem lenL_ok {C b : List Int} {N : Nat} : ∀ (f : Nat) (a : List Int) (s : PS), N + 1 ≤ f + a.length → (lenL C b N f a s).2.e = 0 → N ≤ (lenL C b N f a s).1.length
  | 0, a, s, hf, h => by simp only [lenL]; omega
  | f + 1, a, s, hf, h => by
    simp only [lenL] at h ⊢
    by_cases hc : a.length < N ∧ s.e = 0
    · rw [if_pos hc] at h ⊢
      have hl := lexS_len (b := b) (a := a) (x := (symS C b s).1) (s := (symS C b s).2)
      by_cases he : (lexS b a (symS C b s).1 (symS C b s).2).2.e = 0
      · exact lenL_ok f _ _ (by have := hl.2 he; omega) h
      · rw [lenL_dead he] at h
        exact absurd h he
    · rw [if_neg hc] at h ⊢
      simp only at h ⊢
      omega
theorem lenL_end {C b : List Int} {N : Nat} {a : List Int} {s : PS} (h : ¬ (a.length < N ∧ s.e = 0)) : ∀ f, lenL C b N f a s = (a, s)
  | 0 => rfl
  | f + 1 => by simp only [lenL]; exact if_neg h
theorem lenS_rng {C b : List Int} {N : Nat} (hC : C.length ≤ 19) (s : PS) : Rng (lenS C b N s).1 := by
  unfold lenS lenC
  exact lenL_rng hC _ _ _ (fun x hx => by cases hx)
theorem lenS_ok {C b : List Int} {N : Nat} {s : PS} (h : (lenS C b N s).2.e = 0) : (lenS C b N s).1.length = N := by
  unfold lenS lenC at h ⊢
  simp only at h ⊢
  by_cases hl : (lenL C b N (N + 1) [] s).1.length ≤ N
  · rw [if_pos hl] at h
    have := lenL_ok (C := C) (b := b) (N := N) (N + 1) [] s (by simp) h
    omega
  · rw [if_neg hl] at h
    exact absurd h (stopS_e 5 _ (by omega))

end Go.Proofs.YtnoabdafmgmenaaGreatDoor

namespace Go.Proofs.YtnoabdafmgmenaaGreatDoor
set_option linter.unusedVariables false
set_option linter.unusedSimpArgs false

/-- b' has the bits of b up to n. -/
def Agree (b b' : List Int) (n : Nat) : Prop := n ≤ 8 * b'.length ∧ ∀ i, i < n → bitAt b' i = bitAt b i
theorem Agree.mono {b b' : List Int} {n k : Nat} (h : Agree b b' n) (hk : k ≤ n) : Agree b b' k := ⟨Nat.le_trans hk h.1, fun i hi => h.2 i (by omega)⟩
/-- Fewer bytes (the error is 4), or a smaller limit (it is 3). -/
def Cut (z : Int) (b : List Int) (m : Int) (b' : List Int) (m' : Int) : Prop := (z = 4 ∧ m' = m ∧ ∃ k, b' = b.take k) ∨ (z = 3 ∧ b' = b ∧ m' ≤ m)
theorem Cut.ne {z : Int} {b : List Int} {m : Int} {b' : List Int} {m' : Int} (h : Cut z b m b' m') : z ≠ 0 := by
  rcases h with ⟨rfl, _⟩ | ⟨rfl, _⟩ <;> omega

structure Nice {α : Type} (f : List Int → Int → PS → α × PS) : Prop where
  dead : ∀ b m s, s.e ≠ 0 → (f b m s).2 = s
  up : ∀ b m s, s.e = 0 → (f b m s).2.e = 0 → s.p ≤ (f b m s).2.p ∧ s.o.length ≤ (f b m s).2.o.length ∧ (s.p ≤ 8 * b.length → (f b m s).2.p ≤ 8 * b.length) ∧ ((s.o.length : Int) ≤ m → ((f b m s).2.o.length : Int) ≤ m)
  loc : ∀ b m b' m' s, s.e = 0 → (f b m s).2.e = 0 → Agree b b' (f b m s).2.p → ((f b m s).2.o.length : Int) ≤ m' → f b' m' s = f b m s
  cut : ∀ z b m b' m' s, Cut z b m b' m' → s.e = 0 → (f b m s).2.e = 0 → f b' m' s = f b m s ∨ (f b' m' s).2.e = z

theorem Nice.live {α : Type} {f : List Int → Int → PS → α × PS} (h : Nice f) {b : List Int} {m : Int} {s : PS} (he : (f b m s).2.e = 0) : s.e = 0 :=
  Decidable.byContradiction fun q => by have := h.dead b m s q; rw [this] at he; exact q he

theorem Nice.bind {α β : Type} {f : List Int → Int → PS → α × PS} {g : α → List Int → Int → PS → β × PS} (hf : Nice f) (hg : ∀ x, Nice (g x)) : Nice (fun b m s => g (f b m s).1 b m (f b m s).2) := by
  refine ⟨fun b m s h => ?_, fun b m s h he => ?_, fun b m b' m' s h he ha hm => ?_, fun z b m b' m' s hc h he => ?_⟩
  · have h1 := hf.dead b m s h
    have h2 := (hg (f b m s).1).dead b m (f b m s).2 (by rw [h1]; exact h)
    show (g (f b m s).1 b m (f b m s).2).2 = s
    rw [h2, h1]
  · have h1 := (hg _).live he
    have u1 := hf.up b m s h h1
    have u2 := (hg _).up b m _ h1 he
    exact ⟨Nat.le_trans u1.1 u2.1, Nat.le_trans u1.2.1 u2.2.1, fun q => u2.2.2.1 (u1.2.2.1 q), fun q => u2.2.2.2 (u1.2.2.2 q)⟩
  · show g (f b' m' s).1 b' m' (f b' m' s).2 = g (f b m s).1 b m (f b m s).2
    have h1 := (hg _).live he
    have u2 := (hg _).up b m _ h1 he
    have e1 := hf.loc b m b' m' s h h1 (ha.mono u2.1) (by have := u2.2.1; omega)
    rw [e1]
    exact (hg _).loc b m b' m' _ h1 he ha hm
  · show g (f b' m' s).1 b' m' (f b' m' s).2 = g (f b m s).1 b m (f b m s).2 ∨ (g (f b' m' s).1 b' m' (f b' m' s).2).2.e = z
    have h1 := (hg _).live he
    rcases hf.cut z b m b' m' s hc h h1 with e1 | e1
    · rw [e1]
      exact (hg _).cut z b m b' m' _ hc h1 he
    · right
      rw [(hg _).dead b' m' _ (by rw [e1]; exact hc.ne)]
      exact e1
theorem Nice.map {α β : Type} {f : List Int → Int → PS → α × PS} (h : α → β) (hf : Nice f) : Nice (fun b m s => (h (f b m s).1, (f b m s).2)) := by
  refine ⟨fun b m s q => hf.dead b m s q, fun b m s q he => hf.up b m s q he, fun b m b' m' s q he ha hm => ?_, fun z b m b' m' s hc q he => ?_⟩
  · show (h (f b' m' s).1, (f b' m' s).2) = _
    rw [hf.loc b m b' m' s q he ha hm]
  · rcases hf.cut z b m b' m' s hc q he with e1 | e1
    · left
      show (h (f b' m' s).1, (f b' m' s).2) = _
      rw [e1]
    · exact .inr e1
/-- A step that does not ask for the bytes and the limit. -/
theorem Nice.free {α : Type} {f : PS → α × PS} (h1 : ∀ s, s.e ≠ 0 → (f s).2 = s) (h2 : ∀ s, s.e = 0 → (f s).2.e = 0 → s.p ≤ (f s).2.p ∧ (f s).2.o = s.o ∧ ∀ n, s.p ≤ 8 * n → (f s).2.p ≤ 8 * n) : Nice (fun _ _ s => f s) := by
  refine ⟨fun b m s q => h1 s q, fun b m s q he => ?_, fun b m b' m' s q he ha hm => rfl, fun z b m b' m' s hc q he => .inl rfl⟩
  obtain ⟨a1, a2, a3⟩ := h2 s q he
  simp only [a2]
  exact ⟨a1, Nat.le_refl _, a3 b.length, fun q => q⟩
theorem Nice.pure {α : Type} (v : α) : Nice (fun _ _ s => (v, s)) := Nice.free (f := fun s => (v, s)) (fun _ _ => rfl) (fun _ _ _ => ⟨Nat.le_refl _, rfl, fun _ q => q⟩)
theorem Nice.stop {α : Type} (v : α) (z : Int) (hz : z ≠ 0) : Nice (fun _ _ s => (v, stopS z s)) :=
  Nice.free (f := fun s => (v, stopS z s)) (fun s q => stopS_dead q) (fun s _ he => absurd he (stopS_e z s hz))
theorem Nice.iteS {α : Type} {f g : List Int → Int → PS → α × PS} (P : PS → Prop) [DecidablePred P] (hf : Nice f) (hg : Nice g) : Nice (fun b m s => if P s then f b m s else g b m s) := by
  refine ⟨fun b m s q => ?_, fun b m s q he => ?_, fun b m b' m' s q he ha hm => ?_, fun z b m b' m' s hc q he => ?_⟩
  all_goals by_cases hp : P s
  all_goals try simp only [hp, if_true, if_false] at *
  · exact hf.dead b m s q
  · exact hg.dead b m s q
  · exact hf.up b m s q he
  · exact hg.up b m s q he
  · exact hf.loc b m b' m' s q he ha hm
  · exact hg.loc b m b' m' s q he ha hm
  · exact hf.cut z b m b' m' s hc q he
  · exact hg.cut z b m b' m' s hc q he
theorem Nice.ite {α : Type} {f g : List Int → Int → PS → α × PS} (c : Prop) [Decidable c] (hf : Nice f) (hg : Nice g) : Nice (fun b m s => if c then f b m s else g b m s) :=
  Nice.iteS (fun _ => c) hf hg

theorem bitAt_take (b : List Int) (k i : Nat) (h : i / 8 < (b.take k).length) : bitAt (b.take k) i = bitAt b i := by
  unfold bitAt
  rw [List.getElem?_take_of_lt (by simp at h; omega)]
theorem nice_bit : Nice (fun b _ s => bitS b s) := by
  refine ⟨fun b m s q => by simp only [bitS_dead q], fun b m s q he => ?_, fun b m b' m' s q he ha hm => ?_, fun z b m b' m' s hc q he => ?_⟩
  all_goals try simp only at he ⊢
  all_goals by_cases hs : s.p / 8 < b.length
  all_goals first
    | (rw [bitS_short q hs] at he; simp at he)
    | skip
  · rw [bitS_live q hs]
    exact ⟨by simp, by simp, fun _ => by simp only; omega, fun q => q⟩
  · simp only [bitS_live q hs] at ha ⊢
    rw [bitS_live q (show s.p / 8 < b'.length by have := ha.1; omega), ha.2 s.p (by omega)]
  · rcases hc with ⟨rfl, rfl, k, rfl⟩ | ⟨rfl, rfl, _⟩
    · by_cases hs2 : s.p / 8 < (b.take k).length
      · left
        rw [bitS_live q hs, bitS_live q hs2, bitAt_take b k _ hs2]
      · right
        rw [bitS_short q hs2]
    · exact .inl rfl
theorem nice_fld : ∀ n, Nice (fun b _ s => fldN b n s)
  | 0 => Nice.pure (0 : Int)
  | n + 1 => Nice.bind (g := fun x b m s => (x + (bitS b s).1 * 2 ^ n, (bitS b s).2)) (nice_fld n) (fun x => Nice.map (fun y => x + y * 2 ^ n) nice_bit)

theorem dec_loc (L b b' : List Int) (at_ : Nat) : ∀ (f n : Nat) (x : Int), (dec L b at_ f n x).2.2 = 0 → Agree b b' (at_ + (dec L b at_ f n x).2.1.toNat) → dec L b' at_ f n x = dec L b at_ f n x
  | 0, n, x, h, _ => by simp [dec] at h
  | f + 1, n, x, h, ha => by
    by_cases hs : 8 * b.length < at_ + n + 1
    · rw [dec_short L b at_ f n x hs] at h
      simp at h
    · obtain ⟨i, k, hd, _, _, hk, _, _⟩ := dec_ok L b at_ (f + 1) n x h
      rw [hd] at ha
      simp only [Int.toNat_natCast] at ha
      have hs' : ¬ 8 * b'.length < at_ + n + 1 := by have := ha.1; omega
      have hb : bitAt b' (at_ + n) = bitAt b (at_ + n) := ha.2 _ (by omega)
      cases hf : fnd L (n + 1) (2 * x + bitAt b (at_ + n)) with
      | some j => rw [dec_hit L b at_ f n x hs j hf, dec_hit L b' at_ f n x hs' j (by rw [hb]; exact hf)]
      | none =>
        have e1 := dec_miss L b at_ f n x hs hf
        have e2 := dec_miss L b' at_ f n x hs' (by rw [hb]; exact hf)
        rw [e1] at h hd ⊢
        rw [e2, hb]
        exact dec_loc L b b' at_ f (n + 1) _ h (by rw [hd]; simpa using ha)
theorem dec_cut (L b : List Int) (k at_ : Nat) : ∀ (f n : Nat) (x : Int), dec L (b.take k) at_ f n x = dec L b at_ f n x ∨ (dec L (b.take k) at_ f n x).2.2 = 4
  | 0, n, x => .inl rfl
  | f + 1, n, x => by
    by_cases hs : 8 * (b.take k).length < at_ + n + 1
    · right
      rw [dec_short L _ at_ f n x hs]
    · have hs' : ¬ 8 * b.length < at_ + n + 1 := by simp at hs; omega
      have hb : bitAt (b.take k) (at_ + n) = bitAt b (at_ + n) := bitAt_take b k _ (by omega)
      cases hf : fnd L (n + 1) (2 * x + bitAt b (at_ + n)) with
      | some j => left; rw [dec_hit L b at_ f n x hs' j hf, dec_hit L _ at_ f n x hs j (by rw [hb]; exact hf)]
      | none =>
        rw [dec_miss L b at_ f n x hs' hf, dec_miss L _ at_ f n x hs (by rw [hb]; exact hf), hb]
        exact dec_cut L b k at_ f (n + 1) _
theorem rdq_rd {L : List Int} (hc : cer L = 0) (b : List Int) (p : Nat) : rdq L b p = dec L b p (lng L 16) 0 0 := by
  unfold rdq
  rw [if_pos hc, if_neg (by omega)]
  rfl
theorem nice_sym (L : List Int) : Nice (fun b _ s => symS L b s) := by
  refine ⟨fun b m s q => by simp only [symS_dead q], fun b m s q he => ?_, fun b m b' m' s q he ha hm => ?_, fun z b m b' m' s hc q he => ?_⟩
  · simp only [symS_live q] at he ⊢
    obtain ⟨i, k, h1, h2, h3, h4, _⟩ := rdq_ok L b s.p he
    rw [h1]
    exact ⟨by simp, by simp, fun _ => by simpa using h4, fun q => q⟩
  · simp only [symS_live q] at he ha ⊢
    have hr : rdq L b' s.p = rdq L b s.p := by
      obtain ⟨_, _, _, _, _, _, hc⟩ := rdq_ok L b s.p he
      rw [rdq_rd hc] at he ha ⊢
      rw [rdq_rd hc]
      exact dec_loc L b b' _ _ _ _ he ha
    rw [hr]
  · rcases hc with ⟨rfl, rfl, k, rfl⟩ | ⟨rfl, rfl, _⟩
    · simp only [symS_live q] at he ⊢
      obtain ⟨_, _, _, _, _, _, hc⟩ := rdq_ok L b s.p he
      have hr : rdq L (b.take k) s.p = rdq L b s.p ∨ (rdq L (b.take k) s.p).2.2 = 4 := by
        rw [rdq_rd hc, rdq_rd hc]
        exact dec_cut L b k _ _ _ _
      rcases hr with hr | hr
      · left; rw [hr]
      · exact .inr hr
    · exact .inl rfl
theorem nice_tel {c : PS → Int} : Nice (fun _ m s => ((), telS m (c s) s)) := by
  refine ⟨fun b m s q => by simp only [telS_dead q], fun b m s q he => ?_, fun b m b' m' s q he ha hm => ?_, fun z b m b' m' s hc q he => ?_⟩
  all_goals try simp only at he ⊢
  all_goals by_cases hs : (s.o.length : Int) < m
  all_goals first
    | (rw [telS_full q hs] at he; simp at he)
    | skip
  · rw [telS_live q hs]
    exact ⟨by simp, by simp, fun q => q, fun _ => by simp; omega⟩
  · simp only [telS_live q hs] at hm ⊢
    rw [telS_live q (by simp at hm; omega)]
  · rcases hc with ⟨rfl, rfl, k, rfl⟩ | ⟨rfl, rfl, hm⟩
    · exact .inl rfl
    · by_cases hs2 : (s.o.length : Int) < m'
      · left; rw [telS_live q hs, telS_live q hs2]
      · right; rw [telS_full q hs2]

theorem nice_wth (base bits : Nat) : Nice (fun b _ s => wthS b base bits s) := Nice.map (fun x => (base : Int) + x) (nice_fld bits)
theorem nice_dsy (x : Int) : Nice (fun b _ s => dsyS b x s) := Nice.ite (x < 30) (nice_wth _ _) (Nice.stop 0 5 (by omega))
theorem nice_dst (D : List Int) : Nice (fun b _ s => dstS D b s) := Nice.bind (g := fun x b _ s => dsyS b x s) (nice_sym D) nice_dsy
theorem nice_lth (x : Int) : Nice (fun b _ s => lthS b x s) := nice_wth _ _
theorem nice_cpyL (d : Nat) : ∀ n, Nice (fun _ m s => ((), cpyL m d n s))
  | 0 => Nice.pure ()
  | n + 1 => Nice.bind (f := fun _ m s => ((), bckS m d s)) (g := fun _ _ m s => ((), cpyL m d n s)) (nice_tel (c := fun s => s.o[s.o.length - d]?.getD 0)) (fun _ => nice_cpyL d n)
theorem nice_far (d : Nat) : Nice (fun _ _ s => ((), farS d s)) := by
  have h : Nice (fun _ _ s => if s.o.length < d then ((), stopS 5 s) else ((), s)) := Nice.iteS (fun s => s.o.length < d) (Nice.stop () 5 (by omega)) (Nice.pure ())
  have e : (fun (_ : List Int) (_ : Int) (s : PS) => ((), farS d s)) = (fun _ _ s => if s.o.length < d then ((), stopS 5 s) else ((), s)) := by
    funext b m s
    unfold farS
    split <;> rfl
  rw [e]
  exact h
theorem nice_cpy (n d : Nat) : Nice (fun _ m s => ((), cpyS m n d s)) := Nice.bind (f := fun _ _ s => ((), farS d s)) (g := fun _ _ m s => ((), cpyL m d n s)) (nice_far d) (fun _ => nice_cpyL d n)
theorem nice_cpx (D : List Int) (x : Int) : Nice (fun b m s => ((), cpxS D b m x s)) :=
  Nice.bind (f := fun b _ s => lthS b x s) (g := fun l b m s => ((), cpyS m l.toNat (dstS D b s).1.toNat (dstS D b s).2)) (nice_lth x) (fun l =>
    Nice.bind (f := fun b _ s => dstS D b s) (g := fun d b m s => ((), cpyS m l.toNat d.toNat s)) (nice_dst D) (fun d => nice_cpy _ _))
/-- What comes behind a symbol x. -/
def cdX (L D b : List Int) (m : Int) (f : Nat) (x : Int) (s : PS) : PS :=
  if x < 256 then cdS L D b m f (telS m x s) else if x = 256 then s else if x < 286 then cdS L D b m f (cpxS D b m x s) else cdS L D b m f (stopS 5 s)
theorem cdS_live {L D b : List Int} {m : Int} {f : Nat} {s : PS} (h : s.e = 0) : cdS L D b m (f + 1) s = cdX L D b m f (symS L b s).1 (symS L b s).2 := by
  simp only [cdS]
  rw [if_pos h]
  rfl
theorem nice_cd (L D : List Int) : ∀ f, Nice (fun b m s => ((), cdS L D b m f s))
  | 0 => Nice.pure ()
  | f + 1 => by
    have ih := nice_cd L D f
    have hx : ∀ x, Nice (fun b m s => ((), cdX L D b m f x s)) := fun x => by
      have h : Nice (fun b m s => if x < 256 then ((), cdS L D b m f (telS m x s)) else if x = 256 then ((), s) else if x < 286 then ((), cdS L D b m f (cpxS D b m x s)) else ((), cdS L D b m f (stopS 5 s))) :=
        Nice.ite _ (Nice.bind (f := fun _ m s => ((), telS m x s)) (g := fun _ b m s => ((), cdS L D b m f s)) (nice_tel (c := fun _ => x)) (fun _ => ih))
          (Nice.ite _ (Nice.pure ()) (Nice.ite _ (Nice.bind (f := fun b m s => ((), cpxS D b m x s)) (g := fun _ b m s => ((), cdS L D b m f s)) (nice_cpx D x) (fun _ => ih))
            (Nice.bind (f := fun _ _ s => ((), stopS 5 s)) (g := fun _ b m s => ((), cdS L D b m f s)) (Nice.stop () 5 (by omega)) (fun _ => ih))))
      have e : (fun (b : List Int) (m : Int) (s : PS) => ((), cdX L D b m f x s)) = (fun b m s => if x < 256 then ((), cdS L D b m f (telS m x s)) else if x = 256 then ((), s) else if x < 286 then ((), cdS L D b m f (cpxS D b m x s)) else ((), cdS L D b m f (stopS 5 s))) := by
        funext b m s
        unfold cdX
        split
        · rfl
        · split
          · rfl
          · split <;> rfl
      rw [e]
      exact h
    have h : Nice (fun b m s => if s.e = 0 then ((), cdX L D b m f (symS L b s).1 (symS L b s).2) else ((), s)) :=
      Nice.iteS (fun s => s.e = 0) (Nice.bind (f := fun b _ s => symS L b s) (g := fun x b m s => ((), cdX L D b m f x s)) (nice_sym L) hx) (Nice.pure ())
    have e : (fun (b : List Int) (m : Int) (s : PS) => ((), cdS L D b m (f + 1) s)) = (fun b m s => if s.e = 0 then ((), cdX L D b m f (symS L b s).1 (symS L b s).2) else ((), s)) := by
      funext b m s
      by_cases q : s.e = 0
      · rw [cdS_live q, if_pos q]
      · rw [cdS_dead q, if_neg q]
    rw [e]
    exact h
theorem nice_stoL : ∀ n, Nice (fun b m s => ((), stoL b m n s))
  | 0 => Nice.pure ()
  | n + 1 => Nice.bind (f := fun b _ s => fldN b 8 s) (g := fun x b m s => ((), stoL b m n (telS m x s))) (nice_fld 8) (fun x =>
      Nice.bind (f := fun _ m s => ((), telS m x s)) (g := fun _ b m s => ((), stoL b m n s)) (nice_tel (c := fun _ => x)) (fun _ => nice_stoL n))
theorem nice_tob : Nice (fun _ _ s => ((), tobS s)) := by
  refine Nice.free (f := fun s => ((), tobS s)) (fun s q => if_neg q) (fun s q he => ?_)
  have e : tobS s = { s with p := (s.p + 7) / 8 * 8 } := if_pos q
  simp only [e]
  exact ⟨by omega, trivial, fun n hn => by omega⟩
theorem nice_stt (c t : Int) : Nice (fun b m s => ((), sttS b m c t s)) := by
  have h : Nice (fun b m s => if t = 65535 - c then ((), stoL b m c.toNat s) else ((), stoL b m c.toNat (stopS 5 s))) :=
    Nice.ite _ (nice_stoL _) (Nice.bind (f := fun _ _ s => ((), stopS 5 s)) (g := fun _ b m s => ((), stoL b m c.toNat s)) (Nice.stop () 5 (by omega)) (fun _ => nice_stoL _))
  have e : (fun (b : List Int) (m : Int) (s : PS) => ((), sttS b m c t s)) = (fun b m s => if t = 65535 - c then ((), stoL b m c.toNat s) else ((), stoL b m c.toNat (stopS 5 s))) := by
    funext b m s
    unfold sttS
    split <;> rfl
  rw [e]
  exact h
theorem nice_sto : Nice (fun b m s => ((), stoS b m s)) :=
  Nice.bind (f := fun _ _ s => ((), tobS s)) (g := fun _ b m s => ((), sttS b m (fldN b 16 s).1 (fldN b 16 (fldN b 16 s).2).1 (fldN b 16 (fldN b 16 s).2).2)) nice_tob (fun _ =>
    Nice.bind (f := fun b _ s => fldN b 16 s) (g := fun c b m s => ((), sttS b m c (fldN b 16 s).1 (fldN b 16 s).2)) (nice_fld 16) (fun c =>
      Nice.bind (f := fun b _ s => fldN b 16 s) (g := fun t b m s => ((), sttS b m c t s)) (nice_fld 16) (fun t => nice_stt c t)))
theorem nice_cnt (least most : Int) : Nice (fun b _ s => cntS b least most s) := by
  have h : Nice (fun b (_ : Int) s => (fun x (_ : List Int) (_ : Int) (t : PS) => if least + x ≤ most then (least + x, t) else (least + x, stopS 5 t)) (fldN b 5 s).1 b 0 (fldN b 5 s).2) :=
    Nice.bind (f := fun b _ s => fldN b 5 s) (g := fun x (_ : List Int) (_ : Int) (t : PS) => if least + x ≤ most then (least + x, t) else (least + x, stopS 5 t)) (nice_fld 5) (fun x => Nice.ite _ (Nice.pure _) (Nice.stop _ 5 (by omega)))
  have e : (fun (b : List Int) (_ : Int) (s : PS) => cntS b least most s) = (fun b _ s => (fun x (_ : List Int) (_ : Int) (t : PS) => if least + x ≤ most then (least + x, t) else (least + x, stopS 5 t)) (fldN b 5 s).1 b 0 (fldN b 5 s).2) := by
    funext b m s
    unfold cntS
    simp only
    split <;> rfl
  rw [e]
  exact h
theorem nice_colN : ∀ i, Nice (fun b _ s => colN b i s)
  | 0 => Nice.pure _
  | i + 1 => Nice.bind (f := fun b _ s => colN b i s) (g := fun l b _ s => (l.set (ordL[i]?.getD 0) (fldN b 3 s).1, (fldN b 3 s).2)) (nice_colN i) (fun l => Nice.map (fun x => l.set (ordL[i]?.getD 0) x) (nice_fld 3))
theorem nice_col : Nice (fun b _ s => colS b s) := by
  have hc : ∀ l : List Int, Nice (fun (_ : List Int) (_ : Int) s => colC (l, s)) := fun l => by
    have h : Nice (fun (_ : List Int) (_ : Int) s => if whole l = true then (l, s) else (l, stopS 5 s)) := Nice.ite _ (Nice.pure _) (Nice.stop _ 5 (by omega))
    have e : (fun (_ : List Int) (_ : Int) s => colC (l, s)) = (fun (_ : List Int) (_ : Int) (s : PS) => if whole l = true then (l, s) else (l, stopS 5 s)) := by
      funext b m s
      unfold colC
      simp only
      split <;> rfl
    rw [e]
    exact h
  exact Nice.bind (f := fun b _ s => fldN b 4 s) (g := fun x b _ s => colC (colN b (4 + x).toNat s)) (nice_fld 4) (fun x =>
    Nice.bind (f := fun b _ s => colN b (4 + x).toNat s) (g := fun l (_ : List Int) (_ : Int) s => colC (l, s)) (nice_colN _) hc)
theorem nice_agn (a : List Int) : Nice (fun b _ s => agnS b a s) := Nice.ite (a.length = 0) (Nice.stop _ 5 (by omega)) (Nice.map (fun x : Int => a ++ List.replicate (3 + x).toNat (a[a.length - 1]?.getD 0)) (nice_fld 2))
theorem nice_nne (a : List Int) (k n : Nat) : Nice (fun b _ s => nneS b a k n s) := Nice.map (fun x : Int => a ++ List.replicate ((k : Int) + x).toNat 0) (nice_fld n)
theorem nice_lex (a : List Int) (x : Int) : Nice (fun b _ s => lexS b a x s) := Nice.ite _ (nice_agn a) (Nice.ite _ (nice_nne a 3 3) (Nice.ite _ (nice_nne a 11 7) (Nice.pure _)))
theorem nice_lenL (C : List Int) (N : Nat) : ∀ f a, Nice (fun b _ s => lenL C b N f a s)
  | 0, a => Nice.pure a
  | f + 1, a => Nice.iteS (fun s => a.length < N ∧ s.e = 0) (Nice.bind (f := fun b _ s => symS C b s) (g := fun x b _ s => lenL C b N f (lexS b a x s).1 (lexS b a x s).2) (nice_sym C) (fun x =>
      Nice.bind (f := fun b _ s => lexS b a x s) (g := fun l b _ s => lenL C b N f l s) (nice_lex a x) (fun l => nice_lenL C N f l))) (Nice.pure a)
theorem nice_len (C : List Int) (N : Nat) : Nice (fun b _ s => lenS C b N s) := by
  have hc : ∀ l : List Int, Nice (fun (_ : List Int) (_ : Int) s => lenC N (l, s)) := fun l => by
    have h : Nice (fun (_ : List Int) (_ : Int) s => if l.length ≤ N then (l, s) else (l, stopS 5 s)) := Nice.ite _ (Nice.pure _) (Nice.stop _ 5 (by omega))
    have e : (fun (_ : List Int) (_ : Int) s => lenC N (l, s)) = (fun (_ : List Int) (_ : Int) (s : PS) => if l.length ≤ N then (l, s) else (l, stopS 5 s)) := by
      funext b m s
      unfold lenC
      simp only
      split <;> rfl
    rw [e]
    exact h
  exact Nice.bind (f := fun b _ s => lenL C b N (N + 1) [] s) (g := fun l (_ : List Int) (_ : Int) s => lenC N (l, s)) (nice_lenL C N _ _) hc
theorem nice_two (l : Nat) (A : List Int) : Nice (fun (_ : List Int) (_ : Int) s => twoS l (A, s)) := by
  have h : Nice (fun (_ : List Int) (_ : Int) (s : PS) => if s.e = 0 then (if (lits (A.take l) && dsts (A.drop l)) = true then ((A.take l, A.drop l), s) else ((A.take l, A.drop l), stopS 5 s)) else (([], []), s)) :=
    Nice.iteS (fun s => s.e = 0) (Nice.ite _ (Nice.pure _) (Nice.stop _ 5 (by omega))) (Nice.pure _)
  have e : (fun (_ : List Int) (_ : Int) s => twoS l (A, s)) = (fun (_ : List Int) (_ : Int) (s : PS) => if s.e = 0 then (if (lits (A.take l) && dsts (A.drop l)) = true then ((A.take l, A.drop l), s) else ((A.take l, A.drop l), stopS 5 s)) else (([], []), s)) := by
    funext b m s
    unfold twoS
    simp only
    split
    · split <;> rfl
    · rfl
  rw [e]
  exact h
theorem nice_cos : Nice (fun b _ s => cosS b s) :=
  Nice.bind (f := fun b _ s => cntS b 257 286 s) (g := fun l b _ s => co2S b l (cntS b 1 30 s)) (nice_cnt _ _) (fun l =>
    Nice.bind (f := fun b _ s => cntS b 1 30 s) (g := fun d b _ s => co3S b l d (colS b s)) (nice_cnt _ _) (fun d =>
      Nice.bind (f := fun b _ s => colS b s) (g := fun C b _ s => twoS l.toNat (lenS C b (l + d).toNat s)) nice_col (fun C =>
        Nice.bind (f := fun b _ s => lenS C b (l + d).toNat s) (g := fun A (_ : List Int) (_ : Int) s => twoS l.toNat (A, s)) (nice_len _ _) (fun A => nice_two _ A))))
theorem nice_knd (F : Nat) (k : Int) : Nice (fun b m s => ((), knds F b m k s)) := by
  have h : Nice (fun b m s => if k = 0 then ((), stoS b m s) else if k = 1 then ((), cdS fixL fixD b m F s) else if k = 2 then ((), cdS (cosS b s).1.1 (cosS b s).1.2 b m F (cosS b s).2) else ((), stopS 5 s)) :=
    Nice.ite _ nice_sto (Nice.ite _ (nice_cd _ _ F) (Nice.ite _ (Nice.bind (f := fun b _ s => cosS b s) (g := fun (c : List Int × List Int) b m s => ((), cdS c.1 c.2 b m F s)) nice_cos (fun c => nice_cd _ _ F)) (Nice.stop () 5 (by omega))))
  have e : (fun (b : List Int) (m : Int) (s : PS) => ((), knds F b m k s)) = (fun b m s => if k = 0 then ((), stoS b m s) else if k = 1 then ((), cdS fixL fixD b m F s) else if k = 2 then ((), cdS (cosS b s).1.1 (cosS b s).1.2 b m F (cosS b s).2) else ((), stopS 5 s)) := by
    funext b m s
    unfold knds
    split
    · rfl
    · split
      · rfl
      · split <;> rfl
  rw [e]
  exact h
/-- A block: its kind, whether it is the last one. -/
def blkN (F : Nat) (b : List Int) (m : Int) (s : PS) : (Int × Int) × PS := (((hd1 b s).1, (hd2 b s).1), blkS F b m s)
theorem nice_blk (F : Nat) : Nice (blkN F) :=
  Nice.bind (f := fun b _ s => fldN b 1 s) (g := fun x b m s => ((x, (fldN b 2 s).1), knds F b m (fldN b 2 s).1 (fldN b 2 s).2)) (nice_fld 1) (fun x =>
    Nice.bind (f := fun b _ s => fldN b 2 s) (g := fun k b m s => ((x, k), knds F b m k s)) (nice_fld 2) (fun k => Nice.map (fun _ => (x, k)) (nice_knd F k)))

end Go.Proofs.YtnoabdafmgmenaaGreatDoor
