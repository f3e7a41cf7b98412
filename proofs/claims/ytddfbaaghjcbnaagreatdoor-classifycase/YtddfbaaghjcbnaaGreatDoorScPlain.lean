/-
  Statements cut into words, as plain functions on lists of bytes: what the program's functions return, said without a program. No program and no memory is named here.
-/
import Derived.Lib.TrimUEq
import Derived.Lib.MapLaws
import Derived.Lib.TrimAscii
import Derived.Lib.Index
import Derived.Lib.Bytealg
import Derived.Lib.Strings
namespace Go.Proofs.YtddfbaaghjcbnaaGreatDoor
set_option linter.unusedVariables false
set_option linter.unusedSimpArgs false

abbrev Bl := List UInt8
/-- A text's bytes. -/
def bl (s : ByteArray) : Bl := s.data.toList
/-- A text of bytes. -/
def ba (l : Bl) : ByteArray := ⟨l.toArray⟩
theorem bl_ba (l : Bl) : bl (ba l) = l := rfl
theorem ba_bl (s : ByteArray) : ba (bl s) = s := rfl
theorem bl_len (s : ByteArray) : (bl s).length = s.size := (Lib.size_eq s).symm
theorem ba_size (l : Bl) : (ba l).size = l.length := rfl
theorem ba_inj {a b : Bl} (h : ba a = ba b) : a = b := congrArg bl h

def isD (r : Int) : Bool := decide (48 ≤ r) && decide (r ≤ 57)
def isH (r : Int) : Bool := isD r || (decide (97 ≤ r) && decide (r ≤ 102)) || (decide (65 ≤ r) && decide (r ≤ 70))
def isL (r : Int) : Bool := (decide (97 ≤ r) && decide (r ≤ 122)) || (decide (65 ≤ r) && decide (r ≤ 90)) || decide (r = 95) || decide (r = 36) || decide (128 ≤ r)
def isN (r : Int) : Bool := isL r || isD r
def isS (r : Int) : Bool := isN r || decide (r = 46)
def isB (c : Int) : Bool := (decide (9 ≤ c) && decide (c ≤ 13)) || decide (c = 32)

/-- How many bytes the rune has with which l begins, if it belongs; 0, if it doesn't. -/
def hd (p : Int → Bool) (l : Bl) : Nat := if l = [] then 0 else if p (Lib.decodeL l).1 = true ∧ ¬ ((Lib.decodeL l).1 = 65533 ∧ (Lib.decodeL l).2 = 1) then (Lib.decodeL l).2 else 0
theorem hd_le (p : Int → Bool) (l : Bl) : hd p l ≤ l.length := by
  unfold hd
  by_cases h : l = []
  · simp [h]
  · rw [if_neg h]
    split
    · exact Lib.decodeL_le l h
    · exact Nat.zero_le _
def ahF (p : Int → Bool) : Nat → Bl → Nat
  | 0, _ => 0
  | n + 1, l => if hd p l = 0 then 0 else hd p l + ahF p n (l.drop (hd p l))
theorem ahF_more (p : Int → Bool) : ∀ (n m : Nat) (l : Bl), l.length ≤ n → l.length ≤ m → ahF p n l = ahF p m l
  | 0, m, l, h, k => by
    have : l = [] := List.eq_nil_of_length_eq_zero (by omega)
    subst this
    cases m with
    | zero => rfl
    | succ m => simp [ahF, hd]
  | n + 1, 0, l, h, k => by
    have : l = [] := List.eq_nil_of_length_eq_zero (by omega)
    subst this
    simp [ahF, hd]
  | n + 1, m + 1, l, h, k => by
    simp only [ahF]
    by_cases hz : hd p l = 0
    · simp [hz]
    · rw [if_neg hz, if_neg hz, ahF_more p n m _ (by simp; omega) (by simp; omega)]
/-- How many bytes the runes have with which l begins and that belong. -/
def ah (p : Int → Bool) (l : Bl) : Nat := ahF p l.length l
theorem ah_stop (p : Int → Bool) (l : Bl) (h : hd p l = 0) : ah p l = 0 := by
  unfold ah
  cases l with
  | nil => rfl
  | cons a r => simp [ahF, h]
theorem ah_step (p : Int → Bool) (l : Bl) (h : hd p l ≠ 0) : ah p l = hd p l + ah p (l.drop (hd p l)) := by
  have hl := hd_le p l
  unfold ah
  obtain ⟨n, hn⟩ : ∃ n, l.length = n + 1 := ⟨l.length - 1, by omega⟩
  rw [hn]
  simp only [ahF, if_neg h]
  rw [ahF_more p n (l.drop (hd p l)).length _ (by simp; omega) (Nat.le_refl _)]
theorem ahF_le (p : Int → Bool) : ∀ (n : Nat) (l : Bl), ahF p n l ≤ l.length
  | 0, l => Nat.zero_le _
  | n + 1, l => by
    simp only [ahF]
    split
    · exact Nat.zero_le _
    · have h1 := ahF_le p n (l.drop (hd p l))
      have h2 := hd_le p l
      simp at h1
      omega
theorem ah_le (p : Int → Bool) (l : Bl) : ah p l ≤ l.length := ahF_le p _ l

/-- A to Z as a to z. -/
def lwI (x : Int) : Int := if 65 ≤ x ∧ x ≤ 90 then x + 32 else x
def lwB (c : UInt8) : UInt8 := UInt8.ofNat (lwI c.toNat).toNat
def low (l : Bl) : Bl := l.map lwB

/-- What a text begins with: a word of a kind, what it says, how many bytes it has; or an error. -/
structure Fd where
  k : Int
  tx : ByteArray
  n : Nat
  e : Int
deriving DecidableEq
def nil0 : Fd := ⟨0, ba [], 0, 0⟩
def er (e : Int) : Fd := ⟨0, ba [], 0, e⟩
def its (k : Int) (l : Bl) : Fd := ⟨k, ba l, l.length, 0⟩

def pre (p l : Bl) : Bool := p.isPrefixOf l
/-- Does it begin with one of some bytes? -/
def has1 (l some : Bl) : Bool := match l with
  | [] => false
  | c :: _ => decide (0 ≤ Lib.indexByte some c)

def hexZ (l : Bl) : Nat := if pre [48, 120] l then (if ah isH (l.drop 2) = 0 then 0 else 2 + ah isH (l.drop 2)) else 0
def ptZ (l : Bl) : Nat :=
  if pre [46] (l.drop (ah isD l)) then (if ah isD l + ah isD ((l.drop (ah isD l)).drop 1) = 0 then 0 else ah isD l + 1 + ah isD ((l.drop (ah isD l)).drop 1)) else ah isD l
def exA (l : Bl) : Nat := if has1 (l.drop 1) [43, 45] then 2 else 1
def exZ (l : Bl) : Nat := if has1 l [101, 69] then (if ah isD (l.drop (exA l)) = 0 then 0 else exA l + ah isD (l.drop (exA l))) else 0
def deZ (l : Bl) : Nat := if ptZ l = 0 then 0 else ptZ l + exZ (l.drop (ptZ l))
def nuZ (l : Bl) : Nat := if hexZ l = 0 then deZ l else hexZ l
def numF (l : Bl) : Fd := if nuZ l = 0 then nil0 else its 4 (l.take (nuZ l))

/-- What a backslash and a byte say. -/
def esc (c : UInt8) : Bl :=
  if c = 48 then [0] else if c = 110 then [10] else if c = 116 then [9] else if c = 114 then [13] else if c = 98 then [8] else if c = 90 then [26]
  else if c = 37 ∨ c = 95 then [92, c] else [c]
/-- Bytes behind a quote: what they say, and how many they are, up to the quote that ends them. -/
def qt (es : Bool) (q : UInt8) : Bl → Bl → Nat → Option (Bl × Nat)
  | [], _, _ => none
  | [c], sa, i => if c = q then some (sa, i + 1) else none
  | c :: d :: r, sa, i =>
    if c = 92 ∧ es = true then qt es q r (sa ++ esc d) (i + 2)
    else if c = q then (if d = q then qt es q r (sa ++ [q]) (i + 2) else some (sa, i + 1))
    else qt es q (d :: r) (sa ++ [c]) (i + 1)
def quF (l : Bl) (k : Int) (es : Bool) : Fd := match l with
  | [] => er 190
  | q :: r => match qt es q r [] 1 with
    | none => er 190
    | some x => ⟨k, ba x.1, x.2, 0⟩

def opL (l : Bl) : Bool := match l with
  | c :: r => decide (c = 35) || (pre [45, 45] l && decide (2 < l.length) && isB ((l.getD 2 0).toNat : Int))
  | [] => false
def liZ (l : Bl) : Nat := if 0 ≤ Lib.indexByte l 10 then (Lib.indexByte l 10).toNat else l.length
def opO (l : Bl) : Bool := pre [47, 42, 33] l || pre [47, 42, 43] l
def reF (l : Bl) : Fd := if Lib.index (l.drop 2) [42, 47] < 0 then er 190 else ⟨0, ba [], 2 + (Lib.index (l.drop 2) [42, 47]).toNat + 2, 0⟩
def odF (l : Bl) : Fd := if opO l then (if (reF l).e ≠ 0 then reF l else its 9 (l.take (reF l).n)) else nil0
def gaF (l : Bl) : Fd :=
  if isB ((l.headD 0).toNat : Int) then ⟨0, ba [], 1, 0⟩
  else if opL l then ⟨0, ba [], liZ l, 0⟩
  else if pre [47, 42] l && !opO l then reF l
  else nil0

def naF (l : Bl) : Fd := if ah isN l = ah isD l then nil0 else ⟨1, ba (low (l.take (ah isN l))), ah isN l, 0⟩
def qnF (l : Bl) : Fd := if has1 l [96] then quF l 2 false else nil0
def qtF (l : Bl) : Fd := if has1 l [39, 34] then quF l 3 true else nil0
/-- The longest, the first of those that are as long, or the first error. -/
def lgF : Fd → List Fd → Fd
  | b, [] => b
  | b, f :: r => if f.e ≠ 0 then f else lgF (if b.n < f.n then f else b) r
def usB (b : Bl) : Fd := lgF nil0 [naF b, qnF b, qtF b]
def usF (l : Bl) : Fd := if pre [64] l then (if (usB (l.drop 1)).n = 0 then usB (l.drop 1) else ⟨6, ba (low (bl (usB (l.drop 1)).tx)), (usB (l.drop 1)).n + 1, 0⟩) else nil0
def syF (l : Bl) : Fd := if pre [64, 64] l then (if ah isS (l.drop 2) = 0 then nil0 else ⟨7, ba (low ((l.drop 2).take (ah isS (l.drop 2)))), ah isS (l.drop 2) + 2, 0⟩) else nil0
def paF (l : Bl) : Fd := if has1 l [63] then ⟨8, ba [], 1, 0⟩ else nil0
def sgs : List Bl := [[60, 61, 62], [60, 62], [33, 61], [60, 61], [62, 61], [58, 61], [60, 60], [62, 62], [38, 38], [124, 124], [45, 62], [45, 62, 62],
  [40], [41], [44], [59], [46], [43], [45], [42], [47], [37], [61], [60], [62], [38], [124], [94], [126], [33], [123], [125], [91], [93], [58]]
def sgB (l : Bl) : Bool := decide (l ∈ sgs)
def sgZ (l : Bl) : Nat → Nat
  | 0 => 0
  | n + 1 => if sgB (l.take (n + 1)) then n + 1 else sgZ l n
def sgF (l : Bl) : Fd := if sgZ l (min 3 l.length) = 0 then nil0 else its 5 (l.take (sgZ l (min 3 l.length)))
def chF (l : Bl) : Fd := lgF nil0 [odF l, numF l, naF l, qnF l, qtF l, usF l, syF l, paF l, sgF l]
def nxF (l : Bl) : Fd := if 0 < (gaF l).n ∨ (gaF l).e ≠ 0 then gaF l else if (chF l).n = 0 ∧ (chF l).e = 0 then er 191 else chF l

/-- A word, at a place. -/
structure Wd where
  k : Int
  tx : ByteArray
  at' : Int
deriving DecidableEq
def wd0 : Wd := ⟨0, ba [], 0⟩
/-- A fault. -/
structure Ft where
  e : Int
  at' : Int
deriving DecidableEq

def alF : Nat → Bl → Nat → List Wd → List Wd × Ft
  | 0, _, _, ws => (ws, ⟨0, 0⟩)
  | n + 1, l, i, ws =>
    if l = [] then (ws, ⟨0, 0⟩)
    else if (nxF l).e ≠ 0 then ([], ⟨(nxF l).e, i⟩)
    else alF n (l.drop (nxF l).n) (i + (nxF l).n) (if (nxF l).k = 0 then ws else ws ++ [⟨(nxF l).k, (nxF l).tx, i⟩])
def alW (l : Bl) : List Wd × Ft := if 1048576 < l.length then ([], ⟨3, -1⟩) else alF l.length l 0 []

/-- The pieces between the signs ;. -/
def spF (s : Bl) : List Wd → Nat → Nat → List ByteArray → List ByteArray
  | [], f, n, ps => if 0 < n then ps ++ [ba ((s.drop f).take (s.length - f))] else ps
  | x :: r, f, n, ps =>
    if x.k = 5 ∧ x.tx = ba [59] then spF s r (x.at'.toNat + 1) 0 (if 0 < n then ps ++ [ba ((s.drop f).take (x.at'.toNat - f))] else ps)
    else spF s r f (n + 1) ps
def spW (s : Bl) : List ByteArray × Ft := if (alW s).2 = ⟨0, 0⟩ then (spF s (alW s).1 0 0 [], ⟨0, 0⟩) else ([], (alW s).2)

theorem hexZ_le (l : Bl) : hexZ l ≤ l.length := by
  unfold hexZ
  by_cases hp : pre [48, 120] l = true
  · rw [if_pos hp]
    split
    · exact Nat.zero_le _
    · rename_i hz
      have := ah_le isH (l.drop 2)
      rw [List.length_drop] at this
      omega
  · rw [if_neg hp]; exact Nat.zero_le _
theorem pre_len {p l : Bl} (h : pre p l = true) : p.length ≤ l.length := (List.isPrefixOf_iff_prefix.1 h).length_le
theorem ptZ_le (l : Bl) : ptZ l ≤ l.length := by
  have h1 := ah_le isD l
  unfold ptZ
  by_cases hp : pre [46] (l.drop (ah isD l)) = true
  · rw [if_pos hp]
    split
    · exact Nat.zero_le _
    · have h2 := pre_len hp
      have h3 := ah_le isD ((l.drop (ah isD l)).drop 1)
      simp only [List.length_drop, List.length_cons, List.length_nil] at h2 h3
      omega
  · rw [if_neg hp]; exact h1
theorem exZ_le (l : Bl) : exZ l ≤ l.length := by
  unfold exZ
  split
  · split
    · exact Nat.zero_le _
    · have h3 := ah_le isD (l.drop (exA l))
      rw [List.length_drop] at h3
      omega
  · exact Nat.zero_le _
theorem deZ_le (l : Bl) : deZ l ≤ l.length := by
  have h1 := ptZ_le l
  unfold deZ
  split
  · exact Nat.zero_le _
  · have := exZ_le (l.drop (ptZ l))
    rw [List.length_drop] at this
    omega

end Go.Proofs.YtddfbaaghjcbnaaGreatDoor
