/-
  Replies as plain things: a reader of fields that stops at its first error, as a state; what reading each reply answers, field by field; the bytes of each. No program and no memory is named here.
-/
import Derived.Test.YtnodhdggafffaaaDoorLeWrites2
namespace Go.Proofs.YtnodhdggafffaaaDoor
open Go.RowKit
set_option linter.unusedVariables false
set_option linter.unusedSimpArgs false

/-- What is left to read; the first error. -/
structure FS where
  b : List Int
  e : Int

/-- want. -/
def waS (s : FS) (ok : Bool) : FS := if s.e = 0 ∧ ok = false then { s with e := 5 } else s
/-- need. -/
def neS (s : FS) (n : Nat) : FS := if s.e = 0 ∧ s.b.length < n then { s with e := 4 } else s
/-- pass. -/
def paS (s : FS) (n : Nat) (e : Int) : FS := if e = 0 then { s with b := s.b.drop n } else { s with e := e }
/-- take: the bytes, the state behind. -/
def tkA (s : FS) (n : Nat) : List Int := if s.e = 0 ∧ n ≤ s.b.length then s.b.take n else []
def tkS (s : FS) (n : Nat) : FS := if s.e = 0 then (if s.b.length < n then { s with e := 4 } else { s with b := s.b.drop n }) else s
/-- fixed. -/
def fxA (s : FS) (n : Nat) : Int := if s.e = 0 then (readFixed s.b n).1 else 0
def fxS (s : FS) (n : Nat) : FS := if s.e = 0 then paS s n (readFixed s.b n).2 else s
/-- number. -/
def nuA (s : FS) : Int := if s.e = 0 then (readInt s.b).1 else 0
def nuS (s : FS) : FS := if s.e = 0 then paS s (readInt s.b).2.1.toNat (readInt s.b).2.2 else s
/-- text. -/
def txA (s : FS) : ByteArray := if s.e = 0 then (readText s.b).1 else ⟨#[]⟩
def txS (s : FS) : FS := if s.e = 0 then paS s (readText s.b).2.1.toNat (readText s.b).2.2 else s
/-- mark. -/
def maS (s : FS) (x : Int) : FS := waS (fxS s 1) (fxA s 1 == x)
/-- rest. -/
def reA (s : FS) : List Int := if s.e = 0 then s.b else []
def reS (s : FS) : FS := if s.e = 0 then { s with b := [] } else s
/-- end. -/
def edS (s : FS) : FS := waS s (decide (s.b.length = 0))

theorem readFixed_bd {b : List Int} {k : Int} {x er : Int} (h : readFixed b k = (x, er)) (hk : 1 ≤ k ∧ k ≤ 8) (he : er = 0) : k ≤ b.length := by
  unfold readFixed at h
  rw [if_neg (by omega)] at h
  split at h
  · simp at h
    omega
  · omega
theorem readText_bd {b : List Int} (hb : Byt b) : 0 ≤ (readText b).2.1 ∧ (readText b).2.1 ≤ b.length := by
  obtain ⟨x, q, er, hr⟩ : ∃ x q er, readInt b = (x, q, er) := ⟨_, _, _, rfl⟩
  by_cases he : er = 0
  · subst he
    have h := readInt_shortest hb hr
    by_cases hs : (b.length : Int) - q < x
    · rw [readText_short hr hs]; simp
    · rw [readText_long hr hs]; simp only; omega
  · rw [readText_err hr he]; simp
theorem readInt_bd {b : List Int} (hb : Byt b) : 0 ≤ (readInt b).2.1 ∧ (readInt b).2.1 ≤ b.length ∧ 0 ≤ (readInt b).1 ∧ (readInt b).1 < 18446744073709551616 := by
  obtain ⟨x, q, er, hr⟩ : ∃ x q er, readInt b = (x, q, er) := ⟨_, _, _, rfl⟩
  by_cases he : er = 0
  · subst he
    have h := readInt_shortest hb hr
    rw [hr]
    simp only
    omega
  · have h := readInt_err hr he
    rw [hr]
    simp only
    omega
theorem readFixed_val {b : List Int} (hb : Byt b) {k : Nat} (h1 : 1 ≤ k) (h8 : k ≤ 8) : 0 ≤ (readFixed b k).1 ∧ (readFixed b k).1 < 2 ^ (8 * k) := by
  unfold readFixed
  rw [if_neg (by omega)]
  split
  · simp only
    exact ⟨Int.le_refl _, Int.pow_pos (by omega)⟩
  · simp only [Int.toNat_natCast]
    exact val_bounds hb k
theorem fxA_bd {s : FS} (hb : Byt s.b) {k : Nat} (h1 : 1 ≤ k) (h8 : k ≤ 8) : 0 ≤ fxA s k ∧ fxA s k < 2 ^ (8 * k) := by
  unfold fxA
  split
  · exact readFixed_val hb h1 h8
  · exact ⟨Int.le_refl _, Int.pow_pos (by omega)⟩
theorem nuA_bd {s : FS} (hb : Byt s.b) : 0 ≤ nuA s ∧ nuA s < 18446744073709551616 := by
  unfold nuA
  split
  · exact (readInt_bd hb).2.2
  · omega
theorem waS_b (s : FS) (x : Bool) : (waS s x).b = s.b := by unfold waS; split <;> rfl
theorem neS_b (s : FS) (n : Nat) : (neS s n).b = s.b := by unfold neS; split <;> rfl
theorem paS_le (s : FS) (n : Nat) (e : Int) : (paS s n e).b.length ≤ s.b.length := by unfold paS; split <;> simp
theorem waS_le (s : FS) (x : Bool) : (waS s x).b.length ≤ s.b.length := by rw [waS_b]; exact Nat.le_refl _
theorem neS_le (s : FS) (n : Nat) : (neS s n).b.length ≤ s.b.length := by rw [neS_b]; exact Nat.le_refl _
theorem tkS_le (s : FS) (n : Nat) : (tkS s n).b.length ≤ s.b.length := by
  unfold tkS
  split
  · split
    · exact Nat.le_refl _
    · simp
  · exact Nat.le_refl _
theorem fxS_le (s : FS) (n : Nat) : (fxS s n).b.length ≤ s.b.length := by unfold fxS; split; exact paS_le _ _ _; exact Nat.le_refl _
theorem nuS_le (s : FS) : (nuS s).b.length ≤ s.b.length := by unfold nuS; split; exact paS_le _ _ _; exact Nat.le_refl _
theorem txS_le (s : FS) : (txS s).b.length ≤ s.b.length := by unfold txS; split; exact paS_le _ _ _; exact Nat.le_refl _
theorem reS_le (s : FS) : (reS s).b.length ≤ s.b.length := by unfold reS; split; simp; exact Nat.le_refl _
theorem tkA_len (s : FS) (n : Nat) : (tkA s n).length ≤ n := by
  unfold tkA
  split
  · simp; omega
  · simp
theorem tkS_ne (s : FS) (n : Nat) : tkS s n = if (neS s n).e = 0 then paS (neS s n) n 0 else neS s n := by
  unfold tkS neS paS
  by_cases he : s.e = 0
  · by_cases hl : s.b.length < n
    · simp [he, hl]
    · simp [he, hl]
  · simp [he]
theorem tkA_ne (s : FS) (n : Nat) : tkA s n = if (neS s n).e = 0 then s.b.take n else [] := by
  unfold tkA neS
  by_cases he : s.e = 0
  · by_cases hl : s.b.length < n
    · have : ¬ n ≤ s.b.length := by omega
      simp [he, hl, this]
    · have : n ≤ s.b.length := by omega
      simp [he, hl, this]
  · simp [he]

/-- Is a capability there? -/
def has (c x : Int) : Bool := bits .and .u32 c x != 0
/-- Is there a place for what changed? -/
def trk (c t : Int) : Bool := has c 8388608 && (bits .and .u16 t 16384 != 0)

/-- An OK. -/
structure Ok where
  af : Int
  ins : Int
  st : Int
  wa : Int
  info : ByteArray
  tr : List Int
/-- An ERR. -/
structure Er where
  co : Int
  st : ByteArray
  tx : ByteArray
/-- An EOF. -/
structure Eo where
  wa : Int
  st : Int
/-- What was prepared. -/
structure Pr where
  id : Int
  co : Int
  pa : Int
  wa : Int
/-- Numbers are within their kinds. -/
structure OkK (p : Ok) : Prop where
  af : 0 ≤ p.af ∧ p.af < 18446744073709551616
  ins : 0 ≤ p.ins ∧ p.ins < 18446744073709551616
  st : 0 ≤ p.st ∧ p.st < 65536
  wa : 0 ≤ p.wa ∧ p.wa < 65536
structure EoK (p : Eo) : Prop where
  wa : 0 ≤ p.wa ∧ p.wa < 65536
  st : 0 ≤ p.st ∧ p.st < 65536
structure PrK (p : Pr) : Prop where
  id : 0 ≤ p.id ∧ p.id < 4294967296
  co : 0 ≤ p.co ∧ p.co < 65536
  pa : 0 ≤ p.pa ∧ p.pa < 65536
  wa : 0 ≤ p.wa ∧ p.wa < 65536

/-- Behind an OK's numbers: the text, what changed, the state. -/
def tlA (s : FS) (c t : Int) : ByteArray := if has c 8388608 = false then strOfNums (reA s) else if trk c t = true then txA s else if 0 < s.b.length then txA s else ⟨#[]⟩
def tlT (s : FS) (c t : Int) : List Int := if has c 8388608 = false then [] else if trk c t = true then nums (txA (txS s)) else []
def tlS (s : FS) (c t : Int) : FS := if has c 8388608 = false then reS s else if trk c t = true then txS (txS s) else if 0 < s.b.length then txS s else s
/-- An OK is read. -/
def okQ (b : List Int) (c : Int) : Ok × FS :=
  let s1 := fxS ⟨b, 0⟩ 1
  let v1 := fxA ⟨b, 0⟩ 1
  let s2 := waS s1 (v1 == 0 || v1 == 254)
  let s3 := nuS s2
  let s4 := nuS s3
  let s5 := fxS s4 2
  let s6 := fxS s5 2
  (⟨nuA s2, nuA s3, fxA s4 2, fxA s5 2, tlA s6 c (fxA s4 2), tlT s6 c (fxA s4 2)⟩, edS (tlS s6 c (fxA s4 2)))
def okR (b : List Int) (c : Int) : Ok × Int := if (okQ b c).2.e = 0 then ((okQ b c).1, 0) else (⟨0, 0, 0, 0, ⟨#[]⟩, []⟩, (okQ b c).2.e)
/-- An ERR is read. -/
def erQ (b : List Int) : Er × FS :=
  let s1 := maS ⟨b, 0⟩ 255
  let s2 := fxS s1 2
  let s3 := maS s2 35
  let s4 := tkS s3 5
  (⟨fxA s1 2, strOfNums (tkA s3 5), strOfNums (reA s4)⟩, edS (reS s4))
def erR (b : List Int) : Er × Int := if (erQ b).2.e = 0 then ((erQ b).1, 0) else (⟨0, ⟨#[]⟩, ⟨#[]⟩⟩, (erQ b).2.e)
/-- An EOF is read. -/
def eoQ (b : List Int) : Eo × FS :=
  let s1 := maS ⟨b, 0⟩ 254
  let s2 := fxS s1 2
  (⟨fxA s1 2, fxA s2 2⟩, edS (fxS s2 2))
def eoR (b : List Int) : Eo × Int := if (eoQ b).2.e = 0 then ((eoQ b).1, 0) else (⟨0, 0⟩, (eoQ b).2.e)
/-- What was prepared is read. -/
def prQ (b : List Int) : Pr × FS :=
  let s1 := maS ⟨b, 0⟩ 0
  let s2 := fxS s1 4
  let s3 := fxS s2 2
  let s4 := fxS s3 2
  let s5 := maS s4 0
  (⟨fxA s1 4, fxA s2 2, fxA s3 2, fxA s5 2⟩, edS (fxS s5 2))
def prR (b : List Int) : Pr × Int := if (prQ b).2.e = 0 then ((prQ b).1, 0) else (⟨0, 0, 0, 0⟩, (prQ b).2.e)
/-- A file's name is read. -/
def fiQ (b : List Int) : ByteArray × FS :=
  let s1 := maS ⟨b, 0⟩ 251
  let s2 := neS s1 1
  (strOfNums (reA s2), edS (reS s2))
def fiR (b : List Int) : ByteArray × Int := if (fiQ b).2.e = 0 then ((fiQ b).1, 0) else (⟨#[]⟩, (fiQ b).2.e)

/-- What packets are: First, Last. -/
def fiX (x c : Int) : Int := if x = 0 then 1 else if x = 255 then 2 else if x = 251 ∧ has c 128 = true then 4 else 0
def fiK (b : List Int) (c : Int) : Int := match b with
  | [] => 0
  | x :: _ => fiX x c
def laX (x c : Int) (n : Nat) : Int := if x = 255 then 2 else if x = 254 then (if has c 16777216 = true then (if n < 16777215 then 1 else 0) else if n = 5 then 3 else 0) else 0
def laK (b : List Int) (c : Int) : Int := match b with
  | [] => 0
  | x :: r => laX x c (r.length + 1)

/-- The bytes of an OK. -/
def txB (s : ByteArray) : List Int := form s.size ++ nums s
def okT (c : Int) (p : Ok) : List Int := if has c 8388608 = false then nums p.info else if trk c p.st = true then txB p.info ++ (form p.tr.length ++ p.tr) else txB p.info
def okB (c : Int) (last : Bool) (p : Ok) : List Int := [if last then 254 else 0] ++ (form p.af ++ (form p.ins ++ (le p.st 2 ++ (le p.wa 2 ++ okT c p))))
def oOk (c : Int) (p : Ok) : Bool := p.tr.isEmpty || trk c p.st
def erB (p : Er) : List Int := [255] ++ (le p.co 2 ++ ([35] ++ (nums p.st ++ nums p.tx)))
def eOk (p : Er) : Bool := p.st.size == 5
def eoB (p : Eo) : List Int := [254] ++ (le p.wa 2 ++ le p.st 2)
def prB (p : Pr) : List Int := [0] ++ (le p.id 4 ++ (le p.co 2 ++ (le p.pa 2 ++ ([0] ++ le p.wa 2))))
def fiB (s : ByteArray) : List Int := [251] ++ nums s
def fOk (s : ByteArray) : Bool := s.size != 0

theorem txB_len (s : ByteArray) : (txB s).length ≤ s.size + 9 := by
  have := form_length_le (s.size : Int)
  simp [txB, nums_length]
  omega

end Go.Proofs.YtnodhdggafffaaaDoor
