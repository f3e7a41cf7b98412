/-
  Replies as plain things: a reader of fields that stops at its first error, as a state; what reading each reply answers, field by field; the bytes of each. No program and no memory is named here.
  Replies that are written are read back as they were, and are known by their first byte: plain facts. No memory is named here. Conditions: numbers within their kinds; lengths below 2 to the 40.
  Columns as plain things: what types are called; what reading a column answers, field by field; its bytes; a count's. No program and no memory is named here.
  Values as plain things: the kind of a type, how many bytes its numbers have, which values may be of it, their bytes, their texts, and how both are read. No program and no memory is named here.
-/
import Derived.Test.YtfgghgoonfamkaaMLe
import Derived.Lib.ItoaNum
import Derived.Lib.AtoiAll
import Derived.Lib.ParseIntB
import Derived.Lib.Bytealg
import Derived.Lib.Strings
namespace Go.Proofs.Ytfgghgoonfamkaa
open Go.RowKit
set_option linter.unusedVariables false
set_option linter.unusedSimpArgs false

/-- What is left to read; the first error. -/
structure FS where
  b : List Int
  e : Int

/-- want. -/
def waS (s : FS) (ok : Bool) : FS := if s.e = 0 ∧ ok = false then { s with e := 5 } else s
/-- need. -/
def neS (s : FS) (n : Nat) : FS := if s.e = 0 ∧ s.b.length < n then { s with e := 4 } else s
/-- pass. -/
def paS (s : FS) (n : Nat) (e : Int) : FS := if e = 0 then { s with b := s.b.drop n } else { s with e := e }
/-- take: the bytes, the state behind. -/
def tkA (s : FS) (n : Nat) : List Int := if s.e = 0 ∧ n ≤ s.b.length then s.b.take n else []
def tkS (s : FS) (n : Nat) : FS := if s.e = 0 then (if s.b.length < n then { s with e := 4 } else { s with b := s.b.drop n }) else s
/-- fixed. -/
def fxA (s : FS) (n : Nat) : Int := if s.e = 0 then (readFixed s.b n).1 else 0
def fxS (s : FS) (n : Nat) : FS := if s.e = 0 then paS s n (readFixed s.b n).2 else s
/-- number. -/
def nuA (s : FS) : Int := if s.e = 0 then (readInt s.b).1 else 0
def nuS (s : FS) : FS := if s.e = 0 then paS s (readInt s.b).2.1.toNat (readInt s.b).2.2 else s
/-- text. -/
def txA (s : FS) : ByteArray := if s.e = 0 then (readText s.b).1 else ⟨#[]⟩
def txS (s : FS) : FS := if s.e = 0 then paS s (readText s.b).2.1.toNat (readText s.b).2.2 else s
/-- mark. -/
def maS (s : FS) (x : Int) : FS := waS (fxS s 1) (fxA s 1 == x)
/-- rest. -/
def reA (s : FS) : List Int := if s.e = 0 then s.b else []
def reS (s : FS) : FS := if s.e = 0 then { s with b := [] } else s
/-- end. -/
def edS (s : FS) : FS := waS s (decide (s.b.length = 0))

theorem readFixed_bd {b : List Int} {k : Int} {x er : Int} (h : readFixed b k = (x, er)) (hk : 1 ≤ k ∧ k ≤ 8) (he : er = 0) : k ≤ b.length := by
  unfold readFixed at h
  rw [if_neg (by omega)] at h
  split at h
  · simp at h
    omega
  · omega
theorem readText_bd {b : List Int} (hb : Byt b) : 0 ≤ (readText b).2.1 ∧ (readText b).2.1 ≤ b.length := by
  obtain ⟨x, q, er, hr⟩ : ∃ x q er, readInt b = (x, q, er) := ⟨_, _, _, rfl⟩
  by_cases he : er = 0
  · subst he
    have h := readInt_shortest hb hr
    by_cases hs : (b.length : Int) - q < x
    · rw [readText_short hr hs]; simp
    · rw [readText_long hr hs]; simp only; omega
  · rw [readText_err hr he]; simp
theorem readInt_bd {b : List Int} (hb : Byt b) : 0 ≤ (readInt b).2.1 ∧ (readInt b).2.1 ≤ b.length ∧ 0 ≤ (readInt b).1 ∧ (readInt b).1 < 18446744073709551616 := by
  obtain ⟨x, q, er, hr⟩ : ∃ x q er, readInt b = (x, q, er) := ⟨_, _, _, rfl⟩
  by_cases he : er = 0
  · subst he
    have h := readInt_shortest hb hr
    rw [hr]
    simp only
    omega
  · have h := readInt_err hr he
    rw [hr]
    simp only
    omega
theorem readFixed_val {b : List Int} (hb : Byt b) {k : Nat} (h1 : 1 ≤ k) (h8 : k ≤ 8) : 0 ≤ (readFixed b k).1 ∧ (readFixed b k).1 < 2 ^ (8 * k) := by
  unfold readFixed
  rw [if_neg (by omega)]
  split
  · simp only
    exact ⟨Int.le_refl _, Int.pow_pos (by omega)⟩
  · simp only [Int.toNat_natCast]
    exact val_bounds hb k
theorem fxA_bd {s : FS} (hb : Byt s.b) {k : Nat} (h1 : 1 ≤ k) (h8 : k ≤ 8) : 0 ≤ fxA s k ∧ fxA s k < 2 ^ (8 * k) := by
  unfold fxA
  split
  · exact readFixed_val hb h1 h8
  · exact ⟨Int.le_refl _, Int.pow_pos (by omega)⟩
theorem nuA_bd {s : FS} (hb : Byt s.b) : 0 ≤ nuA s ∧ nuA s < 18446744073709551616 := by
  unfold nuA
  split
  · exact (readInt_bd hb).2.2
  · omega
theorem waS_b (s : FS) (x : Bool) : (waS s x).b = s.b := by unfold waS; split <;> rfl
theorem neS_b (s : FS) (n : Nat) : (neS s n).b = s.b := by unfold neS; split <;> rfl
theorem paS_le (s : FS) (n : Nat) (e : Int) : (paS s n e).b.length ≤ s.b.length := by unfold paS; split <;> simp
theorem waS_le (s : FS) (x : Bool) : (waS s x).b.length ≤ s.b.length := by rw [waS_b]; exact Nat.le_refl _
theorem neS_le (s : FS) (n : Nat) : (neS s n).b.length ≤ s.b.length := by rw [neS_b]; exact Nat.le_refl _
theorem tkS_le (s : FS) (n : Nat) : (tkS s n).b.length ≤ s.b.length := by
  unfold tkS
  split
  · split
    · exact Nat.le_refl _
    · simp
  · exact Nat.le_refl _
theorem fxS_le (s : FS) (n : Nat) : (fxS s n).b.length ≤ s.b.length := by unfold fxS; split; exact paS_le _ _ _; exact Nat.le_refl _
theorem nuS_le (s : FS) : (nuS s).b.length ≤ s.b.length := by unfold nuS; split; exact paS_le _ _ _; exact Nat.le_refl _
theorem txS_le (s : FS) : (txS s).b.length ≤ s.b.length := by unfold txS; split; exact paS_le _ _ _; exact Nat.le_refl _
theorem reS_le (s : FS) : (reS s).b.length ≤ s.b.length := by unfold reS; split; simp; exact Nat.le_refl _
theorem tkA_len (s : FS) (n : Nat) : (tkA s n).length ≤ n := by
  unfold tkA
  split
  · simp; omega
  · simp
theorem tkS_ne (s : FS) (n : Nat) : tkS s n = if (neS s n).e = 0 then paS (neS s n) n 0 else neS s n := by
  unfold tkS neS paS
  by_cases he : s.e = 0
  · by_cases hl : s.b.length < n
    · simp [he, hl]
    · simp [he, hl]
  · simp [he]
theorem tkA_ne (s : FS) (n : Nat) : tkA s n = if (neS s n).e = 0 then s.b.take n else [] := by
  unfold tkA neS
  by_cases he : s.e = 0
  · by_cases hl : s.b.length < n
    · have : ¬ n ≤ s.b.length := by omega
      simp [he, hl, this]
    · have : n ≤ s.b.length := by omega
      simp [he, hl, this]
  · simp [he]

/-- Is a capability there? -/
def has (c x : Int) : Bool := bits .and .u32 c x != 0
/-- Is there a place for what changed? -/
def trk (c t : Int) : Bool := has c 8388608 && (bits .and .u16 t 16384 != 0)

/-- An OK. -/
structure Ok where
  af : Int
  ins : Int
  st : Int
  wa : Int
  info : ByteArray
  tr : List Int
/-- An ERR. -/
structure Er where
  co : Int
  st : ByteArray
  tx : ByteArray
/-- An EOF. -/
structure Eo where
  wa : Int
  st : Int
/-- What was prepared. -/
structure Pr where
  id : Int
  co : Int
  pa : Int
  wa : Int
/-- Numbers are within their kinds. -/
structure OkK (p : Ok) : Prop where
  af : 0 ≤ p.af ∧ p.af < 18446744073709551616
  ins : 0 ≤ p.ins ∧ p.ins < 18446744073709551616
  st : 0 ≤ p.st ∧ p.st < 65536
  wa : 0 ≤ p.wa ∧ p.wa < 65536
structure EoK (p : Eo) : Prop where
  wa : 0 ≤ p.wa ∧ p.wa < 65536
  st : 0 ≤ p.st ∧ p.st < 65536
structure PrK (p : Pr) : Prop where
  id : 0 ≤ p.id ∧ p.id < 4294967296
  co : 0 ≤ p.co ∧ p.co < 65536
  pa : 0 ≤ p.pa ∧ p.pa < 65536
  wa : 0 ≤ p.wa ∧ p.wa < 65536

/-- Behind an OK's numbers: the text, what changed, the state. -/
def tlA (s : FS) (c t : Int) : ByteArray := if has c 8388608 = false then strOfNums (reA s) else if trk c t = true then txA s else if 0 < s.b.length then txA s else ⟨#[]⟩
def tlT (s : FS) (c t : Int) : List Int := if has c 8388608 = false then [] else if trk c t = true then nums (txA (txS s)) else []
def tlS (s : FS) (c t : Int) : FS := if has c 8388608 = false then reS s else if trk c t = true then txS (txS s) else if 0 < s.b.length then txS s else s
/-- An OK is read. -/
def okQ (b : List Int) (c : Int) : Ok × FS :=
  let s1 := fxS ⟨b, 0⟩ 1
  let v1 := fxA ⟨b, 0⟩ 1
  let s2 := waS s1 (v1 == 0 || v1 == 254)
  let s3 := nuS s2
  let s4 := nuS s3
  let s5 := fxS s4 2
  let s6 := fxS s5 2
  (⟨nuA s2, nuA s3, fxA s4 2, fxA s5 2, tlA s6 c (fxA s4 2), tlT s6 c (fxA s4 2)⟩, edS (tlS s6 c (fxA s4 2)))
def okR (b : List Int) (c : Int) : Ok × Int := if (okQ b c).2.e = 0 then ((okQ b c).1, 0) else (⟨0, 0, 0, 0, ⟨#[]⟩, []⟩, (okQ b c).2.e)
/-- An ERR is read. -/
def erQ (b : List Int) : Er × FS :=
  let s1 := maS ⟨b, 0⟩ 255
  let s2 := fxS s1 2
  let s3 := maS s2 35
  let s4 := tkS s3 5
  (⟨fxA s1 2, strOfNums (tkA s3 5), strOfNums (reA s4)⟩, edS (reS s4))
def erR (b : List Int) : Er × Int := if (erQ b).2.e = 0 then ((erQ b).1, 0) else (⟨0, ⟨#[]⟩, ⟨#[]⟩⟩, (erQ b).2.e)
/-- An EOF is read. -/
def eoQ (b : List Int) : Eo × FS :=
  let s1 := maS ⟨b, 0⟩ 254
  let s2 := fxS s1 2
  (⟨fxA s1 2, fxA s2 2⟩, edS (fxS s2 2))
def eoR (b : List Int) : Eo × Int := if (eoQ b).2.e = 0 then ((eoQ b).1, 0) else (⟨0, 0⟩, (eoQ b).2.e)
/-- What was prepared is read. -/
def prQ (b : List Int) : Pr × FS :=
  let s1 := maS ⟨b, 0⟩ 0
  let s2 := fxS s1 4
  let s3 := fxS s2 2
  let s4 := fxS s3 2
  let s5 := maS s4 0
  (⟨fxA s1 4, fxA s2 2, fxA s3 2, fxA s5 2⟩, edS (fxS s5 2))
def prR (b : List Int) : Pr × Int := if (prQ b).2.e = 0 then ((prQ b).1, 0) else (⟨0, 0, 0, 0⟩, (prQ b).2.e)
/-- A file's name is read. -/
def fiQ (b : List Int) : ByteArray × FS :=
  let s1 := maS ⟨b, 0⟩ 251
  let s2 := neS s1 1
  (strOfNums (reA s2), edS (reS s2))
def fiR (b : List Int) : ByteArray × Int := if (fiQ b).2.e = 0 then ((fiQ b).1, 0) else (⟨#[]⟩, (fiQ b).2.e)

/-- What packets are: First, Last. -/
def fiX (x c : Int) : Int := if x = 0 then 1 else if x = 255 then 2 else if x = 251 ∧ has c 128 = true then 4 else 0
def fiK (b : List Int) (c : Int) : Int := match b with
  | [] => 0
  | x :: _ => fiX x c
def laX (x c : Int) (n : Nat) : Int := if x = 255 then 2 else if x = 254 then (if has c 16777216 = true then (if n < 16777215 then 1 else 0) else if n = 5 then 3 else 0) else 0
def laK (b : List Int) (c : Int) : Int := match b with
  | [] => 0
  | x :: r => laX x c (r.length + 1)

/-- The bytes of an OK. -/
def txB (s : ByteArray) : List Int := form s.size ++ nums s
def okT (c : Int) (p : Ok) : List Int := if has c 8388608 = false then nums p.info else if trk c p.st = true then txB p.info ++ (form p.tr.length ++ p.tr) else txB p.info
def okB (c : Int) (last : Bool) (p : Ok) : List Int := [if last then 254 else 0] ++ (form p.af ++ (form p.ins ++ (le p.st 2 ++ (le p.wa 2 ++ okT c p))))
def oOk (c : Int) (p : Ok) : Bool := p.tr.isEmpty || trk c p.st
def erB (p : Er) : List Int := [255] ++ (le p.co 2 ++ ([35] ++ (nums p.st ++ nums p.tx)))
def eOk (p : Er) : Bool := p.st.size == 5
def eoB (p : Eo) : List Int := [254] ++ (le p.wa 2 ++ le p.st 2)
def prB (p : Pr) : List Int := [0] ++ (le p.id 4 ++ (le p.co 2 ++ (le p.pa 2 ++ ([0] ++ le p.wa 2))))
def fiB (s : ByteArray) : List Int := [251] ++ nums s
def fOk (s : ByteArray) : Bool := s.size != 0

theorem txB_len (s : ByteArray) : (txB s).length ≤ s.size + 9 := by
  have := form_length_le (s.size : Int)
  simp [txB, nums_length]
  omega

end Go.Proofs.Ytfgghgoonfamkaa

namespace Go.Proofs.Ytfgghgoonfamkaa
open Go.RowKit
set_option linter.unusedVariables false
set_option linter.unusedSimpArgs false

theorem waS_true (s : FS) : waS s true = s := by unfold waS; rw [if_neg (by simp)]
theorem fx_rd {x : Int} {n : Nat} (h1 : 1 ≤ n) (h8 : n ≤ 8) (h0 : 0 ≤ x) (hx : x < 2 ^ (8 * n)) (r : List Int) : fxS ⟨le x n ++ r, 0⟩ n = ⟨r, 0⟩ ∧ fxA ⟨le x n ++ r, 0⟩ n = x := by
  have e : readFixed (le x n ++ r) n = (x, 0) := by
    unfold readFixed
    rw [if_neg (by omega), if_neg (by simp [le_length]; omega), Int.toNat_natCast, val_le_fits x h0 r n hx]
  constructor
  · unfold fxS
    rw [if_pos rfl, e]
    show (⟨(le x n ++ r).drop n, 0⟩ : FS) = _
    rw [List.drop_append_of_le_length (by simp [le_length]), List.drop_of_length_le (by simp [le_length]), List.nil_append]
  · unfold fxA
    rw [if_pos rfl, e]
theorem le_one {x : Int} (h0 : 0 ≤ x) (h1 : x ≤ 255) : le x 1 = [x] := by
  show [] ++ [x / 2 ^ (8 * 0) % 256] = [x]
  rw [List.nil_append]
  congr 1
  simp
  omega
theorem fx1_rd {x : Int} (h0 : 0 ≤ x) (h1 : x ≤ 255) (r : List Int) : fxS ⟨[x] ++ r, 0⟩ 1 = ⟨r, 0⟩ ∧ fxA ⟨[x] ++ r, 0⟩ 1 = x := by
  have := fx_rd (x := x) (n := 1) (by omega) (by omega) h0 (by simp; omega) r
  rwa [le_one h0 h1] at this
theorem ma_rd {x : Int} (h0 : 0 ≤ x) (h1 : x ≤ 255) (r : List Int) : maS ⟨[x] ++ r, 0⟩ x = ⟨r, 0⟩ := by
  have := fx1_rd h0 h1 r
  unfold maS
  rw [this.1, this.2, beq_self_eq_true, waS_true]
theorem nu_rd {x : Int} (h0 : 0 ≤ x) (h1 : x < 18446744073709551616) (r : List Int) : nuS ⟨form x ++ r, 0⟩ = ⟨r, 0⟩ ∧ nuA ⟨form x ++ r, 0⟩ = x := by
  have e := readInt_form x h0 h1 r
  constructor
  · unfold nuS
    rw [if_pos rfl, e]
    show (⟨(form x ++ r).drop ((form x).length : Int).toNat, 0⟩ : FS) = _
    rw [Int.toNat_natCast, List.drop_left]
  · unfold nuA
    rw [if_pos rfl, e]
theorem tx_rd {s : ByteArray} (h : s.size ≤ 1099511627776) (r : List Int) : txS ⟨txB s ++ r, 0⟩ = ⟨r, 0⟩ ∧ txA ⟨txB s ++ r, 0⟩ = s := by
  have e := readInt_form (s.size : Int) (by omega) (by omega) (nums s ++ r)
  rw [← List.append_assoc] at e
  have e2 : readText (txB s ++ r) = (s, ((form s.size).length : Int) + (s.size : Int), 0) := by
    unfold txB
    rw [readText_long e (by simp [nums_length]; omega)]
    rw [Int.toNat_natCast, Int.toNat_natCast, List.append_assoc, List.drop_left, List.take_append_of_le_length (by rw [nums_length]; exact Nat.le_refl _), List.take_of_length_le (by rw [nums_length]; exact Nat.le_refl _), str_nums]
  constructor
  · unfold txS
    rw [if_pos rfl, e2]
    show (⟨(txB s ++ r).drop (((form s.size).length : Int) + (s.size : Int)).toNat, 0⟩ : FS) = _
    rw [show (((form s.size).length : Int) + (s.size : Int)).toNat = (txB s).length by simp [txB, nums_length]; omega, List.drop_left]
  · unfold txA
    rw [if_pos rfl, e2]
theorem tk_rd (l r : List Int) : tkS ⟨l ++ r, 0⟩ l.length = ⟨r, 0⟩ ∧ tkA ⟨l ++ r, 0⟩ l.length = l := by
  constructor
  · unfold tkS
    rw [if_pos rfl, if_neg (by simp)]
    simp
  · unfold tkA
    rw [if_pos ⟨rfl, by simp⟩]
    simp
theorem re_rd (l : List Int) : reS ⟨l, 0⟩ = ⟨[], 0⟩ ∧ reA ⟨l, 0⟩ = l := ⟨rfl, rfl⟩
theorem ed_nil : edS ⟨[], 0⟩ = ⟨[], 0⟩ := rfl

theorem fx2_rd {x : Int} (h : 0 ≤ x ∧ x < 65536) (r : List Int) : fxS ⟨le x 2 ++ r, 0⟩ 2 = ⟨r, 0⟩ ∧ fxA ⟨le x 2 ++ r, 0⟩ 2 = x := fx_rd (by omega) (by omega) h.1 (by simpa using h.2) r
theorem fx2_end {x : Int} (h : 0 ≤ x ∧ x < 65536) : fxS ⟨le x 2, 0⟩ 2 = ⟨[], 0⟩ ∧ fxA ⟨le x 2, 0⟩ 2 = x := by have := fx2_rd h []; rwa [List.append_nil] at this
theorem eo_back {p : Eo} (h : EoK p) : eoR (eoB p) = (p, 0) := by
  have e : eoQ (eoB p) = (p, ⟨[], 0⟩) := by
    unfold eoQ eoB
    simp only [ma_rd (show (0 : Int) ≤ 254 by decide) (by decide), fx2_rd h.wa, fx2_end h.st, ed_nil]
  unfold eoR
  rw [e]
  rfl
theorem pr_back {p : Pr} (h : PrK p) : prR (prB p) = (p, 0) := by
  have e : prQ (prB p) = (p, ⟨[], 0⟩) := by
    unfold prQ prB
    have h4 := fun r => fx_rd (x := p.id) (n := 4) (by omega) (by omega) h.id.1 (by have := h.id.2; simpa using this) r
    simp only [ma_rd (show (0 : Int) ≤ 0 by decide) (by decide), h4, fx2_rd h.co, fx2_rd h.pa, fx2_end h.wa, ed_nil]
  unfold prR
  rw [e]
  rfl
theorem er_back {p : Er} (h : eOk p = true) (hK : 0 ≤ p.co ∧ p.co < 65536) : erR (erB p) = (p, 0) := by
  have hs : (nums p.st).length = 5 := by rw [nums_length]; unfold eOk at h; simpa using h
  have e : erQ (erB p) = (p, ⟨[], 0⟩) := by
    unfold erQ erB
    have h5 := tk_rd (nums p.st) (nums p.tx)
    rw [hs] at h5
    simp only [ma_rd (show (0 : Int) ≤ 255 by decide) (by decide), fx2_rd hK, ma_rd (show (0 : Int) ≤ 35 by decide) (by decide), h5, re_rd, str_nums, ed_nil]
  unfold erR
  rw [e]
  rfl
theorem fi_back {s : ByteArray} (h : fOk s = true) : fiR (fiB s) = (s, 0) := by
  have hs : 0 < (nums s).length := by rw [nums_length]; unfold fOk at h; rw [bne_iff_ne] at h; omega
  have e : fiQ (fiB s) = (s, ⟨[], 0⟩) := by
    unfold fiQ fiB
    have hn : neS ⟨nums s, 0⟩ 1 = ⟨nums s, 0⟩ := by unfold neS; rw [if_neg (fun q => by have h1 : (nums s).length < 1 := q.2; omega)]
    simp only [ma_rd (show (0 : Int) ≤ 251 by decide) (by decide), hn, re_rd, str_nums, ed_nil]
  unfold fiR
  rw [e]
  rfl
theorem ok_back {p : Ok} {c : Int} (last : Bool) (h : oOk c p = true) (hK : OkK p) (hb : Byt p.tr) (hz : p.info.size ≤ 1099511627776) (hz2 : p.tr.length ≤ 1099511627776) : okR (okB c last p) c = (p, 0) := by
  have hF0 : (0 : Int) ≤ (if last then 254 else 0) := by split <;> decide
  have hF1 : (if last then (254 : Int) else 0) ≤ 255 := by split <;> decide
  have hF : ((if last then (254 : Int) else 0) == 0 || (if last then (254 : Int) else 0) == 254) = true := by cases last <;> rfl
  have szs : (strOfNums p.tr).size = p.tr.length := by rw [show (strOfNums p.tr).size = (strOfNums p.tr).data.toList.length by simp, strOfNums_data]; simp
  have htx : form p.tr.length ++ p.tr = txB (strOfNums p.tr) := by unfold txB; rw [szs, nums_str hb]
  have e : okQ (okB c last p) c = (p, ⟨[], 0⟩) := by
    unfold okQ okB
    simp only [fx1_rd hF0 hF1, hF, waS_true, nu_rd hK.af.1 hK.af.2, nu_rd hK.ins.1 hK.ins.2, fx2_rd hK.st, fx2_rd hK.wa]
    cases q : has c 8388608
    · have ht : trk c p.st = false := by unfold trk; rw [q]; rfl
      have hn : p.tr = [] := by unfold oOk at h; rw [ht, Bool.or_false] at h; simpa using h
      unfold tlA tlT tlS okT
      simp only [q, if_true, re_rd, str_nums, ed_nil]
      rw [← hn]
    · cases q2 : trk c p.st
      · have hn : p.tr = [] := by unfold oOk at h; rw [q2, Bool.or_false] at h; simpa using h
        have hT := tx_rd hz []
        rw [List.append_nil] at hT
        have hl : 0 < (txB p.info).length := by unfold txB; rw [List.length_append]; have := form_len (p.info.size : Int); omega
        unfold tlA tlT tlS okT
        rw [q, q2]
        simp only [Bool.true_eq_false, Bool.false_eq_true, if_false, if_pos hl, hT, ed_nil]
        rw [← hn]
      · have hT := tx_rd hz (txB (strOfNums p.tr))
        have hU := tx_rd (s := strOfNums p.tr) (by omega) []
        rw [List.append_nil] at hU
        unfold tlA tlT tlS okT
        rw [q, q2, htx]
        simp only [Bool.true_eq_false, if_false, if_true, hT, hU, ed_nil, nums_str hb]
  unfold okR
  rw [e]
  rfl

/-! What they are known by. -/
theorem has_or {c x : Nat} (hc : c < 4294967296) (hx : x < 4294967296) (h0 : x ≠ 0) : has (bits .or .u32 (c : Int) (x : Int)) (x : Int) = true := by
  unfold has
  rw [u32_or_nat c x hc hx, u32_and_nat _ x (Nat.or_lt_two_pow (n := 32) hc hx) hx]
  have : (c ||| x) &&& x = x := by apply Nat.eq_of_testBit_eq; intro i; simp; intro h; exact .inr h
  rw [this]
  simp
  omega
theorem has_not {c x : Nat} (hc : c < 4294967296) (hx : x < 4294967296) : has (bits .andNot .u32 (c : Int) (x : Int)) (x : Int) = false := by
  unfold has
  rw [u32_andNot_nat c x hc hx, u32_and_nat _ x (Nat.and_lt_two_pow (n := 32) _ (by omega)) hx]
  have : (c &&& (4294967295 - x)) &&& x = 0 := by
    apply Nat.eq_of_testBit_eq
    intro i
    have hh : (4294967295 - x).testBit i = (decide (i < 32) && !x.testBit i) := by
      rw [show 4294967295 - x = 2 ^ 32 - (x + 1) by omega]
      exact Nat.testBit_two_pow_sub_succ (by omega) i
    rw [Nat.testBit_and, Nat.testBit_and, hh]
    cases x.testBit i <;> simp
  rw [this]
  rfl
theorem ok_first (c : Int) (p : Ok) : fiK (okB c false p) c = 1 := rfl
theorem okT_len {c : Int} {p : Ok} (h1 : p.info.size ≤ 3000) (h2 : p.tr.length ≤ 3000) : (okT c p).length ≤ 6018 := by
  have f3 := txB_len p.info
  have f4 := form_length_le (p.tr.length : Int)
  unfold okT
  split
  · rw [nums_length]; omega
  · split
    · simp only [List.length_append]; omega
    · omega
theorem okB_len {c : Int} {last : Bool} {p : Ok} (h1 : p.info.size ≤ 3000) (h2 : p.tr.length ≤ 3000) : (okB c last p).length ≤ 6100 := by
  have f1 := form_length_le p.af
  have f2 := form_length_le p.ins
  have f3 := okT_len (c := c) h1 h2
  unfold okB
  simp only [List.length_append, List.length_singleton, le_length]
  omega
theorem ok_last {c : Int} (d : Int) {p : Ok} (hd : has d 16777216 = true) (h1 : p.info.size ≤ 3000) (h2 : p.tr.length ≤ 3000) : laK (okB c true p) d = 1 := by
  have hl := okB_len (c := c) (last := true) h1 h2
  show laX 254 d _ = 1
  unfold laX
  rw [if_neg (by decide), if_pos rfl, if_pos hd, if_pos]
  unfold okB at hl
  rw [List.length_append] at hl
  simp only [if_true, List.length_singleton] at hl
  show List.length (List.append [] _) + 1 < _
  rw [show ∀ l : List Int, List.append [] l = l from fun _ => rfl]
  omega
theorem er_first (c : Int) (p : Er) : fiK (erB p) c = 2 := rfl
theorem er_last (c : Int) (p : Er) : laK (erB p) c = 2 := rfl
theorem fi_first {d : Int} (s : ByteArray) (hd : has d 128 = true) : fiK (fiB s) d = 4 := by
  show fiX 251 d = 4
  unfold fiX
  rw [if_neg (by decide), if_neg (by decide), if_pos ⟨rfl, hd⟩]
theorem eo_last {d : Int} (p : Eo) (hd : has d 16777216 = false) : laK (eoB p) d = 3 := by
  show laX 254 d _ = 3
  unfold laX
  rw [if_neg (by decide), if_pos rfl, if_neg (by rw [hd]; decide), if_pos]
  show List.length (List.append [] _) + 1 = _
  rw [show ∀ l : List Int, List.append [] l = l from fun _ => rfl]
  simp [le_length]

end Go.Proofs.Ytfgghgoonfamkaa

namespace Go.Proofs.Ytfgghgoonfamkaa
open Go.RowKit
set_option linter.unusedVariables false
set_option linter.unusedSimpArgs false

/-- What a known type is called: nothing, if it is none. -/
def knS (t : Int) : ByteArray :=
  if t = 0 then ⟨#[100, 101, 99, 105, 109, 97, 108]⟩ else
  if t = 1 then ⟨#[116, 105, 110, 121]⟩ else
  if t = 2 then ⟨#[115, 104, 111, 114, 116]⟩ else
  if t = 3 then ⟨#[108, 111, 110, 103]⟩ else
  if t = 4 then ⟨#[102, 108, 111, 97, 116]⟩ else
  if t = 5 then ⟨#[100, 111, 117, 98, 108, 101]⟩ else
  if t = 6 then ⟨#[110, 117, 108, 108]⟩ else
  if t = 7 then ⟨#[116, 105, 109, 101, 115, 116, 97, 109, 112]⟩ else
  if t = 8 then ⟨#[108, 111, 110, 103, 45, 108, 111, 110, 103]⟩ else
  if t = 9 then ⟨#[105, 110, 116, 50, 52]⟩ else
  if t = 10 then ⟨#[100, 97, 116, 101]⟩ else
  if t = 11 then ⟨#[116, 105, 109, 101]⟩ else
  if t = 12 then ⟨#[100, 97, 116, 101, 45, 116, 105, 109, 101]⟩ else
  if t = 13 then ⟨#[121, 101, 97, 114]⟩ else
  if t = 15 then ⟨#[118, 97, 114, 45, 99, 104, 97, 114]⟩ else
  if t = 16 then ⟨#[98, 105, 116]⟩ else
  if t = 245 then ⟨#[106, 115, 111, 110]⟩ else
  if t = 246 then ⟨#[110, 101, 119, 45, 100, 101, 99, 105, 109, 97, 108]⟩ else
  if t = 247 then ⟨#[101, 110, 117, 109]⟩ else
  if t = 248 then ⟨#[115, 101, 116]⟩ else
  if t = 249 then ⟨#[116, 105, 110, 121, 45, 98, 108, 111, 98]⟩ else
  if t = 250 then ⟨#[109, 101, 100, 105, 117, 109, 45, 98, 108, 111, 98]⟩ else
  if t = 251 then ⟨#[108, 111, 110, 103, 45, 98, 108, 111, 98]⟩ else
  if t = 252 then ⟨#[98, 108, 111, 98]⟩ else
  if t = 253 then ⟨#[118, 97, 114, 45, 115, 116, 114, 105, 110, 103]⟩ else
  if t = 254 then ⟨#[115, 116, 114, 105, 110, 103]⟩ else
  if t = 255 then ⟨#[103, 101, 111, 109, 101, 116, 114, 121]⟩ else
  ⟨#[]⟩
/-- Is it known? -/
def kn (t : Int) : Bool := (knS t).size != 0

/-- A column. -/
structure Co where
  sc : ByteArray
  ta : ByteArray
  ot : ByteArray
  na : ByteArray
  on : ByteArray
  ch : Int
  le : Int
  ty : Int
  fl : Int
  de : Int
/-- Numbers are within their kinds. -/
structure CoK (p : Co) : Prop where
  ch : 0 ≤ p.ch ∧ p.ch < 65536
  le : 0 ≤ p.le ∧ p.le < 4294967296
  ty : 0 ≤ p.ty ∧ p.ty < 256
  fl : 0 ≤ p.fl ∧ p.fl < 65536
  de : 0 ≤ p.de ∧ p.de < 256

/-- Is a text 'def'? -/
def isDef (s : ByteArray) : Bool := s.toList == [100, 101, 102]
/-- A text of a column: at most 255 bytes. -/
def ctS (s : FS) : FS := waS (txS s) (decide ((txA s).size ≤ 255))
/-- A column is read. -/
def coQ (b : List Int) : Co × FS :=
  let s1 := txS ⟨b, 0⟩
  let s2 := waS s1 (isDef (txA ⟨b, 0⟩))
  let s3 := ctS s2
  let s4 := ctS s3
  let s5 := ctS s4
  let s6 := ctS s5
  let s7 := ctS s6
  let s8 := maS s7 12
  let s9 := fxS s8 2
  let s10 := fxS s9 4
  let s11 := fxS s10 1
  let s12 := waS s11 (kn (fxA s10 1))
  let s13 := fxS s12 2
  let s14 := fxS s13 1
  let s15 := waS (fxS s14 2) (fxA s14 2 == 0)
  (⟨txA s2, txA s3, txA s4, txA s5, txA s6, fxA s8 2, fxA s9 4, fxA s10 1, fxA s12 2, fxA s13 1⟩, edS s15)
def co0 : Co := ⟨⟨#[]⟩, ⟨#[]⟩, ⟨#[]⟩, ⟨#[]⟩, ⟨#[]⟩, 0, 0, 0, 0, 0⟩
def coR (b : List Int) : Co × Int := if (coQ b).2.e = 0 then ((coQ b).1, 0) else (co0, (coQ b).2.e)
/-- May it be? -/
def cOk (p : Co) : Bool := kn p.ty && (decide (p.sc.size ≤ 255) && (decide (p.ta.size ≤ 255) && (decide (p.ot.size ≤ 255) && (decide (p.na.size ≤ 255) && decide (p.on.size ≤ 255)))))
/-- Its bytes. -/
def defB : List Int := [3, 100, 101, 102]
def coB (p : Co) : List Int := defB ++ (txB p.sc ++ (txB p.ta ++ (txB p.ot ++ (txB p.na ++ (txB p.on ++ ([12] ++ (le p.ch 2 ++ (le p.le 4 ++ ([p.ty] ++ (le p.fl 2 ++ [p.de, 0, 0]))))))))))
/-- How many columns come: what reading answers. -/
def nOk (n : Int) : Bool := decide (1 ≤ n ∧ n ≤ 4096)
def ctR (b : List Int) : Int × Int := if (readInt b).2.2 ≠ 0 then (0, (readInt b).2.2) else if nOk (readInt b).1 = true ∧ (readInt b).2.1 = ((form (readInt b).1).length : Int) ∧ (readInt b).2.1 = (b.length : Int) then ((readInt b).1, 0) else (0, 5)

theorem ctS_le (s : FS) : (ctS s).b.length ≤ s.b.length := Nat.le_trans (waS_le _ _) (txS_le _)
theorem knS_len' : ∀ k : Fin 256, (knS (k.val : Int)).size ≤ 20 := by decide +kernel
theorem knS_len {t : Int} (h0 : 0 ≤ t) (h1 : t < 256) : (knS t).size ≤ 20 := by
  obtain ⟨N, rfl⟩ := Int.eq_ofNat_of_zero_le h0
  exact knS_len' ⟨N, by omega⟩

end Go.Proofs.Ytfgghgoonfamkaa

namespace Go.Proofs.Ytfgghgoonfamkaa
open Go.RowKit
set_option linter.unusedVariables false
set_option linter.unusedSimpArgs false

/-- A moment, or a span of time. -/
structure Wh where
  ng : Bool
  y : Int
  mo : Int
  d : Int
  h : Int
  mi : Int
  s : Int
  mc : Int
/-- A value. -/
structure Va where
  k : Int
  i : Int
  b : Int
  t : ByteArray
  w : Wh
def wh0 : Wh := ⟨false, 0, 0, 0, 0, 0, 0, 0⟩
def va0 : Va := ⟨0, 0, 0, ⟨#[]⟩, wh0⟩
/-- Its cells. -/
def whC (w : Wh) : Array Value := #[.bool w.ng, .int .i64 w.y, .int .i64 w.mo, .int .i64 w.d, .int .i64 w.h, .int .i64 w.mi, .int .i64 w.s, .int .i64 w.mc]
def vaC (v : Va) : Array Value := #[.int .i64 v.k, .int .i64 v.i, .int .u64 v.b, .string v.t, .bool v.w.ng, .int .i64 v.w.y, .int .i64 v.w.mo, .int .i64 v.w.d, .int .i64 v.w.h, .int .i64 v.w.mi, .int .i64 v.w.s, .int .i64 v.w.mc]
def i64 (x : Int) : Prop := -9223372036854775808 ≤ x ∧ x ≤ 9223372036854775807
/-- Numbers are within their kinds. -/
structure WhK (w : Wh) : Prop where
  y : i64 w.y
  mo : i64 w.mo
  d : i64 w.d
  h : i64 w.h
  mi : i64 w.mi
  s : i64 w.s
  mc : i64 w.mc
structure VaK (v : Va) : Prop where
  k : i64 v.k
  i : i64 v.i
  b : 0 ≤ v.b ∧ v.b < 18446744073709551616
  w : WhK v.w

/-- Is it a type of whole numbers? -/
def isN (t : Int) : Bool := t == 1 || t == 2 || t == 13 || t == 3 || t == 9 || t == 8
/-- The kind of a type. -/
def kdV (t : Int) (un : Bool) : Int :=
  if kn t = false then -1 else
  if isN t = true then (if un = true then 2 else 1) else
  if t = 4 then 3 else if t = 5 then 4 else
  if t = 7 ∨ t = 10 ∨ t = 12 then 5 else
  if t = 11 then 6 else if t = 6 then 0 else 7
/-- How many bytes a number, a float, a double has; 0 of all others. -/
def szP (t : Int) : Int := if t = 1 then 1 else if t = 2 ∨ t = 13 then 2 else if t = 3 ∨ t = 9 ∨ t = 4 then 4 else if t = 8 ∨ t = 5 then 8 else 0
/-- .. as the document has it: 8 of all others. -/
def szV (t : Int) : Int := if t = 1 then 1 else if t = 2 ∨ t = 13 then 2 else if t = 3 ∨ t = 9 ∨ t = 4 then 4 else 8
/-- The number whose n bytes are the lowest of x, with a sign, and without. -/
def sgn (x n : Int) : Int := if n = 1 then (x + 128) % 256 - 128 else if n = 2 then (x + 32768) % 65536 - 32768 else if n = 4 then (x + 2147483648) % 4294967296 - 2147483648 else (x + 9223372036854775808) % 18446744073709551616 - 9223372036854775808
def uns (x n : Int) : Int := if n = 1 then x % 256 else if n = 2 then x % 65536 else if n = 4 then x % 4294967296 else x
/-- Within 0 and m. -/
def inr (x m : Int) : Bool := decide (0 ≤ x ∧ x ≤ m)
/-- May a time of day be? -/
def clk (w : Wh) : Bool := inr w.h 23 && (inr w.mi 59 && (inr w.s 59 && inr w.mc 999999))
/-- Is there no time of day? -/
def mid (w : Wh) : Bool := (w.h == 0) && ((w.mi == 0) && ((w.s == 0) && (w.mc == 0)))
def dtOk (w : Wh) (t : Int) : Bool := (t != 10 || mid w) && (!w.ng && (inr w.y 9999 && (inr w.mo 12 && (inr w.d 31 && clk w))))
def neg0 : Wh := ⟨true, 0, 0, 0, 0, 0, 0, 0⟩
deriving instance DecidableEq for Wh
deriving instance DecidableEq for Va
def tmOk (w : Wh) : Bool := decide (w ≠ neg0) && ((w.y == 0) && ((w.mo == 0) && (inr w.d 34 && clk w)))
/-- Of the kind k: has it nothing else, and does what it has fit? -/
def fit (v : Va) (t : Int) : Bool :=
  if v.k = 1 then decide (v = ⟨v.k, v.i, 0, ⟨#[]⟩, wh0⟩) && (v.i == sgn (v.i % 18446744073709551616) (szP t)) else
  if v.k = 2 ∨ v.k = 3 ∨ v.k = 4 then decide (v = ⟨v.k, 0, v.b, ⟨#[]⟩, wh0⟩) && (v.b == uns v.b (szP t)) else
  if v.k = 5 then decide (v = ⟨v.k, 0, 0, ⟨#[]⟩, v.w⟩) && dtOk v.w t else
  if v.k = 6 then decide (v = ⟨v.k, 0, 0, ⟨#[]⟩, v.w⟩) && tmOk v.w else
  if v.k = 7 then decide (v = ⟨v.k, 0, 0, v.t, wh0⟩) && decide (v.t.size ≤ 16777216) else false
/-- May it be of a type that is known? -/
def mb (v : Va) (t : Int) (un : Bool) : Bool := decide (v = va0) || (decide (v.k = kdV t un) && fit v t)
/-- May it be? -/
def vOk (v : Va) (t : Int) (un : Bool) : Bool := decide (kdV t un ≠ -1) && mb v t un

/-! Bytes. -/
def clkB (w : Wh) : List Int := [w.h % 256, w.mi % 256, w.s % 256] ++ le w.mc 4
def datA (w : Wh) : List Int := le w.y 2 ++ ([w.mo % 256, w.d % 256] ++ clkB w)
def timA (w : Wh) : List Int := [if w.ng = true then 1 else 0] ++ (le w.d 4 ++ clkB w)
def datN (w : Wh) : Nat := if w = wh0 then 0 else if mid w = true then 4 else if w.mc = 0 then 7 else 11
def timN (w : Wh) : Nat := if w = wh0 then 0 else if w.mc = 0 then 8 else 12
def cntB (l : List Int) (n : Nat) : List Int := [(n : Int)] ++ l.take n
def vaB (v : Va) (t : Int) : List Int :=
  if v.k = 1 then le (uns (v.i % 18446744073709551616) (szP t)) (szP t).toNat else
  if v.k = 2 ∨ v.k = 3 ∨ v.k = 4 then le v.b (szP t).toNat else
  if v.k = 5 then cntB (datA v.w) (datN v.w) else
  if v.k = 6 then cntB (timA v.w) (timN v.w) else
  if v.k = 7 then txB v.t else []
/-- May its bytes be asked for? -/
def bOk (v : Va) (t : Int) (un : Bool) : Bool := vOk v t un && !((v.k == 0) && (t != 6))

/-! Reading. -/
def zer12 : List Int := [0, 0, 0, 0, 0, 0, 0, 0, 0, 0, 0, 0]
/-- What stands behind a first byte, in twelve bytes; how many bytes all of it has; the error. -/
def rdF (b : List Int) (ls : List Int) : List Int × Int × Int :=
  if (readFixed b 1).2 ≠ 0 then (zer12, 0, (readFixed b 1).2) else
  if ls.contains (readFixed b 1).1 = false then (zer12, 0, 5) else
  if (b.length : Int) < 1 + (readFixed b 1).1 then (zer12, 0, 4) else
  ((b.drop 1).take (readFixed b 1).1.toNat ++ zer12.drop (readFixed b 1).1.toNat, 1 + (readFixed b 1).1, 0)
def clkO (f : List Int) : Wh := ⟨false, 0, 0, 0, f.getD 0 0, f.getD 1 0, f.getD 2 0, val (f.drop 3) 4⟩
def datO (f : List Int) : Wh := { clkO (f.drop 4) with y := val f 2, mo := f.getD 2 0, d := f.getD 3 0 }
def timO (f : List Int) : Wh := { clkO (f.drop 5) with ng := f.getD 0 0 == 1, d := val (f.drop 1) 4 }
def dLs : List Int := [0, 4, 7, 11]
def tLs : List Int := [0, 8, 12]
def rdD (b : List Int) : Wh × Int × Int := (datO (rdF b dLs).1, (rdF b dLs).2.1, (rdF b dLs).2.2)
def rdT (b : List Int) : Wh × Int × Int := if 1 < (rdF b tLs).1.getD 0 0 then (wh0, 0, 5) else (timO (rdF b tLs).1, (rdF b tLs).2.1, (rdF b tLs).2.2)
def rdA (b : List Int) (t : Int) (un : Bool) : Va × Int × Int :=
  let k := kdV t un
  if k = 1 then (⟨k, sgn (readFixed b (szP t)).1 (szP t), 0, ⟨#[]⟩, wh0⟩, szP t, (readFixed b (szP t)).2) else
  if k = 2 ∨ k = 3 ∨ k = 4 then (⟨k, 0, (readFixed b (szP t)).1, ⟨#[]⟩, wh0⟩, szP t, (readFixed b (szP t)).2) else
  if k = 5 then (⟨k, 0, 0, ⟨#[]⟩, (rdD b).1⟩, (rdD b).2.1, (rdD b).2.2) else
  if k = 6 then (⟨k, 0, 0, ⟨#[]⟩, (rdT b).1⟩, (rdT b).2.1, (rdT b).2.2) else
  if k = 7 then (⟨k, 0, 0, (readText b).1, wh0⟩, (readText b).2.1, (readText b).2.2) else (va0, 0, 0)
def rdE (b : List Int) (t : Int) (un : Bool) : Int := if (rdA b t un).2.2 = 0 ∧ mb (rdA b t un).1 t un = false then 5 else (rdA b t un).2.2
def rdV (b : List Int) (t : Int) (un : Bool) : Va × Int × Int :=
  if kdV t un = -1 then (va0, 0, 2) else if rdE b t un ≠ 0 then (va0, 0, rdE b t un) else ((rdA b t un).1, (rdA b t un).2.1, 0)

/-! Texts. -/
def pad (x : Int) (n : Nat) : List UInt8 := List.replicate (n - (Lib.itoa x).length) 48 ++ Lib.itoa x
def minT (w : Wh) : List UInt8 := pad w.mi 2 ++ ([58] ++ (pad w.s 2 ++ (if w.mc = 0 then [] else [46] ++ pad w.mc 6)))
def dayT (w : Wh) : List UInt8 := pad w.y 4 ++ ([45] ++ (pad w.mo 2 ++ ([45] ++ pad w.d 2)))
def datT (w : Wh) (t : Int) : List UInt8 := dayT w ++ (if t = 10 then [] else [32] ++ (pad w.h 2 ++ ([58] ++ minT w)))
def timT (w : Wh) : List UInt8 := (if w.ng = true then [45] else []) ++ (pad (24 * w.d + w.h) 2 ++ ([58] ++ minT w))
def vaT (v : Va) (t : Int) : List UInt8 :=
  if v.k = 1 then Lib.itoa v.i else if v.k = 2 then Lib.itoa v.b else if v.k = 5 then datT v.w t else if v.k = 6 then timT v.w else v.t.data.toList
def hasT (k : Int) : Bool := !((k == -1) || ((k == 0) || ((k == 3) || (k == 4))))
def tOk (v : Va) (t : Int) (un : Bool) : Bool := vOk v t un && hasT v.k

/-! Texts read. -/
def atV (l : List UInt8) : Int := match Lib.atoiAll l with | .ok v => v | .syntax => 0 | .range => Lib.atoiSat l
def piV (l : List UInt8) : Int := match Lib.parseIntB 64 l with | .ok v => v | .syntax => 0 | .range => Lib.intSat 64 l
def puV (l : List UInt8) : Int := match Lib.parseUintB 64 l with | .ok v => (v : Int) | .syntax => 0 | .range => 18446744073709551615
def nxA (s : List UInt8) (n : Int) : Int := if n < 0 ∨ (s.length : Int) < n then 0 else atV (s.take n.toNat)
def nxS (s : List UInt8) (n : Int) : List UInt8 := if n < 0 ∨ (s.length : Int) < n then s else s.drop (n.toNat + 1)
def gsD (s : List UInt8) : Wh :=
  let s1 := nxS s 4
  let s2 := nxS s1 2
  let s3 := nxS s2 2
  let s4 := nxS s3 2
  let s5 := nxS s4 2
  let s6 := nxS s5 2
  ⟨false, nxA s 4, nxA s1 2, nxA s2 2, nxA s3 2, nxA s4 2, nxA s5 2, nxA s6 6⟩
def gsT (s : List UInt8) : Wh :=
  let p := Lib.trimPrefix s [45]
  let n := Lib.indexByte p 58
  let s1 := nxS p n
  let s2 := nxS s1 2
  let s3 := nxS s2 2
  ⟨Lib.hasPrefix s [45], 0, 0, Int.tdiv (nxA p n) 24, Int.tmod (nxA p n) 24, nxA s1 2, nxA s2 2, nxA s3 6⟩
def gsV (s : ByteArray) (t : Int) (un : Bool) : Va :=
  let k := kdV t un
  let l := s.data.toList
  if k = 1 then ⟨k, piV l, 0, ⟨#[]⟩, wh0⟩ else if k = 2 then ⟨k, 0, puV l, ⟨#[]⟩, wh0⟩ else
  if k = 5 then ⟨k, 0, 0, ⟨#[]⟩, gsD l⟩ else if k = 6 then ⟨k, 0, 0, ⟨#[]⟩, gsT l⟩ else if k = 7 then ⟨k, 0, 0, s, wh0⟩ else ⟨k, 0, 0, ⟨#[]⟩, wh0⟩
def ofV (s : ByteArray) (t : Int) (un : Bool) : Va × Int :=
  if hasT (kdV t un) = false then (va0, 2) else
  if mb (gsV s t un) t un = false ∨ vaT (gsV s t un) t ≠ s.data.toList then (va0, 5) else (gsV s t un, 0)

theorem kd_cases (t : Int) (un : Bool) : kdV t un = -1 ∨ kdV t un = 0 ∨ kdV t un = 1 ∨ kdV t un = 2 ∨ kdV t un = 3 ∨ kdV t un = 4 ∨ kdV t un = 5 ∨ kdV t un = 6 ∨ kdV t un = 7 := by
  unfold kdV
  repeat' split
  all_goals simp

end Go.Proofs.Ytfgghgoonfamkaa
