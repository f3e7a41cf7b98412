/-
  Columns as plain things: what types are called; what reading a column answers, field by field; its bytes; a count's. No program and no memory is named here.
  Values as plain things: the kind of a type, how many bytes its numbers have, which values may be of it, their bytes, their texts, and how both are read. No program and no memory is named here.
-/
import Derived.Test.YtnodhdggafffaaaDoorRyBack
import Derived.Lib.ItoaNum
import Derived.Lib.AtoiAll
import Derived.Lib.ParseIntB
import Derived.Lib.Bytealg
import Derived.Lib.Strings
namespace Go.Proofs.YtnodhdggafffaaaDoor
open Go.RowKit
set_option linter.unusedVariables false
set_option linter.unusedSimpArgs false

/-- What a known type is called: nothing, if it is none. -/
def knS (t : Int) : ByteArray :=
  if t = 0 then ⟨#[100, 101, 99, 105, 109, 97, 108]⟩ else
  if t = 1 then ⟨#[116, 105, 110, 121]⟩ else
  if t = 2 then ⟨#[115, 104, 111, 114, 116]⟩ else
  if t = 3 then ⟨#[108, 111, 110, 103]⟩ else
  if t = 4 then ⟨#[102, 108, 111, 97, 116]⟩ else
  if t = 5 then ⟨#[100, 111, 117, 98, 108, 101]⟩ else
  if t = 6 then ⟨#[110, 117, 108, 108]⟩ else
  if t = 7 then ⟨#[116, 105, 109, 101, 115, 116, 97, 109, 112]⟩ else
  if t = 8 then ⟨#[108, 111, 110, 103, 45, 108, 111, 110, 103]⟩ else
  if t = 9 then ⟨#[105, 110, 116, 50, 52]⟩ else
  if t = 10 then ⟨#[100, 97, 116, 101]⟩ else
  if t = 11 then ⟨#[116, 105, 109, 101]⟩ else
  if t = 12 then ⟨#[100, 97, 116, 101, 45, 116, 105, 109, 101]⟩ else
  if t = 13 then ⟨#[121, 101, 97, 114]⟩ else
  if t = 15 then ⟨#[118, 97, 114, 45, 99, 104, 97, 114]⟩ else
  if t = 16 then ⟨#[98, 105, 116]⟩ else
  if t = 245 then ⟨#[106, 115, 111, 110]⟩ else
  if t = 246 then ⟨#[110, 101, 119, 45, 100, 101, 99, 105, 109, 97, 108]⟩ else
  if t = 247 then ⟨#[101, 110, 117, 109]⟩ else
  if t = 248 then ⟨#[115, 101, 116]⟩ else
  if t = 249 then ⟨#[116, 105, 110, 121, 45, 98, 108, 111, 98]⟩ else
  if t = 250 then ⟨#[109, 101, 100, 105, 117, 109, 45, 98, 108, 111, 98]⟩ else
  if t = 251 then ⟨#[108, 111, 110, 103, 45, 98, 108, 111, 98]⟩ else
  if t = 252 then ⟨#[98, 108, 111, 98]⟩ else
  if t = 253 then ⟨#[118, 97, 114, 45, 115, 116, 114, 105, 110, 103]⟩ else
  if t = 254 then ⟨#[115, 116, 114, 105, 110, 103]⟩ else
  if t = 255 then ⟨#[103, 101, 111, 109, 101, 116, 114, 121]⟩ else
  ⟨#[]⟩
/-- Is it known? -/
def kn (t : Int) : Bool := (knS t).size != 0

/-- A column. -/
structure Co where
  sc : ByteArray
  ta : ByteArray
  ot : ByteArray
  na : ByteArray
  on : ByteArray
  ch : Int
  le : Int
  ty : Int
  fl : Int
  de : Int
/-- Numbers are within their kinds. -/
structure CoK (p : Co) : Prop where
  ch : 0 ≤ p.ch ∧ p.ch < 65536
  le : 0 ≤ p.le ∧ p.le < 4294967296
  ty : 0 ≤ p.ty ∧ p.ty < 256
  fl : 0 ≤ p.fl ∧ p.fl < 65536
  de : 0 ≤ p.de ∧ p.de < 256

/-- Is a text 'def'? -/
def isDef (s : ByteArray) : Bool := s.toList == [100, 101, 102]
/-- A text of a column: at most 255 bytes. -/
def ctS (s : FS) : FS := waS (txS s) (decide ((txA s).size ≤ 255))
/-- A column is read. -/
def coQ (b : List Int) : Co × FS :=
  let s1 := txS ⟨b, 0⟩
  let s2 := waS s1 (isDef (txA ⟨b, 0⟩))
  let s3 := ctS s2
  let s4 := ctS s3
  let s5 := ctS s4
  let s6 := ctS s5
  let s7 := ctS s6
  let s8 := maS s7 12
  let s9 := fxS s8 2
  let s10 := fxS s9 4
  let s11 := fxS s10 1
  let s12 := waS s11 (kn (fxA s10 1))
  let s13 := fxS s12 2
  let s14 := fxS s13 1
  let s15 := waS (fxS s14 2) (fxA s14 2 == 0)
  (⟨txA s2, txA s3, txA s4, txA s5, txA s6, fxA s8 2, fxA s9 4, fxA s10 1, fxA s12 2, fxA s13 1⟩, edS s15)
def co0 : Co := ⟨⟨#[]⟩, ⟨#[]⟩, ⟨#[]⟩, ⟨#[]⟩, ⟨#[]⟩, 0, 0, 0, 0, 0⟩
def coR (b : List Int) : Co × Int := if (coQ b).2.e = 0 then ((coQ b).1, 0) else (co0, (coQ b).2.e)
/-- May it be? -/
def cOk (p : Co) : Bool := kn p.ty && (decide (p.sc.size ≤ 255) && (decide (p.ta.size ≤ 255) && (decide (p.ot.size ≤ 255) && (decide (p.na.size ≤ 255) && decide (p.on.size ≤ 255)))))
/-- Its bytes. -/
def defB : List Int := [3, 100, 101, 102]
def coB (p : Co) : List Int := defB ++ (txB p.sc ++ (txB p.ta ++ (txB p.ot ++ (txB p.na ++ (txB p.on ++ ([12] ++ (le p.ch 2 ++ (le p.le 4 ++ ([p.ty] ++ (le p.fl 2 ++ [p.de, 0, 0]))))))))))
/-- How many columns come: what reading answers. -/
def nOk (n : Int) : Bool := decide (1 ≤ n ∧ n ≤ 4096)
def ctR (b : List Int) : Int × Int := if (readInt b).2.2 ≠ 0 then (0, (readInt b).2.2) else if nOk (readInt b).1 = true ∧ (readInt b).2.1 = ((form (readInt b).1).length : Int) ∧ (readInt b).2.1 = (b.length : Int) then ((readInt b).1, 0) else (0, 5)

theorem ctS_le (s : FS) : (ctS s).b.length ≤ s.b.length := Nat.le_trans (waS_le _ _) (txS_le _)
theorem knS_len' : ∀ k : Fin 256, (knS (k.val : Int)).size ≤ 20 := by decide +kernel
theorem knS_len {t : Int} (h0 : 0 ≤ t) (h1 : t < 256) : (knS t).size ≤ 20 := by
  obtain ⟨N, rfl⟩ := Int.eq_ofNat_of_zero_le h0
  exact knS_len' ⟨N, by omega⟩

end Go.Proofs.YtnodhdggafffaaaDoor

namespace Go.Proofs.YtnodhdggafffaaaDoor
open Go.RowKit
set_option linter.unusedVariables false
set_option linter.unusedSimpArgs false

/-- A moment, or a span of time. -/
structure Wh where
  ng : Bool
  y : Int
  mo : Int
  d : Int
  h : Int
  mi : Int
  s : Int
  mc : Int
/-- A value. -/
structure Va where
  k : Int
  i : Int
  b : Int
  t : ByteArray
  w : Wh
def wh0 : Wh := ⟨false, 0, 0, 0, 0, 0, 0, 0⟩
def va0 : Va := ⟨0, 0, 0, ⟨#[]⟩, wh0⟩
/-- Its cells. -/
def whC (w : Wh) : Array Value := #[.bool w.ng, .int .i64 w.y, .int .i64 w.mo, .int .i64 w.d, .int .i64 w.h, .int .i64 w.mi, .int .i64 w.s, .int .i64 w.mc]
def vaC (v : Va) : Array Value := #[.int .i64 v.k, .int .i64 v.i, .int .u64 v.b, .string v.t, .bool v.w.ng, .int .i64 v.w.y, .int .i64 v.w.mo, .int .i64 v.w.d, .int .i64 v.w.h, .int .i64 v.w.mi, .int .i64 v.w.s, .int .i64 v.w.mc]
def i64 (x : Int) : Prop := -9223372036854775808 ≤ x ∧ x ≤ 9223372036854775807
/-- Numbers are within their kinds. -/
structure WhK (w : Wh) : Prop where
  y : i64 w.y
  mo : i64 w.mo
  d : i64 w.d
  h : i64 w.h
  mi : i64 w.mi
  s : i64 w.s
  mc : i64 w.mc
structure VaK (v : Va) : Prop where
  k : i64 v.k
  i : i64 v.i
  b : 0 ≤ v.b ∧ v.b < 18446744073709551616
  w : WhK v.w

/-- Is it a type of whole numbers? -/
def isN (t : Int) : Bool := t == 1 || t == 2 || t == 13 || t == 3 || t == 9 || t == 8
/-- The kind of a type. -/
def kdV (t : Int) (un : Bool) : Int :=
  if kn t = false then -1 else
  if isN t = true then (if un = true then 2 else 1) else
  if t = 4 then 3 else if t = 5 then 4 else
  if t = 7 ∨ t = 10 ∨ t = 12 then 5 else
  if t = 11 then 6 else if t = 6 then 0 else 7
/-- How many bytes a number, a float, a double has; 0 of all others. -/
def szP (t : Int) : Int := if t = 1 then 1 else if t = 2 ∨ t = 13 then 2 else if t = 3 ∨ t = 9 ∨ t = 4 then 4 else if t = 8 ∨ t = 5 then 8 else 0
/-- .. as the document has it: 8 of all others. -/
def szV (t : Int) : Int := if t = 1 then 1 else if t = 2 ∨ t = 13 then 2 else if t = 3 ∨ t = 9 ∨ t = 4 then 4 else 8
/-- The number whose n bytes are the lowest of x, with a sign, and without. -/
def sgn (x n : Int) : Int := if n = 1 then (x + 128) % 256 - 128 else if n = 2 then (x + 32768) % 65536 - 32768 else if n = 4 then (x + 2147483648) % 4294967296 - 2147483648 else (x + 9223372036854775808) % 18446744073709551616 - 9223372036854775808
def uns (x n : Int) : Int := if n = 1 then x % 256 else if n = 2 then x % 65536 else if n = 4 then x % 4294967296 else x
/-- Within 0 and m. -/
def inr (x m : Int) : Bool := decide (0 ≤ x ∧ x ≤ m)
/-- May a time of day be? -/
def clk (w : Wh) : Bool := inr w.h 23 && (inr w.mi 59 && (inr w.s 59 && inr w.mc 999999))
/-- Is there no time of day? -/
def mid (w : Wh) : Bool := (w.h == 0) && ((w.mi == 0) && ((w.s == 0) && (w.mc == 0)))
def dtOk (w : Wh) (t : Int) : Bool := (t != 10 || mid w) && (!w.ng && (inr w.y 9999 && (inr w.mo 12 && (inr w.d 31 && clk w))))
def neg0 : Wh := ⟨true, 0, 0, 0, 0, 0, 0, 0⟩
deriving instance DecidableEq for Wh
deriving instance DecidableEq for Va
def tmOk (w : Wh) : Bool := decide (w ≠ neg0) && ((w.y == 0) && ((w.mo == 0) && (inr w.d 34 && clk w)))
/-- Of the kind k: has it nothing else, and does what it has fit? -/
def fit (v : Va) (t : Int) : Bool :=
  if v.k = 1 then decide (v = ⟨v.k, v.i, 0, ⟨#[]⟩, wh0⟩) && (v.i == sgn (v.i % 18446744073709551616) (szP t)) else
  if v.k = 2 ∨ v.k = 3 ∨ v.k = 4 then decide (v = ⟨v.k, 0, v.b, ⟨#[]⟩, wh0⟩) && (v.b == uns v.b (szP t)) else
  if v.k = 5 then decide (v = ⟨v.k, 0, 0, ⟨#[]⟩, v.w⟩) && dtOk v.w t else
  if v.k = 6 then decide (v = ⟨v.k, 0, 0, ⟨#[]⟩, v.w⟩) && tmOk v.w else
  if v.k = 7 then decide (v = ⟨v.k, 0, 0, v.t, wh0⟩) && decide (v.t.size ≤ 16777216) else false
/-- May it be of a type that is known? -/
def mb (v : Va) (t : Int) (un : Bool) : Bool := decide (v = va0) || (decide (v.k = kdV t un) && fit v t)
/-- May it be? -/
def vOk (v : Va) (t : Int) (un : Bool) : Bool := decide (kdV t un ≠ -1) && mb v t un

/-! Bytes. -/
def clkB (w : Wh) : List Int := [w.h % 256, w.mi % 256, w.s % 256] ++ le w.mc 4
def datA (w : Wh) : List Int := le w.y 2 ++ ([w.mo % 256, w.d % 256] ++ clkB w)
def timA (w : Wh) : List Int := [if w.ng = true then 1 else 0] ++ (le w.d 4 ++ clkB w)
def datN (w : Wh) : Nat := if w = wh0 then 0 else if mid w = true then 4 else if w.mc = 0 then 7 else 11
def timN (w : Wh) : Nat := if w = wh0 then 0 else if w.mc = 0 then 8 else 12
def cntB (l : List Int) (n : Nat) : List Int := [(n : Int)] ++ l.take n
def vaB (v : Va) (t : Int) : List Int :=
  if v.k = 1 then le (uns (v.i % 18446744073709551616) (szP t)) (szP t).toNat else
  if v.k = 2 ∨ v.k = 3 ∨ v.k = 4 then le v.b (szP t).toNat else
  if v.k = 5 then cntB (datA v.w) (datN v.w) else
  if v.k = 6 then cntB (timA v.w) (timN v.w) else
  if v.k = 7 then txB v.t else []
/-- May its bytes be asked for? -/
def bOk (v : Va) (t : Int) (un : Bool) : Bool := vOk v t un && !((v.k == 0) && (t != 6))

/-! Reading. -/
def zer12 : List Int := [0, 0, 0, 0, 0, 0, 0, 0, 0, 0, 0, 0]
/-- What stands behind a first byte, in twelve bytes; how many bytes all of it has; the error. -/
def rdF (b : List Int) (ls : List Int) : List Int × Int × Int :=
  if (readFixed b 1).2 ≠ 0 then (zer12, 0, (readFixed b 1).2) else
  if ls.contains (readFixed b 1).1 = false then (zer12, 0, 5) else
  if (b.length : Int) < 1 + (readFixed b 1).1 then (zer12, 0, 4) else
  ((b.drop 1).take (readFixed b 1).1.toNat ++ zer12.drop (readFixed b 1).1.toNat, 1 + (readFixed b 1).1, 0)
def clkO (f : List Int) : Wh := ⟨false, 0, 0, 0, f.getD 0 0, f.getD 1 0, f.getD 2 0, val (f.drop 3) 4⟩
def datO (f : List Int) : Wh := { clkO (f.drop 4) with y := val f 2, mo := f.getD 2 0, d := f.getD 3 0 }
def timO (f : List Int) : Wh := { clkO (f.drop 5) with ng := f.getD 0 0 == 1, d := val (f.drop 1) 4 }
def dLs : List Int := [0, 4, 7, 11]
def tLs : List Int := [0, 8, 12]
def rdD (b : List Int) : Wh × Int × Int := (datO (rdF b dLs).1, (rdF b dLs).2.1, (rdF b dLs).2.2)
def rdT (b : List Int) : Wh × Int × Int := if 1 < (rdF b tLs).1.getD 0 0 then (wh0, 0, 5) else (timO (rdF b tLs).1, (rdF b tLs).2.1, (rdF b tLs).2.2)
def rdA (b : List Int) (t : Int) (un : Bool) : Va × Int × Int :=
  let k := kdV t un
  if k = 1 then (⟨k, sgn (readFixed b (szP t)).1 (szP t), 0, ⟨#[]⟩, wh0⟩, szP t, (readFixed b (szP t)).2) else
  if k = 2 ∨ k = 3 ∨ k = 4 then (⟨k, 0, (readFixed b (szP t)).1, ⟨#[]⟩, wh0⟩, szP t, (readFixed b (szP t)).2) else
  if k = 5 then (⟨k, 0, 0, ⟨#[]⟩, (rdD b).1⟩, (rdD b).2.1, (rdD b).2.2) else
  if k = 6 then (⟨k, 0, 0, ⟨#[]⟩, (rdT b).1⟩, (rdT b).2.1, (rdT b).2.2) else
  if k = 7 then (⟨k, 0, 0, (readText b).1, wh0⟩, (readText b).2.1, (readText b).2.2) else (va0, 0, 0)
def rdE (b : List Int) (t : Int) (un : Bool) : Int := if (rdA b t un).2.2 = 0 ∧ mb (rdA b t un).1 t un = false then 5 else (rdA b t un).2.2
def rdV (b : List Int) (t : Int) (un : Bool) : Va × Int × Int :=
  if kdV t un = -1 then (va0, 0, 2) else if rdE b t un ≠ 0 then (va0, 0, rdE b t un) else ((rdA b t un).1, (rdA b t un).2.1, 0)

/-! Texts. -/
def pad (x : Int) (n : Nat) : List UInt8 := List.replicate (n - (Lib.itoa x).length) 48 ++ Lib.itoa x
def minT (w : Wh) : List UInt8 := pad w.mi 2 ++ ([58] ++ (pad w.s 2 ++ (if w.mc = 0 then [] else [46] ++ pad w.mc 6)))
def dayT (w : Wh) : List UInt8 := pad w.y 4 ++ ([45] ++ (pad w.mo 2 ++ ([45] ++ pad w.d 2)))
def datT (w : Wh) (t : Int) : List UInt8 := dayT w ++ (if t = 10 then [] else [32] ++ (pad w.h 2 ++ ([58] ++ minT w)))
def timT (w : Wh) : List UInt8 := (if w.ng = true then [45] else []) ++ (pad (24 * w.d + w.h) 2 ++ ([58] ++ minT w))
def vaT (v : Va) (t : Int) : List UInt8 :=
  if v.k = 1 then Lib.itoa v.i else if v.k = 2 then Lib.itoa v.b else if v.k = 5 then datT v.w t else if v.k = 6 then timT v.w else v.t.data.toList
def hasT (k : Int) : Bool := !((k == -1) || ((k == 0) || ((k == 3) || (k == 4))))
def tOk (v : Va) (t : Int) (un : Bool) : Bool := vOk v t un && hasT v.k

/-! Texts read. -/
def atV (l : List UInt8) : Int := match Lib.atoiAll l with | .ok v => v | .syntax => 0 | .range => Lib.atoiSat l
def piV (l : List UInt8) : Int := match Lib.parseIntB 64 l with | .ok v => v | .syntax => 0 | .range => Lib.intSat 64 l
def puV (l : List UInt8) : Int := match Lib.parseUintB 64 l with | .ok v => (v : Int) | .syntax => 0 | .range => 18446744073709551615
def nxA (s : List UInt8) (n : Int) : Int := if n < 0 ∨ (s.length : Int) < n then 0 else atV (s.take n.toNat)
def nxS (s : List UInt8) (n : Int) : List UInt8 := if n < 0 ∨ (s.length : Int) < n then s else s.drop (n.toNat + 1)
def gsD (s : List UInt8) : Wh :=
  let s1 := nxS s 4
  let s2 := nxS s1 2
  let s3 := nxS s2 2
  let s4 := nxS s3 2
  let s5 := nxS s4 2
  let s6 := nxS s5 2
  ⟨false, nxA s 4, nxA s1 2, nxA s2 2, nxA s3 2, nxA s4 2, nxA s5 2, nxA s6 6⟩
def gsT (s : List UInt8) : Wh :=
  let p := Lib.trimPrefix s [45]
  let n := Lib.indexByte p 58
  let s1 := nxS p n
  let s2 := nxS s1 2
  let s3 := nxS s2 2
  ⟨Lib.hasPrefix s [45], 0, 0, Int.tdiv (nxA p n) 24, Int.tmod (nxA p n) 24, nxA s1 2, nxA s2 2, nxA s3 6⟩
def gsV (s : ByteArray) (t : Int) (un : Bool) : Va :=
  let k := kdV t un
  let l := s.data.toList
  if k = 1 then ⟨k, piV l, 0, ⟨#[]⟩, wh0⟩ else if k = 2 then ⟨k, 0, puV l, ⟨#[]⟩, wh0⟩ else
  if k = 5 then ⟨k, 0, 0, ⟨#[]⟩, gsD l⟩ else if k = 6 then ⟨k, 0, 0, ⟨#[]⟩, gsT l⟩ else if k = 7 then ⟨k, 0, 0, s, wh0⟩ else ⟨k, 0, 0, ⟨#[]⟩, wh0⟩
def ofV (s : ByteArray) (t : Int) (un : Bool) : Va × Int :=
  if hasT (kdV t un) = false then (va0, 2) else
  if mb (gsV s t un) t un = false ∨ vaT (gsV s t un) t ≠ s.data.toList then (va0, 5) else (gsV s t un, 0)

theorem kd_cases (t : Int) (un : Bool) : kdV t un = -1 ∨ kdV t un = 0 ∨ kdV t un = 1 ∨ kdV t un = 2 ∨ kdV t un = 3 ∨ kdV t un = 4 ∨ kdV t un = 5 ∨ kdV t un = 6 ∨ kdV t un = 7 := by
  unfold kdV
  repeat' split
  all_goals simp

end Go.Proofs.YtnodhdggafffaaaDoor
