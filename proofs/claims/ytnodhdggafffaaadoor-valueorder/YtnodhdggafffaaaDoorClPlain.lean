/-
  Columns as plain things: what types are called; what reading a column answers, field by field; its bytes; a count's. No program and no memory is named here.
-/
import Derived.Test.YtnodhdggafffaaaDoorRyBack
namespace Go.Proofs.YtnodhdggafffaaaDoor
open Go.RowKit
set_option linter.unusedVariables false
set_option linter.unusedSimpArgs false

/-- What a known type is called: nothing, if it is none. -/
def knS (t : Int) : ByteArray :=
  if t = 0 then ⟨#[100, 101, 99, 105, 109, 97, 108]⟩ else
  if t = 1 then ⟨#[116, 105, 110, 121]⟩ else
  if t = 2 then ⟨#[115, 104, 111, 114, 116]⟩ else
  if t = 3 then ⟨#[108, 111, 110, 103]⟩ else
  if t = 4 then ⟨#[102, 108, 111, 97, 116]⟩ else
  if t = 5 then ⟨#[100, 111, 117, 98, 108, 101]⟩ else
  if t = 6 then ⟨#[110, 117, 108, 108]⟩ else
  if t = 7 then ⟨#[116, 105, 109, 101, 115, 116, 97, 109, 112]⟩ else
  if t = 8 then ⟨#[108, 111, 110, 103, 45, 108, 111, 110, 103]⟩ else
  if t = 9 then ⟨#[105, 110, 116, 50, 52]⟩ else
  if t = 10 then ⟨#[100, 97, 116, 101]⟩ else
  if t = 11 then ⟨#[116, 105, 109, 101]⟩ else
  if t = 12 then ⟨#[100, 97, 116, 101, 45, 116, 105, 109, 101]⟩ else
  if t = 13 then ⟨#[121, 101, 97, 114]⟩ else
  if t = 15 then ⟨#[118, 97, 114, 45, 99, 104, 97, 114]⟩ else
  if t = 16 then ⟨#[98, 105, 116]⟩ else
  if t = 245 then ⟨#[106, 115, 111, 110]⟩ else
  if t = 246 then ⟨#[110, 101, 119, 45, 100, 101, 99, 105, 109, 97, 108]⟩ else
  if t = 247 then ⟨#[101, 110, 117, 109]⟩ else
  if t = 248 then ⟨#[115, 101, 116]⟩ else
  if t = 249 then ⟨#[116, 105, 110, 121, 45, 98, 108, 111, 98]⟩ else
  if t = 250 then ⟨#[109, 101, 100, 105, 117, 109, 45, 98, 108, 111, 98]⟩ else
  if t = 251 then ⟨#[108, 111, 110, 103, 45, 98, 108, 111, 98]⟩ else
  if t = 252 then ⟨#[98, 108, 111, 98]⟩ else
  if t = 253 then ⟨#[118, 97, 114, 45, 115, 116, 114, 105, 110, 103]⟩ else
  if t = 254 then ⟨#[115, 116, 114, 105, 110, 103]⟩ else
  if t = 255 then ⟨#[103, 101, 111, 109, 101, 116, 114, 121]⟩ else
  ⟨#[]⟩
/-- Is it known? -/
def kn (t : Int) : Bool := (knS t).size != 0

/-- A column. -/
structure Co where
  sc : ByteArray
  ta : ByteArray
  ot : ByteArray
  na : ByteArray
  on : ByteArray
  ch : Int
  le : Int
  ty : Int
  fl : Int
  de : Int
/-- Numbers are within their kinds. -/
structure CoK (p : Co) : Prop where
  ch : 0 ≤ p.ch ∧ p.ch < 65536
  le : 0 ≤ p.le ∧ p.le < 4294967296
  ty : 0 ≤ p.ty ∧ p.ty < 256
  fl : 0 ≤ p.fl ∧ p.fl < 65536
  de : 0 ≤ p.de ∧ p.de < 256

/-- Is a text 'def'? -/
def isDef (s : ByteArray) : Bool := s.toList == [100, 101, 102]
/-- A text of a column: at most 255 bytes. -/
def ctS (s : FS) : FS := waS (txS s) (decide ((txA s).size ≤ 255))
/-- A column is read. -/
def coQ (b : List Int) : Co × FS :=
  let s1 := txS ⟨b, 0⟩
  let s2 := waS s1 (isDef (txA ⟨b, 0⟩))
  let s3 := ctS s2
  let s4 := ctS s3
  let s5 := ctS s4
  let s6 := ctS s5
  let s7 := ctS s6
  let s8 := maS s7 12
  let s9 := fxS s8 2
  let s10 := fxS s9 4
  let s11 := fxS s10 1
  let s12 := waS s11 (kn (fxA s10 1))
  let s13 := fxS s12 2
  let s14 := fxS s13 1
  let s15 := waS (fxS s14 2) (fxA s14 2 == 0)
  (⟨txA s2, txA s3, txA s4, txA s5, txA s6, fxA s8 2, fxA s9 4, fxA s10 1, fxA s12 2, fxA s13 1⟩, edS s15)
def co0 : Co := ⟨⟨#[]⟩, ⟨#[]⟩, ⟨#[]⟩, ⟨#[]⟩, ⟨#[]⟩, 0, 0, 0, 0, 0⟩
def coR (b : List Int) : Co × Int := if (coQ b).2.e = 0 then ((coQ b).1, 0) else (co0, (coQ b).2.e)
/-- May it be? -/
def cOk (p : Co) : Bool := kn p.ty && (decide (p.sc.size ≤ 255) && (decide (p.ta.size ≤ 255) && (decide (p.ot.size ≤ 255) && (decide (p.na.size ≤ 255) && decide (p.on.size ≤ 255)))))
/-- Its bytes. -/
def defB : List Int := [3, 100, 101, 102]
def coB (p : Co) : List Int := defB ++ (txB p.sc ++ (txB p.ta ++ (txB p.ot ++ (txB p.na ++ (txB p.on ++ ([12] ++ (le p.ch 2 ++ (le p.le 4 ++ ([p.ty] ++ (le p.fl 2 ++ [p.de, 0, 0]))))))))))
/-- How many columns come: what reading answers. -/
def nOk (n : Int) : Bool := decide (1 ≤ n ∧ n ≤ 4096)
def ctR (b : List Int) : Int × Int := if (readInt b).2.2 ≠ 0 then (0, (readInt b).2.2) else if nOk (readInt b).1 = true ∧ (readInt b).2.1 = ((form (readInt b).1).length : Int) ∧ (readInt b).2.1 = (b.length : Int) then ((readInt b).1, 0) else (0, 5)

theorem ctS_le (s : FS) : (ctS s).b.length ≤ s.b.length := Nat.le_trans (waS_le _ _) (txS_le _)
theorem knS_len' : ∀ k : Fin 256, (knS (k.val : Int)).size ≤ 20 := by decide +kernel
theorem knS_len {t : Int} (h0 : 0 ≤ t) (h1 : t < 256) : (knS t).size ≤ 20 := by
  obtain ⟨N, rfl⟩ := Int.eq_ofNat_of_zero_le h0
  exact knS_len' ⟨N, by omega⟩

end Go.Proofs.YtnodhdggafffaaaDoor
