/-
  The packets of logins as plain things, and what reading them answers, field by field.
-/
import Derived.Test.YtkijdkbkbelliaaGpRw
namespace Go.Proofs.Ytkijdkbkbelliaa
open Go.RowKit
set_option linter.unusedVariables false
set_option linter.unusedSimpArgs false

/-- A switch. -/
structure Sw where
  pl : ByteArray
  no : List Int
/-- A greeting. -/
structure Gr where
  ve : ByteArray
  th : Int
  no : List Int
  ca : Int
  ch : Int
  st : Int
  pl : ByteArray
/-- An answer. -/
structure An where
  ca : Int
  mo : Int
  ch : Int
  us : ByteArray
  re : List Int
  sc : ByteArray
  pl : ByteArray
  at' : List At
/-- A change of user. -/
structure Cu where
  us : ByteArray
  re : List Int
  sc : ByteArray
  ch : Int
  pl : ByteArray
  at' : List At

/-- A switch is read. -/
def swQ (b : List Int) : Sw × FS :=
  let s1 := maS ⟨b, 0⟩ 254
  let s2 := enS s1
  (⟨enA s1, tkA s2 20⟩, edS (zeS (noS s2 20) 1))
def swR (b : List Int) : Sw × Int := if (swQ b).2.e = 0 then ((swQ b).1, 0) else (⟨⟨#[]⟩, []⟩, (swQ b).2.e)
/-- A change of user is read. -/
def cuQ (b : List Int) (c : Int) : Cu × FS :=
  let s2 := waS (maS ⟨b, 0⟩ 17) (cor c)
  let s3 := enS s2
  let s4 := shS s3
  let s5 := waS (enS s4) (mby c 8 (enA s4))
  let s6 := fxS s5 2
  let s7 := plS s6 c
  (⟨enA s2, shA s3, enA s4, fxA s5 2, plA s6 c, atA s7 c⟩, edS (atS s7 c))
def cuR (b : List Int) (c : Int) : Cu × Int := if (cuQ b c).2.e = 0 then ((cuQ b c).1, 0) else (⟨⟨#[]⟩, [], ⟨#[]⟩, 0, ⟨#[]⟩, []⟩, (cuQ b c).2.e)
/-- An answer's response, and the state behind it. -/
def rsA (s : FS) (c : Int) : List Int := if has c 2097152 = true then nums (txA s) else shA s
def rsS (s : FS) (c : Int) : FS := if has c 2097152 = true then waS (txS s) (decide ((txA s).size ≤ 255)) else shS s
/-- An answer's schema. -/
def scA (s : FS) (c : Int) : ByteArray := if has c 8 = true then enA s else ⟨#[]⟩
def scS (s : FS) (c : Int) : FS := if has c 8 = true then enS s else s
/-- An answer is read. -/
def anQ (b : List Int) : An × FS :=
  let c := fxA ⟨b, 0⟩ 4
  let s2 := waS (fxS ⟨b, 0⟩ 4) (cor c)
  let s3 := fxS s2 4
  let s5 := zeS (fxS s3 1) 23
  let s6 := enS s5
  let s7 := rsS s6 c
  let s8 := scS s7 c
  let s9 := plS s8 c
  (⟨c, fxA s2 4, fxA s3 1, enA s5, rsA s6 c, scA s7 c, plA s8 c, atA s9 c⟩, edS (atS s9 c))
def anR (b : List Int) : An × Int := if (anQ b).2.e = 0 then ((anQ b).1, 0) else (⟨0, 0, 0, ⟨#[]⟩, [], ⟨#[]⟩, ⟨#[]⟩, []⟩, (anQ b).2.e)
/-- A greeting is read. -/
def grQ (b : List Int) : Gr × FS :=
  let s1 := maS ⟨b, 0⟩ 10
  let s2 := enS s1
  let s3 := fxS s2 4
  let s5 := zeS (noS s3 8) 1
  let s7 := waS (fxS s5 2) (cor (fxA s5 2))
  let s8 := fxS s7 1
  let s9 := fxS s8 2
  let s10 := fxS s9 2
  let c := bits .or .u32 (fxA s5 2) (fxA s9 2 * 65536)
  let s12 := zeS (waS (fxS s10 1) (fxA s10 1 == nsz c)) 10
  let s14 := zeS (noS s12 12) 1
  (⟨enA s1, fxA s2 4, tkA s3 8 ++ tkA s12 12, c, fxA s7 1, fxA s8 2, plA s14 c⟩, edS (plS s14 c))
def grR (b : List Int) : Gr × Int := if (grQ b).2.e = 0 then ((grQ b).1, 0) else (⟨⟨#[]⟩, 0, [], 0, 0, 0, ⟨#[]⟩⟩, (grQ b).2.e)

/-- What a reader of a packet leaves. -/
def OutSw (w : World) (R : Sw × Int) (e : Ending) (w' : World) : Prop := ∃ xo xn xc, e = .returned (.tuple #[.agg #[.string R.1.pl, .slice xo xn xc], .int .i64 R.2]) ∧ Bs w' xo xn xc R.1.no ∧ Below w.heap.size w w'
def OutCu (w : World) (R : Cu × Int) (e : Ending) (w' : World) : Prop := ∃ xo xn xc yo yn yc, e = .returned (.tuple #[.agg #[.string R.1.us, .slice xo xn xc, .string R.1.sc, .int .u16 R.1.ch, .string R.1.pl, .slice yo yn yc], .int .i64 R.2]) ∧ Bs w' xo xn xc R.1.re ∧ As w' yo yn yc R.1.at' ∧ Below w.heap.size w w'
def OutAn (w : World) (R : An × Int) (e : Ending) (w' : World) : Prop := ∃ xo xn xc yo yn yc, e = .returned (.tuple #[.agg #[.int .u32 R.1.ca, .int .u32 R.1.mo, .int .u8 R.1.ch, .string R.1.us, .slice xo xn xc, .string R.1.sc, .string R.1.pl, .slice yo yn yc], .int .i64 R.2]) ∧ Bs w' xo xn xc R.1.re ∧ As w' yo yn yc R.1.at' ∧ Below w.heap.size w w'
def OutGr (w : World) (R : Gr × Int) (e : Ending) (w' : World) : Prop := ∃ xo xn xc, e = .returned (.tuple #[.agg #[.string R.1.ve, .int .u32 R.1.th, .slice xo xn xc, .int .u32 R.1.ca, .int .u8 R.1.ch, .int .u16 R.1.st, .string R.1.pl], .int .i64 R.2]) ∧ Bs w' xo xn xc R.1.no ∧ Below w.heap.size w w'

theorem drew_row {w : World} {g : Nat} {o : Obj} (h : w.heap[g]? = some o) : w.drew.heap[g]? = some o := h

end Go.Proofs.Ytkijdkbkbelliaa
