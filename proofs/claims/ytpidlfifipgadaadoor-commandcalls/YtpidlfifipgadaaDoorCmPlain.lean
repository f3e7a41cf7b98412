/-
  Commands as plain things: the fields that stand behind a kind, a command without one of them, whether it may be. No program and no memory is named here.
-/
import Derived.Test.YtpidlfifipgadaaDoorLenPlain
import Derived.Test.YtpidlfifipgadaaDoorSlices
import Derived.Lib.BytesEntry
namespace Go.Proofs.YtpidlfifipgadaaDoor
set_option linter.unusedVariables false
set_option linter.unusedSimpArgs false

/-- The fields that stand behind a kind: 0 Text, 1 Stmt, 2 Param, 3 Flags, 4 the four bytes, 5 Count, 6 Option, 7 Data. -/
def fl (k : Int) : List Int :=
  if k = 1 ∨ k = 9 ∨ k = 14 ∨ k = 31 then [] else if k = 2 ∨ k = 3 ∨ k = 22 then [0] else if k = 12 then [5] else if k = 23 then [1, 3, 4, 7]
  else if k = 24 then [1, 2, 7] else if k = 25 ∨ k = 26 then [1] else if k = 27 then [6] else if k = 28 then [1, 5] else [7]
theorem fl_cases (k : Int) : fl k = [] ∨ fl k = [0] ∨ fl k = [5] ∨ fl k = [1, 3, 4, 7] ∨ fl k = [1, 2, 7] ∨ fl k = [1] ∨ fl k = [6] ∨ fl k = [1, 5] ∨ fl k = [7] := by
  unfold fl
  split
  · simp
  · split
    · simp
    · split
      · simp
      · split
        · simp
        · split
          · simp
          · split
            · simp
            · split
              · simp
              · split <;> simp
theorem fl_len (k : Int) : (fl k).length ≤ 4 := by rcases fl_cases k with h | h | h | h | h | h | h | h | h <;> rw [h] <;> decide
theorem fl_in (k : Int) : ∀ F ∈ fl k, 0 ≤ F ∧ F ≤ 7 := by
  rcases fl_cases k with h | h | h | h | h | h | h | h | h <;> rw [h] <;> decide
theorem fl_at (k : Int) (i : Nat) (h : i < (fl k).length) : 0 ≤ (fl k)[i]?.getD 0 ∧ (fl k)[i]?.getD 0 ≤ 7 := by
  rw [List.getElem?_eq_getElem h]
  exact fl_in k _ (List.getElem_mem h)

/-- A command, its Data as it lies in memory. -/
structure Cd where
  k : Int
  t : ByteArray
  s : Int
  p : Int
  f : Int
  n : Int
  o : Int
  ao : Option Addr
  dn : Nat
  dc : Nat
def Cd.row (c : Cd) : Array Value := #[.int .u8 c.k, .string c.t, .int .u32 c.s, .int .u16 c.p, .int .u8 c.f, .int .u32 c.n, .int .u16 c.o, .slice c.ao c.dn c.dc]
/-- A command with nothing in a field. -/
def wo (c : Cd) (F : Int) : Cd :=
  if F = 0 then { c with t := ⟨#[]⟩ } else if F = 1 then { c with s := 0 } else if F = 2 then { c with p := 0 } else if F = 3 then { c with f := 0 }
  else if F = 5 then { c with n := 0 } else if F = 6 then { c with o := 0 } else if F = 7 then { c with ao := none, dn := 0, dc := 0 } else c
theorem ba_nil {t : ByteArray} (h : t.toList = []) : t = ⟨#[]⟩ := by
  obtain ⟨d⟩ := t
  rw [ByteArray.toList_eq] at h
  simp at h
  rw [h]
/-- It has nothing but its kind. -/
def bare (c : Cd) : Bool := decide (c.t.toList = []) && ((c.s == 0) && ((c.p == 0) && ((c.f == 0) && ((c.n == 0) && ((c.o == 0) && decide (c.dn = 0))))))
/-- Check. -/
def ckC (c : Cd) : Int := if c.f > 1 then 2 else if bare ((fl c.k).foldl wo c) = true then 0 else 2

/-- A command. -/
structure Cm where
  k : Int
  t : ByteArray
  s : Int
  p : Int
  f : Int
  n : Int
  o : Int
  d : List Int
/-- In memory, with its Data there. -/
def Cm.cd (c : Cm) (ao : Option Addr) (dn dc : Nat) : Cd := ⟨c.k, c.t, c.s, c.p, c.f, c.n, c.o, ao, dn, dc⟩
/-- Its numbers fit. -/
structure Cm.ok (c : Cm) : Prop where
  k : 0 ≤ c.k ∧ c.k ≤ 255
  s : 0 ≤ c.s ∧ c.s < 4294967296
  p : 0 ≤ c.p ∧ c.p < 65536
  f : 0 ≤ c.f ∧ c.f ≤ 255
  n : 0 ≤ c.n ∧ c.n < 4294967296
  o : 0 ≤ c.o ∧ c.o < 65536
  d : Byt c.d
/-- The bytes of a field. -/
def fb (c : Cm) (F : Int) : List Int :=
  if F = 0 then nums c.t else if F = 1 then le c.s 4 else if F = 2 then le c.p 2 else if F = 3 then [c.f] else if F = 4 then le 1 4
  else if F = 5 then le c.n 4 else if F = 6 then le c.o 2 else if F = 7 then c.d else []
/-- A command's bytes. -/
def cmB (c : Cm) : List Int := c.k :: (fl c.k).flatMap (fb c)
/-- May it be? -/
def ckB (c : Cm) : Bool := decide (ckC (c.cd none c.d.length 0) = 0)

/-- The kind's names, answers and whether it is about a statement. -/
def abt (k : Int) : Bool := (k == 23) || ((k == 24) || ((k == 25) || ((k == 26) || (k == 28))))

end Go.Proofs.YtpidlfifipgadaaDoor
