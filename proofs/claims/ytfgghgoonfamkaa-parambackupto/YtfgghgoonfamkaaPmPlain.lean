/-
  Parameters as plain things: their data, which may be. No program and no memory is named here.
-/
import Derived.Test.YtfgghgoonfamkaaMPm
import Derived.Test.YtfgghgoonfamkaaVaBy3
import Derived.Test.YtfgghgoonfamkaaBitR
namespace Go.Proofs.Ytfgghgoonfamkaa
open Go.RowKit
set_option linter.unusedVariables false
set_option linter.unusedSimpArgs false

/-- May it be? -/
def pOk (p : Pa) : Bool := vOk p.v p.t.t p.t.un && !(p.lo && !(p.v.k == 0))
def plOk (l : List Pa) : Bool := l.all pOk
/-- Which bit is set. -/
def pnb (l : List Pa) (j : Nat) : Bool := match l[j]? with | some p => (p.v.k == 0) && !p.lo | none => false
structure Isp (l : List Pa) (nl : List Int) : Prop where
  len : nl.length = (l.length + 7) / 8
  byt : Byt nl
  bits : ∀ j, bit nl j = pnb l j
theorem Isp.one {l : List Pa} {a b : List Int} (h : Isp l a) (k : Isp l b) : a = b := bit_ext h.byt k.byt (by rw [h.len, k.len]) (fun j _ => by rw [h.bits, k.bits])
def ty2 (p : Pa) : List Int := [p.t.t, if p.t.un = true then 128 else 0]
def ptB (l : List Pa) : List Int := l.flatMap ty2
def va1 (p : Pa) : List Int := if p.v.k = 0 then [] else vaB p.v p.t.t
def pvB (l : List Pa) : List Int := l.flatMap va1
/-- The data of parameters that may be. -/
def paB (l : List Pa) (bd : Bool) (nl : List Int) : List Int := if l = [] then [] else nl ++ ([if bd = true then 1 else 0] ++ ((if bd = true then ptB l else []) ++ pvB l))
theorem take_1 {α : Type} {l : List α} {j : Nat} {v : α} (h : l[j]? = some v) : l.take (j + 1) = l.take j ++ [v] := by
  rw [List.take_add_one, h]; rfl
theorem ptB_next {l : List Pa} {j : Nat} {p : Pa} (h : l[j]? = some p) : ptB (l.take (j + 1)) = ptB (l.take j) ++ ty2 p := by
  rw [take_1 h]
  unfold ptB
  rw [List.flatMap_append]
  simp
theorem pvB_next {l : List Pa} {j : Nat} {p : Pa} (h : l[j]? = some p) : pvB (l.take (j + 1)) = pvB (l.take j) ++ va1 p := by
  rw [take_1 h]
  unfold pvB
  rw [List.flatMap_append]
  simp
theorem plOk_next {l : List Pa} {j : Nat} {p : Pa} (h : l[j]? = some p) : plOk (l.take (j + 1)) = (plOk (l.take j) && pOk p) := by
  rw [take_1 h]
  unfold plOk
  rw [List.all_append]
  simp
theorem plOk_no {l : List Pa} {j : Nat} {p : Pa} (h : l[j]? = some p) (hp : pOk p = false) : plOk l = false := by
  unfold plOk
  rw [List.all_eq_false]
  exact ⟨p, List.mem_of_getElem? h, by rw [hp]; decide⟩
theorem plOk_at {l : List Pa} (h : plOk l = true) {p : Pa} (hp : p ∈ l) : pOk p = true := by
  unfold plOk at h
  exact List.all_eq_true.1 h p hp
theorem ptB_len : ∀ l : List Pa, (ptB l).length = 2 * l.length
  | [] => rfl
  | p :: l => by
    have ih := ptB_len l
    show (ty2 p ++ ptB l).length = _
    rw [List.length_append, ih, List.length_cons]
    show 2 + _ = _
    omega
theorem va1_len (p : Pa) : (va1 p).length ≤ p.v.t.size + 20 := by
  unfold va1
  split
  · simp
  · exact vaB_len p.v p.t.t
def psm (l : List Pa) : Nat := (l.map fun p => p.v.t.size).sum
theorem pvB_sm : ∀ l : List Pa, (pvB l).length ≤ psm l + 20 * l.length
  | [] => by simp [pvB]
  | p :: l => by
    have h1 := va1_len p
    have ih := pvB_sm l
    show (va1 p ++ pvB l).length ≤ (p.v.t.size + psm l) + _
    rw [List.length_append, List.length_cons]
    omega
theorem psm_in : ∀ {l : List Pa} {p : Pa}, p ∈ l → p.v.t.size ≤ psm l
  | [], p, h => by cases h
  | a :: l, p, h => by
    show _ ≤ a.v.t.size + psm l
    rcases List.mem_cons.1 h with h | h
    · subst h; omega
    · have := psm_in h; omega
theorem psm_next {l : List Pa} {j : Nat} {p : Pa} (h : l[j]? = some p) : psm (l.take (j + 1)) = psm (l.take j) + p.v.t.size := by
  rw [take_1 h]
  unfold psm
  simp
theorem psm_take (l : List Pa) (j : Nat) : psm (l.take j) ≤ psm l := by
  have h : psm (l.take j) + psm (l.drop j) = psm l := by
    unfold psm
    rw [← List.sum_append_nat, ← List.map_append, List.take_append_drop]
  omega
theorem psm_le : ∀ {l : List Pa}, (∀ p ∈ l, p.v.t.size ≤ 1099511627776) → psm l ≤ 1099511627776 * l.length
  | [], _ => by simp [psm]
  | p :: l, h => by
    have h1 := h p (by simp)
    have ih := psm_le (l := l) (fun x hx => h x (by simp [hx]))
    show p.v.t.size + psm l ≤ _
    rw [List.length_cons]
    omega
theorem pnb_next {l : List Pa} {i : Nat} {p : Pa} (h : l[i]? = some p) (j : Nat) : pnb (l.take (i + 1)) j = (pnb (l.take i) j || (((p.v.k == 0) && !p.lo) && decide (j = i))) := by
  unfold pnb
  have hi := (List.getElem?_eq_some_iff.1 h).1
  by_cases hj : j = i
  · subst hj
    rw [List.getElem?_take_of_lt (by omega), h, List.getElem?_take_eq_none (by omega)]
    simp
  · rcases Nat.lt_or_ge j i with q | q
    · rw [List.getElem?_take_of_lt (by omega), List.getElem?_take_of_lt q]
      simp [hj]
    · rw [List.getElem?_take_eq_none (by omega), List.getElem?_take_eq_none q]
      simp [hj]
theorem pb_some {v : Va} {t : Int} {un : Bool} (h : vOk v t un = true) (hk : ¬ v.k = 0) : bOk v t un = true := by
  unfold bOk
  rw [h]
  have : (v.k == 0) = false := by simpa using hk
  rw [this]
  rfl


end Go.Proofs.Ytfgghgoonfamkaa
