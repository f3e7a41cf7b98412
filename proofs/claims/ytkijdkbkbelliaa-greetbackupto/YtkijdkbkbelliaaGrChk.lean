/-
  What Check of package scramble and of the document's own answer return. They write nothing. Conditions: the slice can be read.
-/
import Derived.Test.YtkijdkbkbelliaaBMem
namespace Go.Proofs.Ytkijdkbkbelliaa
open Go.RowKit
set_option linter.unusedVariables false
set_option linter.unusedSimpArgs false

def okb (x : Int) : Bool := !(x == 0 || x == 36)

/-- What Check answers. -/
def nck (l : List Int) : Int := if l.length = 20 ∧ l.all okb = true then 0 else 2

theorem nck_of {l : List Int} (h : l.length = 20) (k : l.all okb = true) : nck l = 0 := by unfold nck; rw [if_pos ⟨h, k⟩]

theorem nck_len {l : List Int} (h : ¬ l.length = 20) : nck l = 2 := by unfold nck; rw [if_neg (fun q => h q.1)]

theorem nck_at {l : List Int} {j : Nat} (hj : j < l.length) (h : okb (l[j]?.getD 0) = false) : nck l = 2 := by
  unfold nck
  rw [if_neg]
  intro q
  have := List.all_eq_true.1 q.2 l[j] (List.getElem_mem hj)
  simp only [List.getElem?_eq_getElem hj, Option.getD_some] at h
  rw [h] at this
  cases this

theorem all_next {l : List Int} {j : Nat} (hj : j < l.length) (h : (l.take j).all okb = true) (k : okb (l[j]?.getD 0) = true) : (l.take (j + 1)).all okb = true := by
  rw [List.take_add_one, List.all_append, h, List.getElem?_eq_getElem hj]
  simp only [List.getElem?_eq_getElem hj, Option.getD_some] at k
  simp [k]

set_option maxHeartbeats 1000000 in
theorem check_any (bo : Option Addr) (bn bc : Nat) (ns : List Int) (w : World) (h : Bs w bo bn bc ns) :
    Calls Try.prog 130 #[.slice bo bn bc] w fun e w' => e = .returned (.int .i64 (nck ns)) ∧ w' = w := by
  have hlen := h.len
  have hle := h.le
  have hmx := h.max
  by_cases h20 : bn = 20
  · subst h20
    obtain ⟨R, hR⟩ : ∃ R, R = nck ns := ⟨_, rfl⟩
    rw [← hR]
    have HR := hide hR
    have H := hide h
    have HL := hide hlen
    clear h hlen hR
    go_enter Try.func130, Try.ntmps130
    go_wp2_with fail
    go_loop [10] (fun i => ∃ (j : Nat), j ≤ 20 ∧ i = .int .i64 j ∧ (ns.take j).all okb = true) (fun i => 20 - (intOf i).toNat)
    case atStart => exact ⟨0, by omega, rfl, rfl⟩
    case round =>
      obtain ⟨j, hj, rfl, ha⟩ := hrel
      by_cases hlt : j < 20
      · obtain ⟨pb, po, hix, hcx⟩ := (unhide H).idx hlt (j : Int) rfl
        by_cases hk : okb (ns[j]?.getD 0) = true
        · have hn := hide (all_next (by rw [unhide HL]; exact hlt) ha hk)
          have e1 : (ns[j]?.getD 0 == 0) = false := by unfold okb at hk; cases q : (ns[j]?.getD 0 == 0) <;> simp_all
          have e2 : (ns[j]?.getD 0 == 36) = false := by unfold okb at hk; cases q : (ns[j]?.getD 0 == 36) <;> simp_all
          generalize ns[j]?.getD 0 = X at *
          clear ha hk
          go_wp2_with fail
          go_round
          case rel => exact ⟨j + 1, by omega, by go_num, unhide hn⟩
          case measure => simp [intOf]; omega
        · have hk' : okb (ns[j]?.getD 0) = false := by simpa using hk
          have hno := hide (show R = 2 by rw [unhide HR]; exact nck_at (by rw [unhide HL]; exact hlt) hk')
          have hor : ns[j]?.getD 0 = 0 ∨ ns[j]?.getD 0 = 36 := by unfold okb at hk'; simp at hk'; omega
          clear ha hk hk'
          generalize ns[j]?.getD 0 = X at *
          rcases hor with rfl | rfl
          · go_wp2_with fail
            go_ret
            exact ⟨by rw [unhide hno]; rfl, rfl⟩
          · go_wp2_with fail
            go_ret
            exact ⟨by rw [unhide hno]; rfl, rfl⟩
      · have hjn : j = 20 := by omega
        subst hjn
        rw [List.take_of_length_le (by rw [unhide HL]; omega)] at ha
        have hyes := hide (show R = 0 by rw [unhide HR]; exact nck_of (unhide HL) ha)
        clear ha
        go_wp2_with fail
        go_ret
        exact ⟨by rw [unhide hyes]; rfl, rfl⟩
  · rw [nck_len (by omega)]
    have h20' : ((bn : Int) != 20) = true := by simp; omega
    clear h hlen h20
    go_enter Try.func130, Try.ntmps130
    go_wp2_with fail
    go_ret
    exact ⟨rfl, rfl⟩


end Go.Proofs.Ytkijdkbkbelliaa
