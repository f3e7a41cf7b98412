/-
  What SameWords of the statements' helpers returns for any words: whether they are the same, with their places or without. It writes nothing. Conditions: none but that the slices can be read.
-/
import Derived.Test.YtjbgkgkgpigikaaDoorWdMem
import Derived.Test.YtjbgkgkgpigikaaDoorSameT
import Derived.BigQuiet
namespace Go.Proofs.YtjbgkgkgpigikaaDoor
open Go.RowKit
set_option linter.unusedVariables false
set_option linter.unusedSimpArgs false

/-- A word, its place counted or not. -/
def nrm (pl : Bool) (x : Wd) : Wd := if pl then x else ⟨x.k, x.tx, 0⟩
def sw (pl : Bool) (a b : List Wd) : Bool := decide (a.map (nrm pl) = b.map (nrm pl))
theorem sw_len {pl : Bool} {a b : List Wd} (h : a.length ≠ b.length) : sw pl a b = false := by
  simp only [sw, decide_eq_false_iff_not]
  intro e
  exact h (by simpa using congrArg List.length e)
theorem sw_at {pl : Bool} {a b : List Wd} {i : Nat} {x y : Wd} (h1 : a[i]? = some x) (h2 : b[i]? = some y) (h : nrm pl x ≠ nrm pl y) : sw pl a b = false := by
  simp only [sw, decide_eq_false_iff_not]
  intro e
  have := congrArg (·[i]?) e
  simp only [List.getElem?_map, h1, h2, Option.map_some, Option.some.injEq] at this
  exact h this
theorem sw_eq {pl : Bool} {a b : List Wd} (h : a.length = b.length) (k : ∀ (i : Nat) (x y : Wd), a[i]? = some x → b[i]? = some y → nrm pl x = nrm pl y) : sw pl a b = true := by
  simp only [sw, decide_eq_true_eq]
  apply List.ext_getElem?
  intro i
  simp only [List.getElem?_map]
  cases h1 : a[i]? with
  | none =>
    have : b[i]? = none := by
      rw [List.getElem?_eq_none_iff] at h1 ⊢
      omega
    rw [this]
  | some x =>
    cases h2 : b[i]? with
    | none =>
      rw [List.getElem?_eq_none_iff] at h2
      have := (List.getElem?_eq_some_iff.1 h1).1
      omega
    | some y => simp [k i x y h1 h2]
theorem atW_c {w : World} {b o : Nat} {p : Wd} (h : AtW w b o p) : w.cell? ⟨b, o, none⟩ = some (.int .i64 p.k) ∧ w.cell? ⟨b, o + 1, none⟩ = some (.string p.tx) ∧ w.cell? ⟨b, o + 2, none⟩ = some (.int .i64 p.at') := ⟨h 0 (by decide), h 1 (by decide), h 2 (by decide)⟩

set_option maxHeartbeats 2000000 in
set_option maxRecDepth 20000 in
theorem sameWords_any (pl : Bool) (ao : Option Addr) (n c : Nat) (xs : List Wd) (bo : Option Addr) (m d : Nat) (ys : List Wd) (w : World) (h : Wds w ao n c xs) (k : Wds w bo m d ys) :
    Calls Tryd.prog 7 #[.slice ao n c, .slice bo m d, .bool pl] w fun e w' => e = .returned (.bool (sw pl xs ys)) ∧ Below w.heap.size w w' := by
  have hmax := h.max
  have hle := h.le
  have kmax := k.max
  have kle := k.le
  have hl := hide h.len
  have kl := hide k.len
  have H := hide h
  have K := hide k
  clear h k
  obtain ⟨R, hR⟩ : ∃ R, R = sw pl xs ys := ⟨_, rfl⟩
  rw [← hR]
  have HR := hide hR
  clear hR
  by_cases hne : (n : Int) = (m : Int)
  · have hnm : n = m := by omega
    subst hnm
    clear hne
    go_enter Tryd.func7, Tryd.ntmps7
    go_wp2_with fail
    go_loopw [7] (fun i wr => ∃ j : Nat, j ≤ n ∧ i = .int .i64 j ∧ (∀ (t : Nat) (x y : Wd), t < j → xs[t]? = some x → ys[t]? = some y → nrm pl x = nrm pl y) ∧ Below w.heap.size w wr) (fun i _ => n - (intOf i).toNat)
    case atStart => exact ⟨0, by omega, rfl, fun t x y ht => by omega, Below.refl _ _⟩
    case round =>
      obtain ⟨j, hj, rfl, hsame, hbel⟩ := hrel
      have HSM := hide hsame
      clear hsame
      by_cases hlt : j < n
      · have hx : xs[j]? = some (xs[j]'(by rw [unhide hl]; exact hlt)) := List.getElem?_eq_getElem _
        have hy : ys[j]? = some (ys[j]'(by rw [unhide kl]; exact hlt)) := List.getElem?_eq_getElem _
        obtain ⟨b1, o1, i1, a1⟩ := ((unhide H).later hbel).idx hx (j : Int) rfl
        obtain ⟨b2, o2, i2, a2⟩ := ((unhide K).later hbel).idx hy (j : Int) rfl
        generalize xs[j]'(by rw [unhide hl]; exact hlt) = X at *
        generalize ys[j]'(by rw [unhide kl]; exact hlt) = Y at *
        obtain ⟨p0, p1, p2⟩ := atW_c a1
        obtain ⟨q0, q1, q2⟩ := atW_c a2
        obtain ⟨xk, xt, xa⟩ := X
        obtain ⟨yk, yt, ya⟩ := Y
        simp only at p0 p1 p2 q0 q1 q2
        have HX := hide hx
        have HY := hide hy
        clear hx hy a1 a2
        by_cases hk : xk = yk
        · subst hk
          by_cases he : xt = yt
          · subst he
            cases pl with
            | false =>
              go_wp2_with fail
              go_quiet (fail)
              go_wp2_with fail
              go_roundw
              case rel =>
                refine ⟨j + 1, by omega, by go_num, fun t x y ht e1 e2 => ?_, below_drewN hbel nq⟩
                by_cases htj : t = j
                · subst htj
                  rw [unhide HX] at e1
                  rw [unhide HY] at e2
                  cases e1
                  cases e2
                  rfl
                · exact unhide HSM t x y (by omega) e1 e2
              case measure => simp [intOf]; omega
            | true =>
              by_cases ha : xa = ya
              · subst ha
                go_wp2_with fail
                go_quiet (fail)
                go_wp2_with fail
                go_roundw
                case rel =>
                  refine ⟨j + 1, by omega, by go_num, fun t x y ht e1 e2 => ?_, below_drewN hbel nq⟩
                  by_cases htj : t = j
                  · subst htj
                    rw [unhide HX] at e1
                    rw [unhide HY] at e2
                    cases e1
                    cases e2
                    rfl
                  · exact unhide HSM t x y (by omega) e1 e2
                case measure => simp [intOf]; omega
              · have hd := hide (sw_at (pl := true) (unhide HX) (unhide HY) (by simp [nrm, ha]))
                have ha' : (xa != ya) = true := by simpa using ha
                go_wp2_with fail
                go_quiet (fail)
                go_wp2_with fail
                go_ret
                exact ⟨by rw [unhide HR, unhide hd]; rfl, below_drewN hbel nq⟩
          · have hd := hide (sw_at (pl := pl) (unhide HX) (unhide HY) (by cases pl <;> simp [nrm, he]))
            have he' : (xt.toList == yt.toList) = false := str_ne he
            go_wp2_with fail
            go_quiet (fail)
            go_wp2_with fail
            go_ret
            exact ⟨by rw [unhide HR, unhide hd]; rfl, below_drewN hbel nq⟩
        · have hd := hide (sw_at (pl := pl) (unhide HX) (unhide HY) (by cases pl <;> simp [nrm, hk]))
          have hk' : (xk != yk) = true := by simpa using hk
          go_wp2_with fail
          go_quiet (fail)
          go_wp2_with fail
          go_ret
          exact ⟨by rw [unhide HR, unhide hd]; rfl, below_drewN hbel nq⟩
      · have hd := hide (sw_eq (pl := pl) (a := xs) (b := ys) (by rw [unhide hl, unhide kl]) (fun t x y e1 e2 => unhide HSM t x y (by have := (List.getElem?_eq_some_iff.1 e1).1; rw [unhide hl] at this; omega) e1 e2))
        go_wp2_with fail
        go_ret
        exact ⟨by rw [unhide HR, unhide hd]; rfl, hbel⟩
  · have hd := hide (sw_len (pl := pl) (a := xs) (b := ys) (by rw [unhide hl, unhide kl]; omega))
    have hne' : ((n : Int) != (m : Int)) = true := by simpa using hne
    go_enter Tryd.func7, Tryd.ntmps7
    go_wp2_with fail
    go_ret
    exact ⟨by rw [unhide HR, unhide hd]; rfl, Below.refl _ _⟩

end Go.Proofs.YtjbgkgkgpigikaaDoor
