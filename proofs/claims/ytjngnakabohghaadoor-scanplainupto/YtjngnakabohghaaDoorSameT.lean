/-
  What SameTexts of the statements' helpers returns for any texts: whether they are the same. It writes nothing. Conditions: none but that the slices can be read.
-/
import Derived.Test.YtjngnakabohghaaDoorTMem
import Derived.BigQuiet
namespace Go.Proofs.YtjngnakabohghaaDoor
open Go.RowKit
set_option linter.unusedVariables false
set_option linter.unusedSimpArgs false

theorem txts_ne {xs ys : List ByteArray} (h : xs.length ≠ ys.length) : decide (xs = ys) = false := by
  simp only [decide_eq_false_iff_not]
  intro e
  rw [e] at h
  exact h rfl
theorem txts_ne_at {xs ys : List ByteArray} (i : Nat) (h : xs.getD i ByteArray.empty ≠ ys.getD i ByteArray.empty) : decide (xs = ys) = false := by
  simp only [decide_eq_false_iff_not]
  intro e
  rw [e] at h
  exact h rfl
theorem txts_eq {xs ys : List ByteArray} (h : xs.length = ys.length) (k : ∀ j, j < xs.length → xs.getD j ByteArray.empty = ys.getD j ByteArray.empty) : decide (xs = ys) = true := by
  simp only [decide_eq_true_eq]
  apply List.ext_getElem h
  intro j h1 h2
  have := k j h1
  simpa [List.getElem?_eq_getElem h1, List.getElem?_eq_getElem h2] using this

theorem str_ne {x y : ByteArray} (h : x ≠ y) : (x.toList == y.toList) = false := by
  rw [beq_eq_false_iff_ne]
  intro e
  apply h
  apply ByteArray.ext
  apply Array.ext'
  rwa [ByteArray.toList_eq, ByteArray.toList_eq] at e

set_option maxHeartbeats 1000000 in
theorem sameTexts_any (ao : Option Addr) (n c : Nat) (xs : List ByteArray) (bo : Option Addr) (m d : Nat) (ys : List ByteArray) (w : World) (h : Ss w ao n c xs) (k : Ss w bo m d ys) :
    Calls Tryd.prog 13 #[.slice ao n c, .slice bo m d] w fun e w' => e = .returned (.bool (decide (xs = ys))) ∧ Below w.heap.size w w' := by
  have hmax := h.max
  have hle := h.le
  have kmax := k.max
  have kle := k.le
  have hl := hide h.len
  have kl := hide k.len
  have H := hide h
  have K := hide k
  clear h k
  obtain ⟨R, hR⟩ : ∃ R, R = decide (xs = ys) := ⟨_, rfl⟩
  rw [← hR]
  have HR := hide hR
  clear hR
  by_cases hne : (n : Int) = (m : Int)
  · have hnm : n = m := by omega
    subst hnm
    clear hne
    go_enter Tryd.func13, Tryd.ntmps13
    go_wp2_with fail
    go_loopw [5] (fun i wr => ∃ j : Nat, j ≤ n ∧ i = .int .i64 j ∧ (∀ t, t < j → xs.getD t ByteArray.empty = ys.getD t ByteArray.empty) ∧ Below w.heap.size w wr) (fun i _ => n - (intOf i).toNat)
    case atStart => exact ⟨0, by omega, rfl, fun t ht => by omega, Below.refl _ _⟩
    case round =>
      obtain ⟨j, hj, rfl, hsame, hbel⟩ := hrel
      have HSM := hide hsame
      clear hsame
      by_cases hlt : j < n
      · obtain ⟨b1, o1, i1, c1⟩ := ((unhide H).later hbel).idx hlt (j : Int) rfl
        obtain ⟨b2, o2, i2, c2⟩ := ((unhide K).later hbel).idx hlt (j : Int) rfl
        obtain ⟨x, hx⟩ : ∃ x, x = xs.getD j ByteArray.empty := ⟨_, rfl⟩
        obtain ⟨y, hy⟩ : ∃ y, y = ys.getD j ByteArray.empty := ⟨_, rfl⟩
        rw [← hx] at c1
        rw [← hy] at c2
        have HX := hide hx
        have HY := hide hy
        clear hx hy
        by_cases he : x = y
        · subst he
          go_wp2_with fail
          go_quiet (fail)
          go_wp2_with fail
          go_roundw
          case rel =>
            refine ⟨j + 1, by omega, by go_num, fun t ht => ?_, below_drewN hbel nq⟩
            by_cases htj : t = j
            · rw [htj, ← unhide HX, ← unhide HY]
            · exact unhide HSM t (by omega)
          case measure => simp [intOf]; omega
        · have hd := hide (txts_ne_at (xs := xs) (ys := ys) j (by rw [← unhide HX, ← unhide HY]; exact he))
          have he' : (x.toList == y.toList) = false := str_ne he
          go_wp2_with fail
          go_quiet (fail)
          go_wp2_with fail
          go_ret
          exact ⟨by rw [unhide HR, unhide hd]; rfl, below_drewN hbel nq⟩
      · have hd := hide (txts_eq (xs := xs) (ys := ys) (by rw [unhide hl, unhide kl]) (fun t ht => unhide HSM t (by rw [unhide hl] at ht; omega)))
        go_wp2_with fail
        go_ret
        exact ⟨by rw [unhide HR, unhide hd]; rfl, hbel⟩
  · have hd := hide (txts_ne (xs := xs) (ys := ys) (by rw [unhide hl, unhide kl]; omega))
    have hne' : ((n : Int) != (m : Int)) = true := by simpa using hne
    go_enter Tryd.func13, Tryd.ntmps13
    go_wp2_with fail
    go_ret
    exact ⟨by rw [unhide HR, unhide hd]; rfl, Below.refl _ _⟩

end Go.Proofs.YtjngnakabohghaaDoor
