/-
  DigestWords of layer 21, for the walk: it returns true for any words. Conditions: each word's text is at most 2^40 bytes (the second form's bound gives it); the library's variables read as they were laid.
-/
import Derived.Test.YtgbahfadjdincaaDoorDgRi
import Derived.Test.YtgbahfadjdincaaDoorDgW
import Derived.Test.YtgbahfadjdincaaDoorSameW
import Derived.Test.YtgbahfadjdincaaDoorLawDgNames
namespace Go.Proofs.YtgbahfadjdincaaDoor
open Go.RowKit
set_option linter.unusedVariables false
set_option linter.unusedSimpArgs false

def sz (l : List Wd) : Nat := (l.map fun x => x.tx.size).sum
theorem sz_at {xs : List Wd} {j : Nat} {x : Wd} (h : xs[j]? = some x) : sz (xs.take (j + 1)) = sz (xs.take j) + x.tx.size := by
  unfold sz
  rw [List.take_add_one, h]
  simp
theorem sz_mem : ∀ {xs : List Wd} {x : Wd}, x ∈ xs → x.tx.size ≤ sz xs
  | [], _, h => by cases h
  | y :: r, x, h => by
    have e : sz (y :: r) = y.tx.size + sz r := by simp [sz]
    rcases List.mem_cons.1 h with rfl | h
    · omega
    · have := sz_mem h
      omega

theorem WdMine.lit0 (w : World) : WdMine w.heap.size (w.alloc (.cells #[] 26)) (some ⟨w.heap.size, 0, none⟩) 0 0 [] :=
  ⟨rfl, rfl, .inr ⟨w.heap.size, 0, #[], rfl, Nat.le_refl _, heap_alloc_new w _, Nat.le_refl _, by unfold maxLen; omega, rfl, rfl⟩⟩
theorem sw_self (l : List Wd) : sw true l l = true := by simp [sw]

set_option maxHeartbeats 8000000 in
set_option maxRecDepth 20000 in
theorem lawDgWords (ao : Option Addr) (n c : Nat) (xs : List Wd) (w : World) (hV : Vr w) (h : Wds w ao n c xs) (hs : ∀ x ∈ xs, x.tx.size ≤ 1099511627776) :
    Calls Tryd.prog 4 #[.slice ao n c] w (OutB w true) := by
  have hmax := h.max
  have hle := h.le
  have hl := hide h.len
  have H := hide h
  have HS := hide hs
  have L7 := hide (dglives_any w hV)
  clear h hs hV
  go_enter Tryd.func4, Tryd.ntmps4
  go_wp2_with (go_at_call 6; refine (unhide L7).mono ?_; rintro e w1 ⟨rfl, b1⟩)
  go_loopw [4, 3] (fun iv ov wr => ∃ (j N : Nat), j ≤ n ∧ j ≤ 201 ∧ iv = .int .i64 (j : Int) ∧ ov = .int .i64 (N : Int) ∧ N ≤ 1099511627776 * j ∧ N = sz (xs.take j) ∧ Below w.heap.size w wr) (fun iv _ _ => n - (intOf iv).toNat)
  case atStart => exact ⟨0, 0, by omega, by omega, rfl, rfl, by omega, by simp [sz], b1⟩
  case round =>
    obtain ⟨j, N, hj, hj2, rfl, rfl, hN, hq, hb⟩ := hrel
    have HQ := hide hq
    clear hq
    by_cases hlt : j < n
    · by_cases h2 : j ≤ 200
      · have hx : xs[j]? = some (xs[j]'(by rw [unhide hl]; exact hlt)) := List.getElem?_eq_getElem _
        obtain ⟨b1', o1, i1, a1⟩ := ((unhide H).later hb).idx hx (j : Int) rfl
        have hxs := unhide HS _ (List.getElem_mem (by rw [unhide hl]; exact hlt : j < xs.length))
        generalize xs[j]'(by rw [unhide hl]; exact hlt) = x at *
        have hd := hide (sz_at hx)
        obtain ⟨k, s, a⟩ := x
        obtain ⟨p0, p1, p2⟩ := atW_c a1
        simp only at hxs p0 p1 p2
        clear hx a1
        go_wp2_with fail
        go_roundw
        case rel => exact ⟨j + 1, N + s.size, by omega, by omega, by go_num, by go_num, by omega, by rw [unhide hd, ← unhide HQ], hb⟩
        case measure => simp [intOf]; omega
      · have g1 : (200 : Int) < (n : Int) := by omega
        go_wp2_with fail
        go_ret
        exact ⟨rfl, hb⟩
    · have hjn : j = n := by omega
      have hall := hide (show xs.take j = xs from List.take_of_length_le (by rw [unhide hl]; omega))
      have hNs := hide (show N = sz xs by rw [unhide HQ, unhide hall])
      by_cases h2 : n ≤ 200
      · have g1 : ¬ (200 : Int) < (n : Int) := by omega
        by_cases h3 : N ≤ 2000
        · have g2 : ¬ (2000 : Int) < (N : Int) := by omega
          have HX := hide (fun (x : Wd) (hx : x ∈ xs) => show x.tx.size ≤ 1073741824 from Nat.le_trans (sz_mem hx) (by rw [← unhide hNs]; omega))
          have CW := hide (fun bo m d wx (h : Wds wx bo m d xs) => words_any bo m d xs wx h (by rw [← h.len, unhide hl]; omega) (unhide HX))
          have CR := hide (fun wx (h : Wds wx ao n c xs) => rwords_any ao n c xs wx h (by omega))
          rw [← dgW_eq] at CR
          have hle2 : n ≤ 100000000 := by omega
          generalize dgW xs = D at *
          clear hjn hall hNs
          go_wp2_with (first
            | (at_builtin; refine wpList_appWL rfl (.tmp 33) (.tmp 34) rfl wr.heap.size (some ⟨wr.heap.size, 0, none⟩) 0 0 [] (by simp [Act.eval, Act.put]) (WdMine.lit0 wr) ao n c xs (by simp [Act.eval, Act.put]) ((unhide H).later (belT hb (below_alloc wr _))) n (Nat.zero_add n) xs (List.nil_append xs) hle2 (by simp) ?_; intro ao9 c9 w9 m9 b9; have q9 := (below_alloc wr _).trans b9; have B9 := belT hb q9)
            | (go_at_call 9; (with_reducible refine (unhide CW ao9 n c9 w9 m9.ss).mono ?_); rintro e wA ⟨mA, rfl, hA, qA⟩; have BA := belT B9 qA)
            | (go_at_call 10; (with_reducible refine (unhide CR wA ((unhide H).later BA)).mono ?_); rintro e wB ⟨bo, mB, d, rfl, hB, qB⟩; have BB := belT BA qB)
            | (go_at_call 8; (with_reducible refine (sameWords_any true _ mA n D bo mB d D wB (hA.ss.later qB) hB).mono ?_); rintro e wC ⟨rfl, qC⟩; have BC := belT BB qC; have e1 := sw_self D)
            | (go_at_call 8; (with_reducible refine (sameWords_any true ao9 n c9 xs ao n c xs wC (((m9.ss.later qA).later qB).later qC) ((unhide H).later BC)).mono ?_); rintro e wD ⟨rfl, qD⟩; have BD := belT BC qD; have e2 := sw_self xs))
          go_ret
          exact ⟨rfl, BD⟩
        · have g2 : (2000 : Int) < (N : Int) := by omega
          go_wp2_with fail
          go_ret
          exact ⟨rfl, hb⟩
      · have g1 : (200 : Int) < (n : Int) := by omega
        go_wp2_with fail
        go_ret
        exact ⟨rfl, hb⟩

end Go.Proofs.YtgbahfadjdincaaDoor
