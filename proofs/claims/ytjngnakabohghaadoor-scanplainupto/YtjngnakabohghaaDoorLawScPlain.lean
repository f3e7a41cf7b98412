/-
  ScanPlain of layer 19, for the walk: it returns true for any words and any text. Conditions: each word's text is at most 2^40 bytes (the second form's bound gives it); the library's variables read as they were laid.
-/
import Derived.Test.YtjngnakabohghaaDoorScTp
import Derived.Test.YtjngnakabohghaaDoorScLiv
namespace Go.Proofs.YtjngnakabohghaaDoor
open Go.RowKit
set_option linter.unusedVariables false
set_option linter.unusedSimpArgs false

def sz (l : List Wd) : Nat := (l.map fun x => x.tx.size).sum
theorem sz_at {xs : List Wd} {j : Nat} {x : Wd} (h : xs[j]? = some x) : sz (xs.take (j + 1)) = sz (xs.take j) + x.tx.size := by
  unfold sz
  rw [List.take_add_one, h]
  simp
theorem sz_mem : ∀ {xs : List Wd} {x : Wd}, x ∈ xs → x.tx.size ≤ sz xs
  | [], _, h => by cases h
  | y :: r, x, h => by
    have e : sz (y :: r) = y.tx.size + sz r := by simp [sz]
    rcases List.mem_cons.1 h with rfl | h
    · omega
    · have := sz_mem h
      omega

set_option maxHeartbeats 4000000 in
set_option maxRecDepth 20000 in
theorem small_any (ao : Option Addr) (n c : Nat) (xs : List Wd) (w : World) (h : Wds w ao n c xs) (hs : ∀ x ∈ xs, x.tx.size ≤ 1099511627776) :
    Calls Tryd.prog 17 #[.slice ao n c] w fun e w' => e = .returned (.bool (decide (n ≤ 200 ∧ sz xs ≤ 2000))) ∧ Below w.heap.size w w' := by
  have hmax := h.max
  have hle := h.le
  have hl := hide h.len
  have H := hide h
  have HS := hide hs
  clear h hs
  obtain ⟨R, hR⟩ : ∃ R, R = decide (n ≤ 200 ∧ sz xs ≤ 2000) := ⟨_, rfl⟩
  rw [← hR]
  have HR := hide hR
  clear hR
  go_enter Tryd.func17, Tryd.ntmps17
  go_wp2_with fail
  go_loopw [4, 3] (fun iv ov wr => ∃ (j N : Nat), j ≤ n ∧ j ≤ 201 ∧ iv = .int .i64 (j : Int) ∧ ov = .int .i64 (N : Int) ∧ N ≤ 1099511627776 * j ∧ N = sz (xs.take j) ∧ Below w.heap.size w wr) (fun iv _ _ => n - (intOf iv).toNat)
  case atStart => exact ⟨0, 0, by omega, by omega, rfl, rfl, by omega, by simp [sz], Below.refl _ _⟩
  case round =>
    obtain ⟨j, N, hj, hj2, rfl, rfl, hN, hq, hb⟩ := hrel
    have HQ := hide hq
    clear hq
    by_cases hlt : j < n
    · by_cases h2 : j ≤ 200
      · have hx : xs[j]? = some (xs[j]'(by rw [unhide hl]; exact hlt)) := List.getElem?_eq_getElem _
        obtain ⟨b1, o1, i1, a1⟩ := ((unhide H).later hb).idx hx (j : Int) rfl
        have hxs := unhide HS _ (List.getElem_mem (by rw [unhide hl]; exact hlt : j < xs.length))
        generalize xs[j]'(by rw [unhide hl]; exact hlt) = x at *
        have hd := hide (sz_at hx)
        obtain ⟨k, s, a⟩ := x
        obtain ⟨p0, p1, p2⟩ := atW_c a1
        simp only at hxs p0 p1 p2
        clear hx a1
        go_wp2_with fail
        go_roundw
        case rel => exact ⟨j + 1, N + s.size, by omega, by omega, by go_num, by go_num, by omega, by rw [unhide hd, ← unhide HQ], hb⟩
        case measure => simp [intOf]; omega
      · have hf := hide (show R = false by rw [unhide HR]; exact decide_eq_false (by omega))
        go_wp2_with fail
        go_ret
        exact ⟨by rw [unhide hf]; rfl, hb⟩
    · have hjn : j = n := by omega
      have hall := hide (show xs.take j = xs from List.take_of_length_le (by rw [unhide hl]; omega))
      have hNs := hide (show N = sz xs by rw [unhide HQ, unhide hall])
      by_cases h2 : n ≤ 200
      · by_cases h3 : N ≤ 2000
        · have hf := hide (show R = true by rw [unhide HR]; exact decide_eq_true ⟨h2, by rw [← unhide hNs]; exact h3⟩)
          have hdN := hide (show decide ((N : Int) ≤ 2000) = true from decide_eq_true (by omega))
          go_wp2_with fail
          go_ret
          exact ⟨by rw [unhide hf]; exact congrArg (fun z => Ending.returned (Value.bool z)) (unhide hdN), hb⟩
        · have hf := hide (show R = false by rw [unhide HR]; exact decide_eq_false (by rw [← unhide hNs]; omega))
          have hdN := hide (show decide ((N : Int) ≤ 2000) = false from decide_eq_false (by omega))
          go_wp2_with fail
          go_ret
          exact ⟨by rw [unhide hf]; exact congrArg (fun z => Ending.returned (Value.bool z)) (unhide hdN), hb⟩
      · have hf := hide (show R = false by rw [unhide HR]; exact decide_eq_false (by omega))
        go_wp2_with fail
        go_ret
        exact ⟨by rw [unhide hf]; rfl, hb⟩

set_option maxHeartbeats 4000000 in
set_option maxRecDepth 20000 in
theorem lawScPlain (ao : Option Addr) (n c : Nat) (xs : List Wd) (s : ByteArray) (w : World) (hV : Vr w) (h : Wds w ao n c xs) (hs : ∀ x ∈ xs, x.tx.size ≤ 1099511627776) (hss : s.size ≤ 9223372036854775807) :
    Calls Tryd.prog 5 #[.slice ao n c, .string s] w fun e w' => e = .returned (.bool true) ∧ Below w.heap.size w w' := by
  have HV := hide hV
  have hle := h.le
  have hmax := h.max
  have H := hide h
  have HS := hide hs
  have L7 := hide (fun wx (h : Vr wx) => lives_any wx h)
  have C1 := fun wx (hb : Below w.heap.size w wx) => small_any ao n c xs wx ((unhide H).later hb) (unhide HS)
  clear h hs
  by_cases hR : n ≤ 200 ∧ sz xs ≤ 2000
  · rw [decide_eq_true hR] at C1
    have C1 := hide C1
    have hx := hide (fun (x : Wd) (hx : x ∈ xs) => Nat.le_trans (sz_mem hx) hR.2)
    have hn := hide hR.1
    clear hR
    by_cases h2 : s.size ≤ 2000
    · have C2 := hide (fun wx (hb : Below w.heap.size w wx) => scPlain_any ao n c xs wx ((unhide HV).later hb) ((unhide H).later hb) (unhide hn) (unhide hx))
      have C3 := hide (fun wx (hb : Below w.heap.size w wx) => rPlain_any ao n c xs wx ((unhide H).later hb) (unhide hn) (unhide hx))
      have C4 := hide (fun wx (hb : Below w.heap.size w wx) => quote_any s wx ((unhide HV).later hb) (by omega))
      have C5 := hide (fun wx => rQuote_any s wx (by omega))
      generalize ba (tolds [] 0 xs) = Y at *
      generalize ba (qto (bl s)) = Z at *
      go_enter Tryd.func5, Tryd.ntmps5
      go_wp2_with (first | (go_at_call 12; (with_reducible refine (unhide L7 w (unhide HV)).mono ?_); rintro e w1 ⟨rfl, b1⟩) | (go_at_call 17; (with_reducible refine (unhide C1 w1 b1).mono ?_); rintro e w2 ⟨rfl, q2⟩; have b2 := bt b1 q2) | (go_at_call 18; (with_reducible refine (unhide C2 w2 b2).mono ?_); rintro e w3 ⟨rfl, q3⟩; have b3 := bt b2 q3) | (go_at_call 19; (with_reducible refine (unhide C3 w3 b3).mono ?_); rintro e w4 ⟨rfl, q4⟩; have b4 := bt b3 q4) | (go_at_call 14; (with_reducible refine (unhide C4 w4 b4).mono ?_); rintro e w5 ⟨rfl, q5⟩; have b5 := bt b4 q5) | (go_at_call 20; (with_reducible refine (unhide C5 w5).mono ?_); rintro e w6 ⟨rfl, q6⟩; have b6 := bt b5 q6))
      go_ret
      exact ⟨rfl, b6⟩
    · go_enter Tryd.func5, Tryd.ntmps5
      go_wp2_with (first | (go_at_call 12; (with_reducible refine (unhide L7 w (unhide HV)).mono ?_); rintro e w1 ⟨rfl, b1⟩) | (go_at_call 17; (with_reducible refine (unhide C1 w1 b1).mono ?_); rintro e w2 ⟨rfl, q2⟩; have b2 := bt b1 q2))
      go_ret
      exact ⟨rfl, b2⟩
  · rw [decide_eq_false hR] at C1
    have C1 := hide C1
    clear hR
    go_enter Tryd.func5, Tryd.ntmps5
    go_wp2_with (first | (go_at_call 12; (with_reducible refine (unhide L7 w (unhide HV)).mono ?_); rintro e w1 ⟨rfl, b1⟩) | (go_at_call 17; (with_reducible refine (unhide C1 w1 b1).mono ?_); rintro e w2 ⟨rfl, q2⟩; have b2 := bt b1 q2))
    go_ret
    exact ⟨rfl, b2⟩

end Go.Proofs.YtjngnakabohghaaDoor
