/-
  What ReadFixed and AppendFixed of package lenenc return: the number of so many bytes; a slice in new memory with the number behind. Conditions: a number fits its bytes; lengths together below 2 to the 46.
  What the small functions of package lenenc return: none of them touches memory. Conditions: a number fits its kind.
  What the reading functions of package lenenc, and those that give the document's answer, return for any bytes: the plain functions readFixed, readInt of the text Plain. They write nothing. Conditions: none but that the slice can be read.
  What ReadInt of package lenenc, and the one that gives the document's answer, return for any bytes: the plain function readInt. They write nothing. Conditions: none but that the slice can be read.
  What the ReadInt that gives the document's answer returns for any bytes: the plain function readInt, as the program's own. It writes nothing. Conditions: none but that the slice can be read.
  What ReadText and SameBytes return for any bytes. They write nothing. Conditions: none but that the slices can be read.
  What ReadEnded returns for any bytes, and where a byte 0 is found in bytes and in a text. Nothing is written. Conditions: none but that the slice can be read.
  What the writing functions of package lenenc leave: a slice in new memory. Conditions: lengths together below 2 to the 46.
  What AppendFixed, AppendText and AppendEnded of package lenenc leave: a slice in new memory, or nil and an error. Conditions: lengths together below 2 to the 46.
-/
import Derived.Test.YtfgghgoonfamkaaMA
import Derived.Lib.BytesEntry
import Derived.Lib.IndexLaws
import Derived.Lib.ConvBytes
namespace Go.Proofs.Ytfgghgoonfamkaa
open Go.RowKit
set_option linter.unusedVariables false
set_option linter.unusedSimpArgs false

set_option maxHeartbeats 400000 in
theorem isWidth_any (n : Int) (w : World) :
    Calls Try.prog 109 #[.int .i64 n] w fun e w' => e = .returned (.bool (decide (1 ≤ n ∧ n ≤ 8))) ∧ w' = w := by
  by_cases h1 : 1 ≤ n
  · by_cases h2 : n ≤ 8
    · go_enter Try.func109, Try.ntmps109
      go_wp2
      go_ret
      exact ⟨by simp [h1, h2], rfl⟩
    · have h3 : decide (n ≤ 8) = false := by simpa using h2
      go_enter Try.func109, Try.ntmps109
      go_wp2
      go_ret
      exact ⟨by simp, rfl⟩
  · have h3 : decide (1 ≤ n) = false := by simpa using h1
    go_enter Try.func109, Try.ntmps109
    go_wp2
    go_ret
    exact ⟨by simp, rfl⟩

theorem shr_zero (x p : Int) (h0 : 0 ≤ x) (hp : 0 < p) : (x / p == 0) = decide (x < p) := by
  rw [Bool.eq_iff_iff]
  simp only [beq_iff_eq, decide_eq_true_eq]
  constructor
  · intro h
    have := Int.emod_add_mul_ediv x p
    have h2 := Int.emod_lt_of_pos x hp
    rw [h] at this
    omega
  · intro h
    exact Int.ediv_eq_zero_of_lt h0 h

set_option maxHeartbeats 400000 in
theorem fits_any (x n : Int) (w : World) (h0 : 0 ≤ x) (h1 : x < 18446744073709551616) (h2 : 1 ≤ n) (h3 : n ≤ 8) :
    Calls Try.prog 110 #[.int .u64 x, .int .i64 n] w fun e w' => e = .returned (.bool (decide (x < 2 ^ (8 * n.toNat)))) ∧ w' = w := by
  go_enter Try.func110, Try.ntmps110
  go_wp2
  go_ret
  refine ⟨?_, rfl⟩
  have e : (8 * n).toNat = 8 * n.toNat := by omega
  have hp := pow_pos8 n.toNat
  show Ending.returned (Value.bool (x / 2 ^ (8 * n).toNat == 0)) = _
  rw [e, shr_zero x _ h0 hp]

set_option maxHeartbeats 400000 in
theorem readFixed_any (ao : Option Addr) (n c : Nat) (bs : List Int) (k : Int) (w : World) (h : Bs w ao n c bs) :
    Calls Try.prog 104 #[.slice ao n c, .int .i64 k] w fun e w' => e = .returned (.tuple #[.int .u64 (readFixed bs k).1, .int .i64 (readFixed bs k).2]) ∧ w' = w := by
  have hlen := h.len
  have hmax := h.max
  have hle := h.le
  by_cases h1 : 1 ≤ k ∧ k ≤ 8
  · have hd : decide (1 ≤ k ∧ k ≤ 8) = true := by simpa using h1
    obtain ⟨hk1, hk2⟩ := h1
    by_cases h2 : (n : Int) < k
    · have e : readFixed bs k = (0, 4) := by simp [readFixed, hk1, hk2, hlen, h2]
      rw [e]
      clear e
      go_enter Try.func104, Try.ntmps104
      go_wp2_with (go_at_call 109; refine (isWidth_any _ _).mono ?_; rw [hd]; rintro e w' ⟨rfl, rfl⟩)
      go_ret2
      exact ⟨rfl, rfl⟩
    · have e : readFixed bs k = (val bs k.toNat, 0) := by simp [readFixed, hk1, hk2, hlen, h2]
      rw [e]
      clear e
      rcases h.at' with h0 | ⟨b, off, rfl, hcell⟩
      · omega
      have hby := h.byt
      clear h hlen
      go_enter Try.func104, Try.ntmps104
      go_wp2_with (go_at_call 109; refine (isWidth_any _ _).mono ?_; rw [hd]; rintro e w' ⟨rfl, rfl⟩)
      go_loop [6, 16] (fun x i => ∃ m : Nat, (m : Int) ≤ k ∧ i = .int .i64 m ∧ x = .int .u64 (val bs m)) (fun _ i => (k - intOf i).toNat)
      case atStart => exact ⟨0, by omega, rfl, rfl⟩
      case round =>
        obtain ⟨m, hm, rfl, rfl⟩ := hrel
        by_cases hlt : (m : Int) < k
        · have hcc := hcell m (by omega)
          have hb2 := hby.at m
          have hst := hide (or_step hby m (by omega))
          go_wp2
          go_round
          case rel => exact ⟨m + 1, by omega, by go_num, by rw [unhide hst]⟩
          case measure => simp [intOf]; omega
        · have he := hide (show m = k.toNat by omega)
          go_wp2
          go_ret2
          exact ⟨tup2 (by rw [unhide he]) rfl, rfl⟩
  · have hd : decide (1 ≤ k ∧ k ≤ 8) = false := by simpa using h1
    have e : readFixed bs k = (0, 2) := by simp only [readFixed]; rw [if_pos h1]
    rw [e]
    clear e h1
    go_enter Try.func104, Try.ntmps104
    go_wp2_with (go_at_call 109; refine (isWidth_any _ _).mono ?_; rw [hd]; rintro e w' ⟨rfl, rfl⟩)
    go_ret2
    exact ⟨rfl, rfl⟩

/-- What withRoom leaves. -/
theorem withRoom_any (ao : Option Addr) (n c : Nat) (bs : List Int) (r : Int) (w : World) (h : Bs w ao n c bs) (hr : 0 ≤ r) (hbound : (n : Int) + r ≤ 140737488355328) :
    Calls Try.prog 102 #[.slice ao n c, .int .i64 r] w fun e w' => ∃ ao' c', e = .returned (.slice ao' n c') ∧ Mine w.heap.size w' ao' n c' bs ∧ Below w.heap.size w w' := by
  obtain ⟨R, rfl⟩ := Int.eq_ofNat_of_zero_le hr
  have hlen := hide h.len
  have hmax := h.max
  have hle := h.le
  go_enter Try.func102, Try.ntmps102
  go_wp2_with (first | (at_make; refine wpList_mk rfl _ _ rfl _ _ _ (n + R) rfl rfl (by omega) (by omega) ?_; intro w1 hm1 hb1 hz1) | (at_builtin; refine wpList_app rfl _ _ rfl _ _ _ _ _ rfl hm1 _ _ _ _ rfl (h.later hb1) (by omega) (by omega) ?_; intro ao1 c1 w2 hm2 hb2))
  go_ret
  rw [Nat.zero_add, List.nil_append] at hm2
  exact ⟨ao1, c1, rfl, hm2, hb1.trans hb2⟩

set_option maxHeartbeats 400000 in
theorem putFixed_any (B : Nat) (ao : Option Addr) (n c : Nat) (bs : List Int) (x k : Int) (w : World) (h : Mine B w ao n c bs) (hB : B ≤ w.heap.size)
    (hk0 : 0 ≤ k) (hk8 : k ≤ 8) (hbound : (n : Int) + k ≤ 140737488355328) :
    Calls Try.prog 111 #[.slice ao n c, .int .u64 x, .int .i64 k] w fun e w' => ∃ ao' c', e = .returned (.slice ao' (n + k.toNat) c') ∧ Mine B w' ao' (n + k.toNat) c' (bs ++ le x k.toNat) ∧ Below B w w' := by
  obtain ⟨K, rfl⟩ := Int.eq_ofNat_of_zero_le hk0
  rw [Int.toNat_natCast]
  have hm0 : Mine B w ao (n + 0) c (bs ++ le x 0) := by simpa [le] using h
  clear h
  go_enter Try.func111, Try.ntmps111
  go_wp2
  go_loopw [0, 9] (fun v i wr => ∃ (m : Nat) (ao1 : Option Addr) (c1 : Nat), m ≤ K ∧ i = .int .i64 m ∧ v = .slice ao1 (n + m) c1 ∧ Mine B wr ao1 (n + m) c1 (bs ++ le x m) ∧ Below B w wr) (fun _ i _ => K - (intOf i).toNat)
  case atStart => exact ⟨0, ao, c, Nat.zero_le _, rfl, rfl, hm0, Below.refl _ _⟩
  case round =>
    obtain ⟨m, ao1, c1, hm, rfl, rfl, hmine, hbel⟩ := hrel
    by_cases hlt : m < K
    · have hsz := hbel.size
      have hb0 := below_alloc wr (.cells #[.int .u8 (x / 2 ^ (8 * m) % 256)] 5)
      have hs1 := Bs.one wr (x / 2 ^ (8 * m) % 256) (by omega) (by omega)
      have hm1 := hmine.later hb0
      have hsh := shr_step x m
      go_wp2_with (at_builtin; refine wpList_app rfl _ _ rfl B _ _ _ _ rfl hm1 _ _ _ _ rfl hs1 (by omega) (by simp; omega) ?_; intro ao2 c2 w2 hm2 hb2)
      have hm3 : Mine B w2 ao2 (n + (m + 1)) c2 (bs ++ le x (m + 1)) := by rw [List.append_assoc] at hm2; exact hm2
      have hb3 : Below B w w2 := (hbel.trans (hb0.mono (by omega))).trans hb2
      go_roundw
      case rel => exact ⟨m + 1, ao2, c2, by omega, by go_num, rfl, hm3, hb3⟩
      case measure => simp [intOf]; omega
    · have e : m = K := by omega
      subst e
      go_wp2
      go_ret
      exact ⟨ao1, c1, rfl, hmine, hbel⟩

set_option maxHeartbeats 400000 in
theorem appendFixed_ok (ao : Option Addr) (n c : Nat) (bs : List Int) (x k : Int) (w : World) (h : Bs w ao n c bs)
    (hx0 : 0 ≤ x) (hx1 : x < 18446744073709551616) (hbound : (n : Int) + 9 ≤ 140737488355328) (hk1 : 1 ≤ k) (hk8 : k ≤ 8) (hf : x < 2 ^ (8 * k.toNat)) :
    Calls Try.prog 99 #[.slice ao n c, .int .u64 x, .int .i64 k] w fun e w' => ∃ ao' c', e = .returned (.tuple #[.slice ao' (n + k.toNat) c', .int .i64 0]) ∧ Mine w.heap.size w' ao' (n + k.toNat) c' (bs ++ le x k.toNat) ∧ Below w.heap.size w w' := by
  have cI := hide (fun w => isWidth_any k w)
  rw [show decide (1 ≤ k ∧ k ≤ 8) = true by simp [hk1, hk8]] at cI
  have cF := hide (fun w => fits_any x k w hx0 hx1 hk1 hk8)
  rw [show decide (x < 2 ^ (8 * k.toNat)) = true by simpa using hf] at cF
  clear hf hx1
  go_enter Try.func99, Try.ntmps99
  go_wp2_with (first
    | (go_at_call 109; refine (unhide cI _).mono ?_; rintro e w' ⟨rfl, hw'⟩; have hw'' := hw'.symm; subst hw'')
    | (go_at_call 110; refine (unhide cF _).mono ?_; rintro e w' ⟨rfl, hw'⟩; have hw'' := hw'.symm; subst hw'')
    | (go_at_call 102; refine (withRoom_any _ _ _ _ _ _ h (by omega) (by omega)).mono ?_; rintro e w1 ⟨ao1, c1, rfl, hm1, hb1⟩))
  refine (putFixed_any w.heap.size ao1 n c1 bs x k _ hm1 hb1.size (by omega) hk8 (by omega)).mono ?_
  rintro e w2 ⟨ao2, c2, rfl, hm2, hb2⟩
  go_wp2
  go_ret2
  exact ⟨ao2, c2, rfl, hm2, hb1.trans hb2⟩


end Go.Proofs.Ytfgghgoonfamkaa

namespace Go.Proofs.Ytfgghgoonfamkaa
open Go.RowKit
set_option linter.unusedVariables false
set_option linter.unusedSimpArgs false

set_option maxHeartbeats 400000 in
set_option maxRecDepth 100000 in
theorem widthBehind_any (c : Int) (w : World) :
    Calls Try.prog 113 #[.int .u8 c] w fun e w' => e = .returned (.int .i64 (widthOf c)) ∧ w' = w := by
  by_cases h1 : c = 252
  · subst h1
    go_enter Try.func113, Try.ntmps113
    go_wp2
    go_ret
    exact ⟨rfl, rfl⟩
  · by_cases h2 : c = 253
    · subst h2
      go_enter Try.func113, Try.ntmps113
      go_wp2
      go_ret
      exact ⟨rfl, rfl⟩
    · by_cases h3 : c = 254
      · subst h3
        go_enter Try.func113, Try.ntmps113
        go_wp2
        go_ret
        exact ⟨rfl, rfl⟩
      · have e : widthOf c = 0 := by simp [widthOf, h1, h2, h3]
        rw [e]
        have b1 : (c == 252) = false := by simpa using h1
        have b2 : (c == 253) = false := by simpa using h2
        have b3 : (c == 254) = false := by simpa using h3
        clear e h1 h2 h3
        go_enter Try.func113, Try.ntmps113
        go_wp2
        go_ret
        exact ⟨rfl, rfl⟩

set_option maxHeartbeats 400000 in
set_option maxRecDepth 100000 in
theorem firstByte_any (x : Int) (w : World) (h0 : 0 ≤ x) (h1 : x < 18446744073709551616) :
    Calls Try.prog 112 #[.int .u64 x] w fun e w' => e = .returned (.int .u8 (firstOf x)) ∧ w' = w := by
  by_cases a : x ≤ 250
  · have e : firstOf x = x := by simp [firstOf, a]
    rw [e]
    clear e
    go_enter Try.func112, Try.ntmps112
    go_wp2_with fail
    go_ret
    exact ⟨rfl, rfl⟩
  · by_cases b : x < 65536
    · have e : firstOf x = 252 := by simp [firstOf, a, b]
      rw [e]
      clear e
      have hd : decide (x < 2 ^ (8 * (2 : Int).toNat)) = true := by simpa using b
      go_enter Try.func112, Try.ntmps112
      go_wp2_with (go_at_call 110; refine (fits_any _ _ _ h0 h1 (by omega) (by omega)).mono ?_; rw [hd]; rintro e w' ⟨rfl, rfl⟩)
      go_ret
      exact ⟨rfl, rfl⟩
    · have hd : decide (x < 2 ^ (8 * (2 : Int).toNat)) = false := by simpa using b
      by_cases c : x < 16777216
      · have e : firstOf x = 253 := by simp [firstOf, a, b, c]
        rw [e]
        clear e
        have hd3 : decide (x < 2 ^ (8 * (3 : Int).toNat)) = true := by simpa using c
        go_enter Try.func112, Try.ntmps112
        go_wp2_with fail
        refine (fits_any _ _ _ h0 h1 (by omega) (by omega)).mono ?_
        rw [hd]
        rintro e w' ⟨rfl, rfl⟩
        go_wp2_with fail
        refine (fits_any _ _ _ h0 h1 (by omega) (by omega)).mono ?_
        rw [hd3]
        rintro e w' ⟨rfl, rfl⟩
        go_wp2_with fail
        go_ret
        exact ⟨rfl, rfl⟩
      · have e : firstOf x = 254 := by simp [firstOf, a, b, c]
        rw [e]
        clear e
        have hd3 : decide (x < 2 ^ (8 * (3 : Int).toNat)) = false := by simpa using c
        go_enter Try.func112, Try.ntmps112
        go_wp2_with fail
        refine (fits_any _ _ _ h0 h1 (by omega) (by omega)).mono ?_
        rw [hd]
        rintro e w' ⟨rfl, rfl⟩
        go_wp2_with fail
        refine (fits_any _ _ _ h0 h1 (by omega) (by omega)).mono ?_
        rw [hd3]
        rintro e w' ⟨rfl, rfl⟩
        go_wp2_with fail
        go_ret
        exact ⟨rfl, rfl⟩

set_option maxHeartbeats 400000 in
set_option maxRecDepth 100000 in
theorem size_any (x : Int) (w : World) (h0 : 0 ≤ x) (h1 : x < 18446744073709551616) :
    Calls Try.prog 103 #[.int .u64 x] w fun e w' => e = .returned (.int .i64 ((form x).length : Int)) ∧ w' = w := by
  have hw := widthOf_cases (firstOf x)
  have hw1 : 0 ≤ widthOf (firstOf x) := by omega
  have hw2 : widthOf (firstOf x) ≤ 8 := by omega
  clear hw
  rw [form_length]
  go_enter Try.func103, Try.ntmps103
  go_wp2_with (first | (go_at_call 112; refine (firstByte_any _ _ h0 h1).mono ?_; rintro e w' ⟨rfl, rfl⟩) | (go_at_call 113; refine (widthBehind_any _ _).mono ?_; rintro e w' ⟨rfl, rfl⟩))
  go_ret
  exact ⟨rfl, rfl⟩

end Go.Proofs.Ytfgghgoonfamkaa

namespace Go.Proofs.Ytfgghgoonfamkaa
open Go.RowKit
set_option linter.unusedVariables false
set_option linter.unusedSimpArgs false

set_option maxHeartbeats 400000 in
set_option maxRecDepth 100000 in
theorem readFixed_ref (ao : Option Addr) (n c : Nat) (bs : List Int) (k : Int) (w : World) (h : Bs w ao n c bs) :
    Calls Try.prog 80 #[.slice ao n c, .int .i64 k] w fun e w' => e = .returned (.tuple #[.int .u64 (readFixed bs k).1, .int .i64 (readFixed bs k).2]) ∧ w' = w := by
  have hlen := h.len
  have hmax := h.max
  have hle := h.le
  by_cases h1 : 1 ≤ k
  · have hd1 : decide (k < 1) = false := by simp; omega
    by_cases h8 : k ≤ 8
    · by_cases h2 : (n : Int) < k
      · have e : readFixed bs k = (0, 4) := by simp [readFixed, h1, h8, hlen, h2]
        rw [e]
        clear e
        go_enter Try.func80, Try.ntmps80
        go_wp2
        go_ret2
        exact ⟨rfl, rfl⟩
      · have e : readFixed bs k = (val bs k.toNat, 0) := by simp [readFixed, h1, h8, hlen, h2]
        rw [e]
        clear e
        rcases h.at' with h0 | ⟨b, off, rfl, hcell⟩
        · omega
        have hby := h.byt
        clear h hlen
        go_enter Try.func80, Try.ntmps80
        go_wp2
        go_loop [6, 7] (fun x i => ∃ m : Nat, (m : Int) ≤ k ∧ i = .int .i64 m ∧ x = .int .u64 (val bs m)) (fun _ i => (k - intOf i).toNat)
        case atStart => exact ⟨0, by omega, rfl, rfl⟩
        case round =>
          obtain ⟨m, hm, rfl, rfl⟩ := hrel
          by_cases hlt : (m : Int) < k
          · have hcc := hcell m (by omega)
            have hb2 := hby.at m
            have hst := hide (or_step hby m (by omega))
            go_wp2
            go_round
            case rel => exact ⟨m + 1, by omega, by go_num, by rw [unhide hst]⟩
            case measure => simp [intOf]; omega
          · have he := hide (show m = k.toNat by omega)
            go_wp2
            go_ret2
            exact ⟨tup2 (by rw [unhide he]) rfl, rfl⟩
    · have hd : decide (8 < k) = true := by simp; omega
      have e : readFixed bs k = (0, 2) := by simp only [readFixed]; rw [if_pos (by omega)]
      rw [e]
      clear e
      go_enter Try.func80, Try.ntmps80
      go_wp2
      go_ret2
      exact ⟨rfl, rfl⟩
  · have hd : decide (k < 1) = true := by simp; omega
    have e : readFixed bs k = (0, 2) := by simp only [readFixed]; rw [if_pos (by omega)]
    rw [e]
    clear e
    go_enter Try.func80, Try.ntmps80
    go_wp2
    go_ret2
    exact ⟨rfl, rfl⟩

end Go.Proofs.Ytfgghgoonfamkaa

namespace Go.Proofs.Ytfgghgoonfamkaa
open Go.RowKit
set_option linter.unusedVariables false
set_option linter.unusedSimpArgs false


set_option maxHeartbeats 400000 in
set_option maxRecDepth 100000 in
theorem readInt_any (ao : Option Addr) (n c : Nat) (bs : List Int) (w : World) (h : Bs w ao n c bs) :
    Calls Try.prog 108 #[.slice ao n c] w fun e w' => e = .returned (.tuple #[.int .u64 (readInt bs).1, .int .i64 (readInt bs).2.1, .int .i64 (readInt bs).2.2]) ∧ w' = w := by
  have hlen := h.len
  have hmax := h.max
  have hle := h.le
  cases bs with
  | nil =>
    have hn : n = 0 := by simpa using hlen.symm
    subst hn
    go_enter Try.func108, Try.ntmps108
    go_wp2_with fail
    go_ret3
    exact ⟨rfl, rfl⟩
  | cons x r =>
    have hn : n = r.length + 1 := by simpa using hlen.symm
    rcases h.at' with h0 | ⟨b, off, rfl, hcell⟩
    · omega
    have hx := h.byt x (by simp)
    have hc0 : w.cell? ⟨b, off, none⟩ = some (.int .u8 x) := by simpa using hcell 0 (by omega)
    have hpos : (0 : Int) < (n : Int) := by omega
    have hne : ((n : Int) == 0) = false := by simp; omega
    obtain ⟨hx0, hx1⟩ := hx
    by_cases a : x ≤ 250
    · rw [readInt_small a]
      clear hn hlen
      go_enter Try.func108, Try.ntmps108
      go_wp2_with fail
      go_ret3
      exact ⟨rfl, rfl⟩
    · by_cases bd : widthOf x = 0
      · rw [readInt_bad a bd]
        clear hn hlen
        go_enter Try.func108, Try.ntmps108
        go_wp2_with (go_at_call 113; refine (widthBehind_any _ _).mono ?_; rw [bd]; rintro e w' ⟨rfl, rfl⟩)
        go_ret3
        exact ⟨rfl, rfl⟩
      · have hw := widthOf_cases x
        obtain ⟨k, hk⟩ : ∃ k, k = widthOf x := ⟨_, rfl⟩
        rw [← hk] at bd hw
        have hk1 : 1 ≤ k := by omega
        have hk8 : k ≤ 8 := by omega
        have hkb : (k == 0) = false := by simp; omega
        have HK := hide hk
        clear hw bd hk
        obtain ⟨ao', c', hsl, hbs⟩ := h.cut_l (lo := 1) (by omega) 1 rfl
        rw [List.drop_one, List.tail_cons] at hbs
        clear h hlen
        have hn1 := hide hn
        clear hn
        by_cases hs : (r.length : Int) < k
        · rw [readInt_short a (by rw [← unhide HK]; omega) (by rw [← unhide HK]; exact hs)]
          have hrf := hide (show readFixed r k = (0, 4) by simp [readFixed, hk1, hk8, hs])
          clear hs
          go_enter Try.func108, Try.ntmps108
          go_wp2_with (first | (go_at_call 113; refine (widthBehind_any _ _).mono ?_; rw [← unhide HK]; rintro e w' ⟨rfl, rfl⟩) | (go_at_call 104; refine (readFixed_any _ _ _ _ _ _ hbs).mono ?_; rw [unhide hrf]; rintro e w' ⟨rfl, rfl⟩))
          go_ret3
          exact ⟨rfl, rfl⟩
        · rw [readInt_long a (by rw [← unhide HK]; omega) (by rw [← unhide HK]; exact hs), ← unhide HK]
          have hrf := hide (show readFixed r k = (val r k.toNat, 0) by simp [readFixed, hk1, hk8, hs])
          clear hs
          go_enter Try.func108, Try.ntmps108
          go_wp2_with (first | (go_at_call 113; refine (widthBehind_any _ _).mono ?_; rw [← unhide HK]; rintro e w' ⟨rfl, rfl⟩) | (go_at_call 104; refine (readFixed_any _ _ _ _ _ _ hbs).mono ?_; rw [unhide hrf]; rintro e w' ⟨rfl, rfl⟩))
          go_ret3
          exact ⟨rfl, rfl⟩

end Go.Proofs.Ytfgghgoonfamkaa

namespace Go.Proofs.Ytfgghgoonfamkaa
open Go.RowKit
set_option linter.unusedVariables false
set_option linter.unusedSimpArgs false


theorem widthOf_ref {x : Int} (a : ¬ x ≤ 250) (h1 : x ≠ 251) (h2 : x ≠ 255) (h3 : x ≤ 255) : (x = 254 ∧ widthOf x = 8) ∨ (x ≠ 254 ∧ widthOf x = x - 250 ∧ 2 ≤ x - 250 ∧ x - 250 ≤ 3) := by
  have : x = 252 ∨ x = 253 ∨ x = 254 := by omega
  rcases this with rfl | rfl | rfl
  · right; decide
  · right; decide
  · left; decide

set_option maxHeartbeats 400000 in
set_option maxRecDepth 100000 in
theorem readInt_ref (ao : Option Addr) (n c : Nat) (bs : List Int) (w : World) (h : Bs w ao n c bs) :
    Calls Try.prog 98 #[.slice ao n c] w fun e w' => e = .returned (.tuple #[.int .u64 (readInt bs).1, .int .i64 (readInt bs).2.1, .int .i64 (readInt bs).2.2]) ∧ w' = w := by
  have hlen := h.len
  have hmax := h.max
  have hle := h.le
  cases bs with
  | nil =>
    have hn : n = 0 := by simpa using hlen.symm
    subst hn
    go_enter Try.func98, Try.ntmps98
    go_wp2_with fail
    go_ret3
    exact ⟨rfl, rfl⟩
  | cons x r =>
    have hn : n = r.length + 1 := by simpa using hlen.symm
    rcases h.at' with h0 | ⟨b, off, rfl, hcell⟩
    · omega
    have hx := h.byt x (by simp)
    have hc0 : w.cell? ⟨b, off, none⟩ = some (.int .u8 x) := by simpa using hcell 0 (by omega)
    have hpos : (0 : Int) < (n : Int) := by omega
    have hne : ((n : Int) == 0) = false := by simp; omega
    obtain ⟨hx0, hx1⟩ := hx
    by_cases a : x ≤ 250
    · rw [readInt_small a]
      clear hn hlen
      go_enter Try.func98, Try.ntmps98
      go_wp2_with fail
      go_ret3
      exact ⟨rfl, rfl⟩
    · by_cases b1 : x = 251
      · subst b1
        rw [readInt_bad a (by decide)]
        clear hn hlen
        go_enter Try.func98, Try.ntmps98
        go_wp2_with fail
        go_ret3
        exact ⟨rfl, rfl⟩
      · by_cases b2 : x = 255
        · subst b2
          rw [readInt_bad a (by decide)]
          clear hn hlen
          go_enter Try.func98, Try.ntmps98
          go_wp2_with fail
          go_ret3
          exact ⟨rfl, rfl⟩
        · obtain ⟨ao', c', hsl, hbs⟩ := h.cut_l (lo := 1) (by omega) 1 rfl
          rw [List.drop_one, List.tail_cons] at hbs
          clear h hlen
          have hn1 := hide hn
          clear hn
          have g1 : (x == 251) = false := by simpa using b1
          have g2 : (x == 255) = false := by simpa using b2
          rcases widthOf_ref a b1 b2 hx1 with ⟨rfl, hw⟩ | ⟨h4, hw, hlo, hhi⟩
          · by_cases hs : (r.length : Int) < 8
            · rw [readInt_short a (by rw [hw]; omega) (by rw [hw]; exact hs)]
              have hrf := hide (show readFixed r 8 = (0, 4) by simp [readFixed, hs])
              clear hs hw
              go_enter Try.func98, Try.ntmps98
              go_wp2_with (go_at_call 80; refine (readFixed_ref _ _ _ _ _ _ hbs).mono ?_; rw [unhide hrf]; rintro e w' ⟨rfl, rfl⟩)
              go_ret3
              exact ⟨rfl, rfl⟩
            · rw [readInt_long a (by rw [hw]; omega) (by rw [hw]; exact hs), hw]
              have hrf := hide (show readFixed r 8 = (val r (8 : Int).toNat, 0) by simp [readFixed, hs])
              clear hs hw
              go_enter Try.func98, Try.ntmps98
              go_wp2_with (go_at_call 80; refine (readFixed_ref _ _ _ _ _ _ hbs).mono ?_; rw [unhide hrf]; rintro e w' ⟨rfl, rfl⟩)
              go_ret3
              exact ⟨rfl, rfl⟩
          · have g4 : (x == 254) = false := by simpa using h4
            by_cases hs : (r.length : Int) < x - 250
            · rw [readInt_short a (by rw [hw]; omega) (by rw [hw]; exact hs)]
              have hrf := hide (show readFixed r (x - 250) = (0, 4) by simp only [readFixed]; rw [if_neg (by omega), if_pos hs])
              clear hs hw
              go_enter Try.func98, Try.ntmps98
              go_wp2_with (go_at_call 80; refine (readFixed_ref _ _ _ _ _ _ hbs).mono ?_; rw [unhide hrf]; rintro e w' ⟨rfl, rfl⟩)
              go_ret3
              exact ⟨rfl, rfl⟩
            · rw [readInt_long a (by rw [hw]; omega) (by rw [hw]; exact hs), hw]
              have hrf := hide (show readFixed r (x - 250) = (val r (x - 250).toNat, 0) by simp only [readFixed]; rw [if_neg (by omega), if_neg hs])
              clear hs hw
              have hcm := hide (Int.add_comm 1 (x - 250))
              go_enter Try.func98, Try.ntmps98
              go_wp2_with (go_at_call 80; refine (readFixed_ref _ _ _ _ _ _ hbs).mono ?_; rw [unhide hrf]; rintro e w' ⟨rfl, rfl⟩)
              go_ret3
              exact ⟨by rw [unhide hcm]; rfl, rfl⟩

end Go.Proofs.Ytfgghgoonfamkaa

namespace Go.Proofs.Ytfgghgoonfamkaa
open Go.RowKit
set_option linter.unusedVariables false
set_option linter.unusedSimpArgs false

/-- The result of ReadText: the text, how many bytes, the error. -/
def readText (bs : List Int) : ByteArray × Int × Int :=
  if (readInt bs).2.2 ≠ 0 then (⟨#[]⟩, 0, (readInt bs).2.2) else if (bs.length : Int) - (readInt bs).2.1 < (readInt bs).1 then (⟨#[]⟩, 0, 4)
  else (strOfNums ((bs.drop (readInt bs).2.1.toNat).take (readInt bs).1.toNat), (readInt bs).2.1 + (readInt bs).1, 0)

theorem readText_err {bs : List Int} {x n e : Int} (h : readInt bs = (x, n, e)) (he : e ≠ 0) : readText bs = (⟨#[]⟩, 0, e) := by
  unfold readText; rw [h]; simp [he]

theorem readText_short {bs : List Int} {x n : Int} (h : readInt bs = (x, n, 0)) (hs : (bs.length : Int) - n < x) : readText bs = (⟨#[]⟩, 0, 4) := by
  unfold readText; rw [h]; simp [hs]

theorem readText_long {bs : List Int} {x n : Int} (h : readInt bs = (x, n, 0)) (hs : ¬ (bs.length : Int) - n < x) : readText bs = (strOfNums ((bs.drop n.toNat).take x.toNat), n + x, 0) := by
  unfold readText; rw [h]; simp [hs]

theorem tup3s {k l : IntKind} {s s' : ByteArray} {a b a' b' : Int} (hs : s = s') (h : a = a') (h2 : b = b') : Ending.returned (.tuple #[.string s, .int k a, .int l b]) = .returned (.tuple #[.string s', .int k a', .int l b']) := by rw [hs, h, h2]

set_option maxHeartbeats 400000 in
set_option maxRecDepth 100000 in
theorem readText_any (ao : Option Addr) (n c : Nat) (bs : List Int) (w : World) (h : Bs w ao n c bs) :
    Calls Try.prog 97 #[.slice ao n c] w fun e w' => e = .returned (.tuple #[.string (readText bs).1, .int .i64 (readText bs).2.1, .int .i64 (readText bs).2.2]) ∧ w' = w := by
  have cR := readInt_any ao n c bs w h
  have hlen := h.len
  have hmax := h.max
  have hle := h.le
  obtain ⟨x, q, er, hr⟩ : ∃ x q er, readInt bs = (x, q, er) := ⟨_, _, _, rfl⟩
  rw [hr] at cR
  by_cases he : er = 0
  · subst he
    have hb := readInt_shortest h.byt hr
    obtain ⟨hx0, hx1, hq1, hq2⟩ := hb
    have hq0 : 0 ≤ q := by omega
    rw [hlen] at hq2
    clear hq1
    by_cases hs : (n : Int) - q < x
    · rw [readText_short hr (by rw [hlen]; exact hs)]
      clear hr hlen
      have CR := hide cR
      clear cR
      go_enter Try.func97, Try.ntmps97
      go_wp2_with (go_at_call 108; refine (unhide CR).mono ?_; rintro e w' ⟨rfl, rfl⟩)
      go_ret3
      exact ⟨rfl, rfl⟩
    · rw [readText_long hr (by rw [hlen]; exact hs)]
      obtain ⟨Q, rfl⟩ := Int.eq_ofNat_of_zero_le hq0
      obtain ⟨X, rfl⟩ := Int.eq_ofNat_of_zero_le hx0
      obtain ⟨ao', c', hsl, hbs⟩ := h.cut_lh (lo := Q) (hi := Q + X) (by omega) (by omega) Q ((Q : Int) + (X : Int)) rfl (by omega)
      have hst := hbs.str
      rw [Nat.add_sub_cancel_left] at hsl hbs hst
      have hXn : (Q : Int) + (X : Int) ≤ (n : Int) := by omega
      clear hr hlen hbs h hx1 hx0 hq0 hq2
      have CR := hide cR
      clear cR
      rw [Int.toNat_natCast, Int.toNat_natCast]
      go_enter Try.func97, Try.ntmps97
      go_wp2_with (go_at_call 108; refine (unhide CR).mono ?_; rintro e w' ⟨rfl, rfl⟩)
      go_ret3
      exact ⟨rfl, rfl⟩
  · rw [readText_err hr he]
    clear hr hlen
    have CR := hide cR
    clear cR
    have hne : (er != 0) = true := by simpa using he
    go_enter Try.func97, Try.ntmps97
    go_wp2_with (go_at_call 108; refine (unhide CR).mono ?_; rintro e w' ⟨rfl, rfl⟩)
    go_ret3
    exact ⟨rfl, rfl⟩

set_option maxHeartbeats 400000 in
set_option maxRecDepth 100000 in
theorem readText_ref (ao : Option Addr) (n c : Nat) (bs : List Int) (w : World) (h : Bs w ao n c bs) :
    Calls Try.prog 82 #[.slice ao n c] w fun e w' => e = .returned (.tuple #[.string (readText bs).1, .int .i64 (readText bs).2.1, .int .i64 (readText bs).2.2]) ∧ w' = w := by
  have cR := readInt_ref ao n c bs w h
  have hlen := h.len
  have hmax := h.max
  have hle := h.le
  obtain ⟨x, q, er, hr⟩ : ∃ x q er, readInt bs = (x, q, er) := ⟨_, _, _, rfl⟩
  rw [hr] at cR
  by_cases he : er = 0
  · subst he
    have hb := readInt_shortest h.byt hr
    obtain ⟨hx0, hx1, hq1, hq2⟩ := hb
    have hq0 : 0 ≤ q := by omega
    rw [hlen] at hq2
    clear hq1
    by_cases hs : (n : Int) - q < x
    · rw [readText_short hr (by rw [hlen]; exact hs)]
      clear hr hlen
      have CR := hide cR
      clear cR
      go_enter Try.func82, Try.ntmps82
      go_wp2_with (go_at_call 98; refine (unhide CR).mono ?_; rintro e w' ⟨rfl, rfl⟩)
      go_ret3
      exact ⟨rfl, rfl⟩
    · rw [readText_long hr (by rw [hlen]; exact hs)]
      obtain ⟨Q, rfl⟩ := Int.eq_ofNat_of_zero_le hq0
      obtain ⟨X, rfl⟩ := Int.eq_ofNat_of_zero_le hx0
      obtain ⟨ao', c', hsl, hbs⟩ := h.cut_lh (lo := Q) (hi := Q + X) (by omega) (by omega) Q ((Q : Int) + (X : Int)) rfl (by omega)
      have hst := hbs.str
      rw [Nat.add_sub_cancel_left] at hsl hbs hst
      have hXn : (Q : Int) + (X : Int) ≤ (n : Int) := by omega
      clear hr hlen hbs h hx1 hx0 hq0 hq2
      have CR := hide cR
      clear cR
      rw [Int.toNat_natCast, Int.toNat_natCast]
      go_enter Try.func82, Try.ntmps82
      go_wp2_with (go_at_call 98; refine (unhide CR).mono ?_; rintro e w' ⟨rfl, rfl⟩)
      go_ret3
      exact ⟨rfl, rfl⟩
  · rw [readText_err hr he]
    clear hr hlen
    have CR := hide cR
    clear cR
    have hne : (er != 0) = true := by simpa using he
    go_enter Try.func82, Try.ntmps82
    go_wp2_with (go_at_call 98; refine (unhide CR).mono ?_; rintro e w' ⟨rfl, rfl⟩)
    go_ret3
    exact ⟨rfl, rfl⟩

end Go.Proofs.Ytfgghgoonfamkaa

namespace Go.Proofs.Ytfgghgoonfamkaa
open Go.RowKit
set_option linter.unusedVariables false
set_option linter.unusedSimpArgs false


/-- Where the first 0 stands: -1 where there is none. -/
def idx0 : List Int → Int
  | [] => -1
  | b :: l => if b = 0 then 0 else if idx0 l = -1 then -1 else idx0 l + 1

theorem idx0_bounds : ∀ l : List Int, -1 ≤ idx0 l ∧ idx0 l < l.length
  | [] => by simp [idx0]
  | b :: l => by
    have ih := idx0_bounds l
    unfold idx0
    simp only [List.length_cons]
    split
    · omega
    · split <;> omega

theorem idx0_found : ∀ (l : List Int) (i : Nat), i < l.length → l.getD i 0 = 0 → (∀ j, j < i → l.getD j 0 ≠ 0) → idx0 l = i
  | [], i, h, _, _ => by simp at h
  | b :: l, 0, _, h, _ => by simp at h; simp [idx0, h]
  | b :: l, i + 1, hl, h, hn => by
    have h0 := hn 0 (by omega)
    simp at h0
    have ih := idx0_found l i (by simpa using hl) (by simpa using h) (fun j hj => by simpa using hn (j + 1) (by omega))
    unfold idx0
    rw [if_neg h0, if_neg (by rw [ih]; omega), ih]
    rfl

theorem idx0_none : ∀ (l : List Int), (∀ j, j < l.length → l.getD j 0 ≠ 0) → idx0 l = -1
  | [], _ => rfl
  | b :: l, hn => by
    have h0 := hn 0 (by simp)
    simp at h0
    have ih := idx0_none l (fun j hj => by simpa using hn (j + 1) (by simpa using hj))
    unfold idx0
    rw [if_neg h0, if_pos ih]

theorem idx0_lib : ∀ {l : List Int}, Byt l → Lib.indexByte (Lib.bytesOf l) (0 : Int).toNat.toUInt8 = idx0 l
  | [], _ => rfl
  | b :: l, h => by
    have hb := h b (by simp)
    have ih := idx0_lib (l := l) (fun z hz => h z (List.mem_cons_of_mem _ hz))
    show (if (UInt8.ofNat b.toNat == (0 : Int).toNat.toUInt8) = true then (0 : Int) else if (Lib.indexByte (Lib.bytesOf l) (0 : Int).toNat.toUInt8 == -1) = true then -1 else Lib.indexByte (Lib.bytesOf l) (0 : Int).toNat.toUInt8 + 1) = _
    rw [ih]
    show _ = (if b = 0 then (0 : Int) else if idx0 l = -1 then -1 else idx0 l + 1)
    have e : (UInt8.ofNat b.toNat == (0 : Int).toNat.toUInt8) = decide (b = 0) := by
      rw [Bool.eq_iff_iff]
      simp only [beq_iff_eq, decide_eq_true_eq]
      constructor
      · intro hq
        have := congrArg UInt8.toNat hq
        simp only [UInt8.toNat_ofNat'] at this
        have e0 : (0 : Int).toNat = 0 := rfl
        rw [e0] at this
        omega
      · intro hq; subst hq; decide
    rw [e]
    simp

theorem Bs.index {w : World} {ao : Option Addr} {n c : Nat} {bs : List Int} (h : Bs w ao n c bs) :
    (Extern.BytealgIndexByte.indexByte #[.slice ao n c, .int .u8 0]).run Try.prog w = .ok (.int .i64 (idx0 bs)) w := by
  have hl := h.len
  rcases h.at' with h0 | ⟨b, off, rfl, hc⟩
  · subst h0
    have hb : bs = [] := List.eq_nil_of_length_eq_zero hl
    subst hb
    cases ao with
    | none => exact Lib.run_indexByteNil w 0 c 0
    | some a => exact Lib.run_indexByteNil w 0 c 0
  · rw [Lib.run_indexByteSlice w b off n c bs hl hc 0, idx0_lib h.byt]


theorem bytesOf_nums (s : ByteArray) : Lib.bytesOf (nums s) = s.data.toList := by
  have : ((fun n : Int => UInt8.ofNat n.toNat) ∘ fun b : UInt8 => (b.toNat : Int)) = id := by funext b; simp
  simp only [Lib.bytesOf, nums, List.map_map, this, List.map_id]

theorem str_nums (s : ByteArray) : strOfNums (nums s) = s := by
  apply ByteArray.ext
  apply Array.ext'
  show (strOfNums (nums s)).data.toList = _
  rw [strOfNums_data]
  exact bytesOf_nums s

theorem nums_str {l : List Int} (h : Byt l) : nums (strOfNums l) = l := by
  apply nums_inj (nums_byt _) h
  show Lib.bytesOf (nums (strOfNums l)) = _
  rw [bytesOf_nums, strOfNums_data]

theorem nums_at (s : ByteArray) (i : Nat) (h : i < s.size) : (nums s).getD i 0 = (s[i].toNat : Int) := by
  have h2 : i < s.data.size := h
  simp only [nums, List.getD_eq_getElem?_getD, List.getElem?_map, Array.getElem?_toList, Array.getElem?_eq_getElem h2, Option.map_some, Option.getD_some]
  rfl



/-- The result of ReadEnded: the text, how many bytes, the error. -/
def readEnded (bs : List Int) : ByteArray × Int × Int := if idx0 bs < 0 then (⟨#[]⟩, 0, 4) else (strOfNums (bs.take (idx0 bs).toNat), idx0 bs + 1, 0)


/-- None of the first m bytes is 0. -/
def NoZero (bs : List Int) (m : Nat) : Prop := ∀ j, j < m → bs.getD j 0 ≠ 0

theorem NoZero.start (bs : List Int) : NoZero bs 0 := fun j hj => by omega

theorem NoZero.step {bs : List Int} {m : Nat} (h : NoZero bs m) (hm : bs.getD m 0 ≠ 0) : NoZero bs (m + 1) := by
  intro j hj
  by_cases e : j = m
  · subst e; exact hm
  · exact h j (by omega)

theorem readEnded_none {bs : List Int} (h : NoZero bs bs.length) : readEnded bs = (⟨#[]⟩, 0, 4) := by
  unfold readEnded
  rw [idx0_none bs h]
  rfl

theorem readEnded_found {bs : List Int} {m : Nat} (h : NoZero bs m) (hm : m < bs.length) (h0 : bs.getD m 0 = 0) : readEnded bs = (strOfNums (bs.take m), (m : Int) + 1, 0) := by
  unfold readEnded
  rw [idx0_found bs m hm h0 h, if_neg (by omega), Int.toNat_natCast]


end Go.Proofs.Ytfgghgoonfamkaa

namespace Go.Proofs.Ytfgghgoonfamkaa
open Go.RowKit
set_option linter.unusedVariables false
set_option linter.unusedSimpArgs false

theorem form_len (x : Int) : (form x).length = 1 + (widthOf (firstOf x)).toNat := by simp [form, le_length]; omega

set_option maxHeartbeats 400000 in
set_option maxRecDepth 100000 in
theorem putInt_any (B : Nat) (ao : Option Addr) (n c : Nat) (bs : List Int) (x : Int) (w : World) (h : Mine B w ao n c bs) (hB : B ≤ w.heap.size)
    (hx0 : 0 ≤ x) (hx1 : x < 18446744073709551616) (hbound : (n : Int) + 9 ≤ 140737488355328) :
    Calls Try.prog 101 #[.slice ao n c, .int .u64 x] w fun e w' => ∃ ao' c', e = .returned (.slice ao' (n + (form x).length) c') ∧ Mine B w' ao' (n + (form x).length) c' (bs ++ form x) ∧ Below B w w' := by
  have cF := hide (fun w => firstByte_any x w hx0 hx1)
  have hfb := firstOf_byt hx0
  have hw := widthOf_cases (firstOf x)
  have hl := hide (form_len x)
  have hf := hide (show form x = [firstOf x] ++ le x (widthOf (firstOf x)).toNat from rfl)
  obtain ⟨f, hfe⟩ : ∃ f, f = firstOf x := ⟨_, rfl⟩
  rw [← hfe] at cF hfb hw hl hf
  obtain ⟨k, hke⟩ : ∃ k, k = widthOf f := ⟨_, rfl⟩
  have cW := hide (fun w => widthBehind_any f w)
  rw [← hke] at cW hw hl hf
  obtain ⟨hf0, hf1⟩ := hfb
  have hk0 : 0 ≤ k := by omega
  have hk8 : k ≤ 8 := by omega
  clear hfe hke hw hx0 hx1
  have hb0 := below_alloc w (.cells #[.int .u8 f] 5)
  have hs1 := Bs.one w f hf0 hf1
  have hm1 := h.later hb0
  go_enter Try.func101, Try.ntmps101
  go_wp2_with (first
    | (go_at_call 112; refine (unhide cF _).mono ?_; rintro e w' ⟨rfl, hw'⟩; have hw'' := hw'.symm; subst hw'')
    | (at_builtin; refine wpList_app rfl _ _ rfl B _ _ _ _ rfl hm1 _ _ _ _ rfl hs1 (by omega) (by simp; omega) ?_; intro ao2 c2 w2 hm2 hb2)
    | (go_at_call 113; refine (unhide cW _).mono ?_; rintro e w' ⟨rfl, hw'⟩; have hw'' := hw'.symm; subst hw''))
  refine (putFixed_any B ao2 (n + 1) c2 _ x k _ hm2 ?_ hk0 hk8 (by omega)).mono ?_
  · have := hb2.size
    simp at this
    omega
  rintro e w3 ⟨ao3, c3, rfl, hm3, hb3⟩
  go_wp2
  go_ret
  rw [unhide hf]
  rw [List.append_assoc] at hm3
  have e1 : n + 1 + k.toNat = n + (form x).length := by rw [unhide hl]; omega
  rw [e1] at hm3
  have hbb : Below B w w3 := ((hb0.mono hB).trans hb2).trans hb3
  rw [← unhide hf]
  rw [← unhide hf] at hm3
  exact ⟨ao3, c3, by rw [← e1]; rfl, hm3, hbb⟩


end Go.Proofs.Ytfgghgoonfamkaa

namespace Go.Proofs.Ytfgghgoonfamkaa
open Go.RowKit
set_option linter.unusedVariables false
set_option linter.unusedSimpArgs false

set_option maxHeartbeats 400000 in
set_option maxRecDepth 100000 in
theorem appendFixed_bad (ao : Option Addr) (n c : Nat) (x k : Int) (w : World)
    (hx0 : 0 ≤ x) (hx1 : x < 18446744073709551616) (hbad : ¬ (1 ≤ k ∧ k ≤ 8 ∧ x < 2 ^ (8 * k.toNat))) :
    Calls Try.prog 99 #[.slice ao n c, .int .u64 x, .int .i64 k] w fun e w' => e = .returned (.tuple #[.slice none 0 0, .int .i64 2]) ∧ w' = w := by
  have cI := hide (fun w => isWidth_any k w)
  by_cases hk : 1 ≤ k ∧ k ≤ 8
  · rw [show decide (1 ≤ k ∧ k ≤ 8) = true by simpa using hk] at cI
    have cF := hide (fun w => fits_any x k w hx0 hx1 hk.1 hk.2)
    have hf : ¬ x < 2 ^ (8 * k.toNat) := fun hh => hbad ⟨hk.1, hk.2, hh⟩
    rw [show decide (x < 2 ^ (8 * k.toNat)) = false by simpa using hf] at cF
    clear hf hx1 hbad hk
    go_enter Try.func99, Try.ntmps99
    go_wp2_with (first
      | (go_at_call 109; refine (unhide cI _).mono ?_; rintro e w' ⟨rfl, hw'⟩; have hw'' := hw'.symm; subst hw'')
      | (go_at_call 110; refine (unhide cF _).mono ?_; rintro e w' ⟨rfl, hw'⟩; have hw'' := hw'.symm; subst hw''))
    go_ret2
    exact ⟨rfl, rfl⟩
  · rw [show decide (1 ≤ k ∧ k ≤ 8) = false by simpa using hk] at cI
    clear hk hbad hx1
    go_enter Try.func99, Try.ntmps99
    go_wp2_with (go_at_call 109; refine (unhide cI _).mono ?_; rintro e w' ⟨rfl, hw'⟩; have hw'' := hw'.symm; subst hw'')
    go_ret2
    exact ⟨rfl, rfl⟩

set_option maxHeartbeats 400000 in
set_option maxRecDepth 100000 in
theorem appendText_any (ao : Option Addr) (n c : Nat) (bs : List Int) (s : ByteArray) (w : World) (h : Bs w ao n c bs) (hbound : (n : Int) + (s.size : Int) + 9 ≤ 140737488355328) :
    Calls Try.prog 93 #[.slice ao n c, .string s] w fun e w' => ∃ ao' c', e = .returned (.slice ao' (n + (form s.size).length + s.size) c') ∧ Mine w.heap.size w' ao' (n + (form s.size).length + s.size) c' (bs ++ form s.size ++ nums s) ∧ Below w.heap.size w w' := by
  have cS := hide (fun w => size_any (s.size : Int) w (by omega) (by omega))
  have hl := form_length_le (s.size : Int)
  go_enter Try.func93, Try.ntmps93
  go_wp2_with (first
    | (go_at_call 103; refine (unhide cS _).mono ?_; rintro e w' ⟨rfl, hw'⟩; have hw'' := hw'.symm; subst hw'')
    | (go_at_call 102; refine (withRoom_any _ _ _ _ _ _ h (by omega) (by omega)).mono ?_; rintro e w1 ⟨ao1, c1, rfl, hm1, hb1⟩))
  refine (putInt_any w.heap.size ao1 n c1 bs (s.size : Int) _ hm1 hb1.size (by omega) (by omega) (by omega)).mono ?_
  rintro e w2 ⟨ao2, c2, rfl, hm2, hb2⟩
  have hz2 := (hb1.trans hb2).size
  have hconv := run_toBytes s
  have hbw := below_bytesWorld w2 5 s
  have hsw := bs_bytesWorld w2 s (by omega)
  have hm3 := hm2.later hbw
  go_wp2_with (at_builtin; refine wpList_app rfl _ _ rfl w.heap.size _ _ _ _ rfl hm3 _ _ _ _ rfl hsw (by omega) (by rw [Lib.bytesWorld_size]; omega) ?_; intro ao4 c4 w4 hm4 hb4)
  go_ret
  exact ⟨ao4, c4, rfl, hm4, ((hb1.trans hb2).trans (hbw.mono hz2)).trans hb4⟩

theorem idx0_neg {l : List Int} : idx0 l < 0 ↔ (0 : Int) ∉ l := by
  induction l with
  | nil => simp [idx0]
  | cons b l ih =>
    have hb := idx0_bounds l
    show (if b = 0 then (0 : Int) else if idx0 l = -1 then -1 else idx0 l + 1) < 0 ↔ _
    by_cases h : b = 0
    · subst h; simp
    · rw [if_neg h]
      by_cases h2 : idx0 l = -1
      · rw [if_pos h2]
        have := ih.1 (by omega)
        simp [this, Ne.symm h]
      · rw [if_neg h2]
        constructor
        · intro hh; omega
        · intro hh
          have : (0 : Int) ∉ l := fun hq => hh (List.mem_cons_of_mem _ hq)
          have := ih.2 this
          omega



end Go.Proofs.Ytfgghgoonfamkaa
