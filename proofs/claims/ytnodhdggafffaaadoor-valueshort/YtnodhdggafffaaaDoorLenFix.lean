/-
  What ReadFixed and AppendFixed of package lenenc return: the number of so many bytes; a slice in new memory with the number behind. Conditions: a number fits its bytes; lengths together below 2 to the 46.
-/
import Derived.Test.YtnodhdggafffaaaDoorLenPlain
import Derived.Test.YtnodhdggafffaaaDoorSlices
namespace Go.Proofs.YtnodhdggafffaaaDoor
open Go.RowKit
set_option linter.unusedVariables false
set_option linter.unusedSimpArgs false

set_option maxHeartbeats 400000 in
theorem isWidth_any (n : Int) (w : World) :
    Calls Tryd.prog 78 #[.int .i64 n] w fun e w' => e = .returned (.bool (decide (1 ≤ n ∧ n ≤ 8))) ∧ w' = w := by
  by_cases h1 : 1 ≤ n
  · by_cases h2 : n ≤ 8
    · go_enter Tryd.func78, Tryd.ntmps78
      go_wp2
      go_ret
      exact ⟨by simp [h1, h2], rfl⟩
    · have h3 : decide (n ≤ 8) = false := by simpa using h2
      go_enter Tryd.func78, Tryd.ntmps78
      go_wp2
      go_ret
      exact ⟨by simp, rfl⟩
  · have h3 : decide (1 ≤ n) = false := by simpa using h1
    go_enter Tryd.func78, Tryd.ntmps78
    go_wp2
    go_ret
    exact ⟨by simp, rfl⟩

theorem shr_zero (x p : Int) (h0 : 0 ≤ x) (hp : 0 < p) : (x / p == 0) = decide (x < p) := by
  rw [Bool.eq_iff_iff]
  simp only [beq_iff_eq, decide_eq_true_eq]
  constructor
  · intro h
    have := Int.emod_add_mul_ediv x p
    have h2 := Int.emod_lt_of_pos x hp
    rw [h] at this
    omega
  · intro h
    exact Int.ediv_eq_zero_of_lt h0 h

set_option maxHeartbeats 400000 in
theorem fits_any (x n : Int) (w : World) (h0 : 0 ≤ x) (h1 : x < 18446744073709551616) (h2 : 1 ≤ n) (h3 : n ≤ 8) :
    Calls Tryd.prog 79 #[.int .u64 x, .int .i64 n] w fun e w' => e = .returned (.bool (decide (x < 2 ^ (8 * n.toNat)))) ∧ w' = w := by
  go_enter Tryd.func79, Tryd.ntmps79
  go_wp2
  go_ret
  refine ⟨?_, rfl⟩
  have e : (8 * n).toNat = 8 * n.toNat := by omega
  have hp := pow_pos8 n.toNat
  show Ending.returned (Value.bool (x / 2 ^ (8 * n).toNat == 0)) = _
  rw [e, shr_zero x _ h0 hp]

set_option maxHeartbeats 400000 in
theorem readFixed_any (ao : Option Addr) (n c : Nat) (bs : List Int) (k : Int) (w : World) (h : Bs w ao n c bs) :
    Calls Tryd.prog 73 #[.slice ao n c, .int .i64 k] w fun e w' => e = .returned (.tuple #[.int .u64 (readFixed bs k).1, .int .i64 (readFixed bs k).2]) ∧ w' = w := by
  have hlen := h.len
  have hmax := h.max
  have hle := h.le
  by_cases h1 : 1 ≤ k ∧ k ≤ 8
  · have hd : decide (1 ≤ k ∧ k ≤ 8) = true := by simpa using h1
    obtain ⟨hk1, hk2⟩ := h1
    by_cases h2 : (n : Int) < k
    · have e : readFixed bs k = (0, 4) := by simp [readFixed, hk1, hk2, hlen, h2]
      rw [e]
      clear e
      go_enter Tryd.func73, Tryd.ntmps73
      go_wp2_with (go_at_call 78; refine (isWidth_any _ _).mono ?_; rw [hd]; rintro e w' ⟨rfl, rfl⟩)
      go_ret2
      exact ⟨rfl, rfl⟩
    · have e : readFixed bs k = (val bs k.toNat, 0) := by simp [readFixed, hk1, hk2, hlen, h2]
      rw [e]
      clear e
      rcases h.at' with h0 | ⟨b, off, rfl, hcell⟩
      · omega
      have hby := h.byt
      clear h hlen
      go_enter Tryd.func73, Tryd.ntmps73
      go_wp2_with (go_at_call 78; refine (isWidth_any _ _).mono ?_; rw [hd]; rintro e w' ⟨rfl, rfl⟩)
      go_loop [6, 16] (fun x i => ∃ m : Nat, (m : Int) ≤ k ∧ i = .int .i64 m ∧ x = .int .u64 (val bs m)) (fun _ i => (k - intOf i).toNat)
      case atStart => exact ⟨0, by omega, rfl, rfl⟩
      case round =>
        obtain ⟨m, hm, rfl, rfl⟩ := hrel
        by_cases hlt : (m : Int) < k
        · have hcc := hcell m (by omega)
          have hb2 := hby.at m
          have hst := hide (or_step hby m (by omega))
          go_wp2
          go_round
          case rel => exact ⟨m + 1, by omega, by go_num, by rw [unhide hst]⟩
          case measure => simp [intOf]; omega
        · have he := hide (show m = k.toNat by omega)
          go_wp2
          go_ret2
          exact ⟨tup2 (by rw [unhide he]) rfl, rfl⟩
  · have hd : decide (1 ≤ k ∧ k ≤ 8) = false := by simpa using h1
    have e : readFixed bs k = (0, 2) := by simp only [readFixed]; rw [if_pos h1]
    rw [e]
    clear e h1
    go_enter Tryd.func73, Tryd.ntmps73
    go_wp2_with (go_at_call 78; refine (isWidth_any _ _).mono ?_; rw [hd]; rintro e w' ⟨rfl, rfl⟩)
    go_ret2
    exact ⟨rfl, rfl⟩

/-- What withRoom leaves. -/
theorem withRoom_any (ao : Option Addr) (n c : Nat) (bs : List Int) (r : Int) (w : World) (h : Bs w ao n c bs) (hr : 0 ≤ r) (hbound : (n : Int) + r ≤ 140737488355328) :
    Calls Tryd.prog 64 #[.slice ao n c, .int .i64 r] w fun e w' => ∃ ao' c', e = .returned (.slice ao' n c') ∧ Mine w.heap.size w' ao' n c' bs ∧ Below w.heap.size w w' := by
  obtain ⟨R, rfl⟩ := Int.eq_ofNat_of_zero_le hr
  have hlen := hide h.len
  have hmax := h.max
  have hle := h.le
  go_enter Tryd.func64, Tryd.ntmps64
  go_wp2_with (first | (at_make; refine wpList_mk rfl _ _ rfl _ _ _ (n + R) rfl rfl (by omega) (by omega) ?_; intro w1 hm1 hb1 hz1) | (at_builtin; refine wpList_app rfl _ _ rfl _ _ _ _ _ rfl hm1 _ _ _ _ rfl (h.later hb1) (by omega) (by omega) ?_; intro ao1 c1 w2 hm2 hb2))
  go_ret
  rw [Nat.zero_add, List.nil_append] at hm2
  exact ⟨ao1, c1, rfl, hm2, hb1.trans hb2⟩

set_option maxHeartbeats 400000 in
theorem putFixed_any (B : Nat) (ao : Option Addr) (n c : Nat) (bs : List Int) (x k : Int) (w : World) (h : Mine B w ao n c bs) (hB : B ≤ w.heap.size)
    (hk0 : 0 ≤ k) (hk8 : k ≤ 8) (hbound : (n : Int) + k ≤ 140737488355328) :
    Calls Tryd.prog 80 #[.slice ao n c, .int .u64 x, .int .i64 k] w fun e w' => ∃ ao' c', e = .returned (.slice ao' (n + k.toNat) c') ∧ Mine B w' ao' (n + k.toNat) c' (bs ++ le x k.toNat) ∧ Below B w w' := by
  obtain ⟨K, rfl⟩ := Int.eq_ofNat_of_zero_le hk0
  rw [Int.toNat_natCast]
  have hm0 : Mine B w ao (n + 0) c (bs ++ le x 0) := by simpa [le] using h
  clear h
  go_enter Tryd.func80, Tryd.ntmps80
  go_wp2
  go_loopw [0, 9] (fun v i wr => ∃ (m : Nat) (ao1 : Option Addr) (c1 : Nat), m ≤ K ∧ i = .int .i64 m ∧ v = .slice ao1 (n + m) c1 ∧ Mine B wr ao1 (n + m) c1 (bs ++ le x m) ∧ Below B w wr) (fun _ i _ => K - (intOf i).toNat)
  case atStart => exact ⟨0, ao, c, Nat.zero_le _, rfl, rfl, hm0, Below.refl _ _⟩
  case round =>
    obtain ⟨m, ao1, c1, hm, rfl, rfl, hmine, hbel⟩ := hrel
    by_cases hlt : m < K
    · have hsz := hbel.size
      have hb0 := below_alloc wr (.cells #[.int .u8 (x / 2 ^ (8 * m) % 256)] 5)
      have hs1 := Bs.one wr (x / 2 ^ (8 * m) % 256) (by omega) (by omega)
      have hm1 := hmine.later hb0
      have hsh := shr_step x m
      go_wp2_with (at_builtin; refine wpList_app rfl _ _ rfl B _ _ _ _ rfl hm1 _ _ _ _ rfl hs1 (by omega) (by simp; omega) ?_; intro ao2 c2 w2 hm2 hb2)
      have hm3 : Mine B w2 ao2 (n + (m + 1)) c2 (bs ++ le x (m + 1)) := by rw [List.append_assoc] at hm2; exact hm2
      have hb3 : Below B w w2 := (hbel.trans (hb0.mono (by omega))).trans hb2
      go_roundw
      case rel => exact ⟨m + 1, ao2, c2, by omega, by go_num, rfl, hm3, hb3⟩
      case measure => simp [intOf]; omega
    · have e : m = K := by omega
      subst e
      go_wp2
      go_ret
      exact ⟨ao1, c1, rfl, hmine, hbel⟩

set_option maxHeartbeats 400000 in
theorem appendFixed_ok (ao : Option Addr) (n c : Nat) (bs : List Int) (x k : Int) (w : World) (h : Bs w ao n c bs)
    (hx0 : 0 ≤ x) (hx1 : x < 18446744073709551616) (hbound : (n : Int) + 9 ≤ 140737488355328) (hk1 : 1 ≤ k) (hk8 : k ≤ 8) (hf : x < 2 ^ (8 * k.toNat)) :
    Calls Tryd.prog 60 #[.slice ao n c, .int .u64 x, .int .i64 k] w fun e w' => ∃ ao' c', e = .returned (.tuple #[.slice ao' (n + k.toNat) c', .int .i64 0]) ∧ Mine w.heap.size w' ao' (n + k.toNat) c' (bs ++ le x k.toNat) ∧ Below w.heap.size w w' := by
  have cI := hide (fun w => isWidth_any k w)
  rw [show decide (1 ≤ k ∧ k ≤ 8) = true by simp [hk1, hk8]] at cI
  have cF := hide (fun w => fits_any x k w hx0 hx1 hk1 hk8)
  rw [show decide (x < 2 ^ (8 * k.toNat)) = true by simpa using hf] at cF
  clear hf hx1
  go_enter Tryd.func60, Tryd.ntmps60
  go_wp2_with (first
    | (go_at_call 78; refine (unhide cI _).mono ?_; rintro e w' ⟨rfl, hw'⟩; have hw'' := hw'.symm; subst hw'')
    | (go_at_call 79; refine (unhide cF _).mono ?_; rintro e w' ⟨rfl, hw'⟩; have hw'' := hw'.symm; subst hw'')
    | (go_at_call 64; refine (withRoom_any _ _ _ _ _ _ h (by omega) (by omega)).mono ?_; rintro e w1 ⟨ao1, c1, rfl, hm1, hb1⟩))
  refine (putFixed_any w.heap.size ao1 n c1 bs x k _ hm1 hb1.size (by omega) hk8 (by omega)).mono ?_
  rintro e w2 ⟨ao2, c2, rfl, hm2, hb2⟩
  go_wp2
  go_ret2
  exact ⟨ao2, c2, rfl, hm2, hb1.trans hb2⟩


end Go.Proofs.YtnodhdggafffaaaDoor
