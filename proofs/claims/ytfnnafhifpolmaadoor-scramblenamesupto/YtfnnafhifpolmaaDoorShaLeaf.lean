/-
  What the small functions of package sha, and those that give the document's answer, return: none of them touches memory. Conditions: a number fits its kind.
-/
import Derived.Test.YtfnnafhifpolmaaDoorUMem
import Derived.Test.YtfnnafhifpolmaaDoorShaPlain
import Derived.BigQuiet
namespace Go.Proofs.YtfnnafhifpolmaaDoor
open Go.RowKit
set_option linter.unusedVariables false
set_option linter.unusedSimpArgs false

theorem and31 (m : Nat) (h1 : m < 32) : bits .and .u64 (m : Int) 31 = (m : Int) := by
  have : ∀ k : Fin 32, bits .and .u64 ((k : Nat) : Int) 31 = ((k : Nat) : Int) := by decide
  exact this ⟨m, h1⟩
theorem and31' (m : Nat) (h0 : 0 < m) (h1 : m < 32) : bits .and .u64 (IntKind.u64.wrap (-(m : Int))) 31 = 32 - (m : Int) := by
  have : ∀ k : Fin 32, 0 < (k : Nat) → bits .and .u64 (IntKind.u64.wrap (-((k : Nat) : Int))) 31 = 32 - ((k : Nat) : Int) := by decide
  exact this ⟨m, h1⟩ h0

set_option maxHeartbeats 400000 in
theorem rotLeft_any (x n : Int) (m : Nat) (hm : n = (m : Int)) (w : World) (hx : Wd x) (h0 : 0 < m) (h1 : m < 32) :
    Calls Tryd.prog 65 #[.int .u32 x, .int .i64 n] w fun e w' => e = .returned (.int .u32 (rot x m)) ∧ w' = w := by
  have hb : bits .and .u64 n 31 = n := by rw [hm]; exact and31 m h1
  obtain ⟨x0, x1⟩ := hx
  have n0 : 0 < n := by omega
  have n1 : n < 32 := by omega
  have e1 := hide (show n.toNat = m by omega)
  have e2 := hide (show (32 - n).toNat = 32 - m by omega)
  have hm' := hide hm
  clear hm
  go_enter Tryd.func65, Tryd.ntmps65
  go_wp2
  go_ret
  refine ⟨?_, rfl⟩
  unfold rot
  rw [← unhide e2, ← unhide e1]
  rfl

set_option maxHeartbeats 400000 in
theorem rotRight_any (x n : Int) (m : Nat) (hm : n = -(m : Int)) (w : World) (hx : Wd x) (h0 : 0 < m) (h1 : m < 32) :
    Calls Tryd.prog 65 #[.int .u32 x, .int .i64 n] w fun e w' => e = .returned (.int .u32 (rot x (32 - m))) ∧ w' = w := by
  obtain ⟨s, hs⟩ : ∃ s : Int, s = 32 - (m : Int) := ⟨_, rfl⟩
  have hb : bits .and .u64 (IntKind.u64.wrap n) 31 = s := by rw [hm, hs]; exact and31' m h0 h1
  obtain ⟨x0, x1⟩ := hx
  have n0 : 0 < s := by omega
  have n1 : s < 32 := by omega
  have e1 := hide (show s.toNat = 32 - m by omega)
  have e2 := hide (show (32 - s).toNat = 32 - (32 - m) by omega)
  have q1 : n < 0 := by omega
  have q2 : -32 < n := by omega
  clear hm hs
  go_enter Tryd.func65, Tryd.ntmps65
  go_wp2
  go_ret
  refine ⟨?_, rfl⟩
  unfold rot
  rw [← unhide e2, ← unhide e1]
  rfl

set_option maxHeartbeats 400000 in
theorem rol_any (x n : Int) (m : Nat) (hm : n = (m : Int)) (w : World) (hx : Wd x) (h0 : 0 < m) (h1 : m < 32) :
    Calls Tryd.prog 59 #[.int .u32 x, .int .i64 n] w fun e w' => e = .returned (.int .u32 (rot x m)) ∧ w' = w := by
  have c := hide (rotLeft_any x n m hm w hx h0 h1)
  clear hm hx
  go_enter Tryd.func59, Tryd.ntmps59
  go_wp2_with fail
  refine same_world (unhide c) ?_
  go_wp2_with fail
  go_ret
  exact ⟨rfl, rfl⟩
set_option maxHeartbeats 400000 in
theorem ror_any (x n : Int) (m : Nat) (hm : n = (m : Int)) (w : World) (hx : Wd x) (h0 : 0 < m) (h1 : m < 32) :
    Calls Tryd.prog 62 #[.int .u32 x, .int .i64 n] w fun e w' => e = .returned (.int .u32 (rot x (32 - m))) ∧ w' = w := by
  have c := hide (rotRight_any x (-n) m (by omega) w hx h0 h1)
  have n0 : 0 < n := by omega
  have n1 : n < 32 := by omega
  clear hm hx
  go_enter Tryd.func62, Tryd.ntmps62
  go_wp2_with fail
  refine same_world (unhide c) ?_
  go_wp2_with fail
  go_ret
  exact ⟨rfl, rfl⟩
set_option maxHeartbeats 400000 in
theorem rol_ref (x n : Int) (m : Nat) (hm : n = (m : Int)) (w : World) (hx : Wd x) (h0 : 0 < m) (h1 : m < 32) :
    Calls Tryd.prog 49 #[.int .u32 x, .int .u64 n] w fun e w' => e = .returned (.int .u32 (rot x m)) ∧ w' = w := by
  obtain ⟨x0, x1⟩ := hx
  have n0 : 0 < n := by omega
  have n1 : n < 32 := by omega
  have e1 := hide (show n.toNat = m by omega)
  have e2 := hide (show (32 - n).toNat = 32 - m by omega)
  clear hm
  go_enter Tryd.func49, Tryd.ntmps49
  go_wp2
  go_ret
  refine ⟨?_, rfl⟩
  unfold rot
  rw [← unhide e2, ← unhide e1]
  rfl

set_option maxHeartbeats 400000 in
theorem chosen_any (x y z : Int) (w : World) :
    Calls Tryd.prog 63 #[.int .u32 x, .int .u32 y, .int .u32 z] w fun e w' => e = .returned (.int .u32 (chs x y z)) ∧ w' = w := by
  have hs : IntKind.u32.signed = false := rfl
  have hm : IntKind.u32.max = 4294967295 := rfl
  go_enter Tryd.func63, Tryd.ntmps63
  go_wp2
  go_ret
  exact ⟨rfl, rfl⟩
set_option maxHeartbeats 400000 in
theorem most_any (x y z : Int) (w : World) :
    Calls Tryd.prog 64 #[.int .u32 x, .int .u32 y, .int .u32 z] w fun e w' => e = .returned (.int .u32 (maj x y z)) ∧ w' = w := by
  go_enter Tryd.func64, Tryd.ntmps64
  go_wp2
  go_ret
  exact ⟨rfl, rfl⟩

set_option maxHeartbeats 400000 in
theorem joined1_any (t : Int) (m : Nat) (ht : t = (m : Int)) (b c d : Int) (w : World) :
    Calls Tryd.prog 60 #[.int .i64 t, .int .u32 b, .int .u32 c, .int .u32 d] w fun e w' => e = .returned (.int .u32 ((f1 m b c d + k1 m) % 4294967296)) ∧ w' = w := by
  have c1 := hide (chosen_any b c d w)
  have c2 := hide (most_any b c d w)
  have cw := chs_wd b c d
  have mw := maj_wd b c d
  obtain ⟨cw0, cw1⟩ := cw
  obtain ⟨mw0, mw1⟩ := mw
  by_cases h1 : m < 20
  · have t1 : t < 20 := by omega
    have hf := hide (show f1 m b c d = chs b c d by simp [f1, h1])
    have hk := hide (show k1 m = 1518500249 by simp [k1, h1])
    clear ht h1
    go_enter Tryd.func60, Tryd.ntmps60
    go_wp2_with fail
    refine same_world (unhide c1) ?_
    go_wp2_with fail
    go_ret
    exact ⟨by rw [unhide hf, unhide hk]; rfl, rfl⟩
  · by_cases h2 : m < 40
    · have t1 : ¬ t < 20 := by omega
      have t2 : t < 40 := by omega
      have hf := hide (show f1 m b c d = par b c d by simp [f1, h1, h2])
      have hk := hide (show k1 m = 1859775393 by simp [k1, h1, h2])
      clear ht h1 h2
      go_enter Tryd.func60, Tryd.ntmps60
      go_wp2_with fail
      go_ret
      exact ⟨by rw [unhide hf, unhide hk]; rfl, rfl⟩
    · by_cases h3 : m < 60
      · have t1 : ¬ t < 20 := by omega
        have t2 : ¬ t < 40 := by omega
        have t3 : t < 60 := by omega
        have hf := hide (show f1 m b c d = maj b c d by simp [f1, h1, h2, h3])
        have hk := hide (show k1 m = 2400959708 by simp [k1, h1, h2, h3])
        clear ht h1 h2 h3
        go_enter Tryd.func60, Tryd.ntmps60
        go_wp2_with fail
        refine same_world (unhide c2) ?_
        go_wp2_with fail
        go_ret
        exact ⟨by rw [unhide hf, unhide hk]; rfl, rfl⟩
      · have t1 : ¬ t < 20 := by omega
        have t2 : ¬ t < 40 := by omega
        have t3 : ¬ t < 60 := by omega
        have hf := hide (show f1 m b c d = par b c d by simp [f1, h1, h2, h3])
        have hk := hide (show k1 m = 3395469782 by simp [k1, h1, h2, h3])
        clear ht h1 h2 h3
        go_enter Tryd.func60, Tryd.ntmps60
        go_wp2_with fail
        go_ret
        exact ⟨by rw [unhide hf, unhide hk]; rfl, rfl⟩

set_option maxHeartbeats 400000 in
theorem round_ref (t : Int) (m : Nat) (ht : t = (m : Int)) (b c d : Int) (w : World) :
    Calls Tryd.prog 50 #[.int .i64 t, .int .u32 b, .int .u32 c, .int .u32 d] w fun e w' => e = .returned (.tuple #[.int .u32 (f1 m b c d), .int .u32 (k1 m)]) ∧ w' = w := by
  have hs : IntKind.u32.signed = false := rfl
  have hm : IntKind.u32.max = 4294967295 := rfl
  by_cases h1 : m < 20
  · have t1 : t < 20 := by omega
    have hf := hide (show f1 m b c d = chs b c d by simp [f1, h1])
    have hk := hide (show k1 m = 1518500249 by simp [k1, h1])
    clear ht h1
    go_enter Tryd.func50, Tryd.ntmps50
    go_wp2_with fail
    go_ret2
    exact ⟨by rw [unhide hf, unhide hk]; rfl, rfl⟩
  · by_cases h2 : m < 40
    · have t1 : ¬ t < 20 := by omega
      have t2 : t < 40 := by omega
      have hf := hide (show f1 m b c d = par b c d by simp [f1, h1, h2])
      have hk := hide (show k1 m = 1859775393 by simp [k1, h1, h2])
      clear ht h1 h2
      go_enter Tryd.func50, Tryd.ntmps50
      go_wp2_with fail
      go_ret2
      exact ⟨by rw [unhide hf, unhide hk]; rfl, rfl⟩
    · by_cases h3 : m < 60
      · have t1 : ¬ t < 20 := by omega
        have t2 : ¬ t < 40 := by omega
        have t3 : t < 60 := by omega
        have hf := hide (show f1 m b c d = maj b c d by simp [f1, h1, h2, h3])
        have hk := hide (show k1 m = 2400959708 by simp [k1, h1, h2, h3])
        clear ht h1 h2 h3
        go_enter Tryd.func50, Tryd.ntmps50
        go_wp2_with fail
        go_ret2
        exact ⟨by rw [unhide hf, unhide hk]; rfl, rfl⟩
      · have t1 : ¬ t < 20 := by omega
        have t2 : ¬ t < 40 := by omega
        have t3 : ¬ t < 60 := by omega
        have hf := hide (show f1 m b c d = par b c d by simp [f1, h1, h2, h3])
        have hk := hide (show k1 m = 3395469782 by simp [k1, h1, h2, h3])
        clear ht h1 h2 h3
        go_enter Tryd.func50, Tryd.ntmps50
        go_wp2_with fail
        go_ret2
        exact ⟨by rw [unhide hf, unhide hk]; rfl, rfl⟩

/-- Four bytes, one behind the other. -/
theorem or4 (a b c d : Int) (a0 : 0 ≤ a) (a1 : a ≤ 255) (b0 : 0 ≤ b) (b1 : b ≤ 255) (c0 : 0 ≤ c) (c1 : c ≤ 255) (d0 : 0 ≤ d) (d1 : d ≤ 255) :
    bits .or .u32 (a * 16777216) (b * 65536) = a * 16777216 + b * 65536 ∧ bits .or .u32 (a * 16777216 + b * 65536) (c * 256) = a * 16777216 + b * 65536 + c * 256 ∧ bits .or .u32 (a * 16777216 + b * 65536 + c * 256) d = be4 a b c d := by
  refine ⟨?_, ?_, ?_⟩
  · rw [u32_or _ _ (by omega) (by omega) (by omega) (by omega), nat_join 24 _ _ (by omega) (by omega)]; omega
  · rw [u32_or _ _ (by omega) (by omega) (by omega) (by omega), nat_join 16 _ _ (by omega) (by omega)]; omega
  · rw [u32_or _ _ (by omega) (by omega) (by omega) (by omega), nat_join 8 _ _ (by omega) (by omega)]; unfold be4; omega
theorem or8 (x d : Int) (a0 : 0 ≤ x) (a1 : x ≤ 16777215) (d0 : 0 ≤ d) (d1 : d ≤ 255) : bits .or .u32 (x * 256) d = x * 256 + d := by
  rw [u32_or _ _ (by omega) (by omega) (by omega) (by omega), nat_join 8 _ _ (by omega) (by omega)]; omega

set_option maxHeartbeats 1000000 in
theorem word_ref (ao : Option Addr) (n c : Nat) (bs : List Int) (i : Int) (m : Nat) (hi : i = (m : Int)) (w : World) (h : Bs w ao n c bs) (hm : 4 * m + 3 < n) (hm2 : m < 100000) :
    Calls Tryd.prog 48 #[.slice ao n c, .int .i64 i] w fun e w' => e = .returned (.int .u32 (be4 (ix bs (4 * m)) (ix bs (4 * m + 1)) (ix bs (4 * m + 2)) (ix bs (4 * m + 3)))) ∧ ∃ k, w' = w.drewN k := by
  obtain ⟨p0, o0, i0, q0⟩ := h.idx (i := 4 * m) (by omega) (4 * i) (by omega)
  obtain ⟨p1, o1, i1, q1⟩ := h.idx (i := 4 * m + 1) (by omega) (4 * i + 1) (by omega)
  obtain ⟨p2, o2, i2, q2⟩ := h.idx (i := 4 * m + 2) (by omega) (4 * i + 2) (by omega)
  obtain ⟨p3, o3, i3, q3⟩ := h.idx (i := 4 * m + 3) (by omega) (4 * i + 3) (by omega)
  obtain ⟨a0, a1⟩ := h.byt.at (4 * m)
  obtain ⟨b0, b1⟩ := h.byt.at (4 * m + 1)
  obtain ⟨c0, c1⟩ := h.byt.at (4 * m + 2)
  obtain ⟨d0, d1⟩ := h.byt.at (4 * m + 3)
  unfold ix
  generalize bs[4 * m]?.getD 0 = X0 at *
  generalize bs[4 * m + 1]?.getD 0 = X1 at *
  generalize bs[4 * m + 2]?.getD 0 = X2 at *
  generalize bs[4 * m + 3]?.getD 0 = X3 at *
  obtain ⟨r1, r2, r3⟩ := or4 X0 X1 X2 X3 a0 a1 b0 b1 c0 c1 d0 d1
  have t0 : 0 ≤ i := by omega
  have t1 : i < 100000 := by omega
  clear h hm hi hm2
  go_enter Tryd.func48, Tryd.ntmps48
  go_wp2_with fail
  go_quiet (fail)
  go_wp2_with fail
  go_ret
  exact ⟨rfl, _, rfl⟩

end Go.Proofs.YtfnnafhifpolmaaDoor
