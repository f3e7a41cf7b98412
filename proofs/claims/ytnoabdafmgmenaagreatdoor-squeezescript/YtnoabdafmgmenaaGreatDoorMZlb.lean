/-
  Bits of bytes and of sums: the parts of a head, bytes put behind others; and what a head and a sum are, as plain numbers. No program is named here.
  What isFine, Head, readSum, checkEnd and appendSum of package zlib return for any bytes. They write nothing that was there. Conditions: the slices can be read, a number fits its kind.
  What Pack, of package zlib, answers for any bytes. It writes nothing that was there. Conditions: at most 2,000 bytes.
-/
import Derived.Test.YtnoabdafmgmenaaGreatDoorMMem
import Derived.Test.YtnoabdafmgmenaaGreatDoorMAdl
import Derived.BigQuiet
import Derived.Test.YtnoabdafmgmenaaGreatDoorMDef3
namespace Go.Proofs.YtnoabdafmgmenaaGreatDoor
open Go
set_option linter.unusedVariables false

theorem and15_u8 (x : Int) (h0 : 0 ≤ x) (h1 : x ≤ 255) : bits .and .u8 x 15 = x % 16 := by
  rw [u8_and x 15 h0 (by omega) (by omega) (by omega)]
  have : x.toNat &&& (15 : Int).toNat = x.toNat % 16 := Nat.and_two_pow_sub_one_eq_mod x.toNat 4
  rw [this]
  omega
set_option maxRecDepth 20000 in
theorem and32_all : ∀ a : Fin 256, a.val &&& 32 = a.val / 32 % 2 * 32 := by decide
theorem and32_u8 (x : Int) (h0 : 0 ≤ x) (h1 : x ≤ 255) : bits .and .u8 x 32 = x / 32 % 2 * 32 := by
  rw [u8_and x 32 h0 (by omega) (by omega) (by omega)]
  have : x.toNat &&& (32 : Int).toNat = x.toNat / 32 % 2 * 32 := and32_all ⟨x.toNat, by omega⟩
  rw [this]
  omega
theorem or8_i64 (x y : Int) (h0 : 0 ≤ x) (h1 : x ≤ 255) (h2 : 0 ≤ y) (h3 : y ≤ 255) : bits .or .i64 (x * 256) y = x * 256 + y := by
  obtain ⟨X, rfl⟩ := Int.eq_ofNat_of_zero_le h0
  obtain ⟨Y, rfl⟩ := Int.eq_ofNat_of_zero_le h2
  have e1 : (X : Int) * 256 = ((X * 256 : Nat) : Int) := by omega
  show IntKind.i64.wrap ((BitVec.ofInt 64 ((X : Int) * 256) ||| BitVec.ofInt 64 (Y : Int)).toNat : Int) = _
  rw [e1, BitVec.ofInt_natCast, BitVec.ofInt_natCast, BitVec.toNat_or, BitVec.toNat_ofNat, BitVec.toNat_ofNat, Nat.mod_eq_of_lt (show X * 256 < 2 ^ 64 by omega), Nat.mod_eq_of_lt (show Y < 2 ^ 64 by omega), nat_join 8 (X * 256) Y (by omega) (by omega), IntKind.wrap_i64]
  omega
theorem or8_u32 (v x : Int) (h0 : 0 ≤ v) (h1 : v < 16777216) (h2 : 0 ≤ x) (h3 : x ≤ 255) : bits .or .u32 (v * 256) x = v * 256 + x := by
  rw [u32_or _ _ (by omega) (by omega) h2 (by omega), nat_join 8 _ _ (by omega) (by omega)]
  omega
/-- A byte with bits turned is the same only where none is. -/
theorem xor_u8 (x y : Int) (h0 : 0 ≤ x) (h1 : x ≤ 255) (h2 : 0 ≤ y) (h3 : y ≤ 255) : 0 ≤ bits .xor .u8 x y ∧ bits .xor .u8 x y ≤ 255 ∧ (bits .xor .u8 x y = x ↔ y = 0) := by
  rw [u8_xor x y h0 (by omega) h2 (by omega)]
  have hlt : x.toNat ^^^ y.toNat < 2 ^ 8 := Nat.xor_lt_two_pow (by omega) (by omega)
  refine ⟨by omega, by omega, fun h => ?_, fun h => ?_⟩
  · have e : x.toNat ^^^ y.toNat = x.toNat := by omega
    have e2 : x.toNat ^^^ (x.toNat ^^^ y.toNat) = x.toNat ^^^ x.toNat := by rw [e]
    rw [← Nat.xor_assoc, Nat.xor_self, Nat.zero_xor] at e2
    omega
  · subst h
    simp
    omega
/-- A sum as four bytes, the highest first. -/
def sm4 (s : Int) : List Int := [s / 16777216, s / 65536 % 256, s / 256 % 256, s % 256]
/-- A head that is fine. -/
def Fine (x y : Int) : Prop := x % 16 = 8 ∧ x / 16 ≤ 7 ∧ y / 32 % 2 = 0 ∧ (x * 256 + y) % 31 = 0
instance (x y : Int) : Decidable (Fine x y) := inferInstanceAs (Decidable (_ ∧ _ ∧ _ ∧ _))
/-- What Head answers. -/
def hdE (b : List Int) : Int := if b.length < 2 then 4 else if Fine (b[0]?.getD 0) (b[1]?.getD 0) then 0 else 5
/-- What is read of a sum, and what stands behind the stream. -/
def rdS (b : List Int) : Int := b[0]?.getD 0 * 16777216 + b[1]?.getD 0 * 65536 + b[2]?.getD 0 * 256 + b[3]?.getD 0
def ckE (b : List Int) (s : Int) : Int := if b.length < 4 then 4 else if rdS b ≠ s then 8 else if 4 < b.length then 5 else 0
theorem sm4_len (s : Int) : (sm4 s).length = 4 := rfl
theorem sm4_byt {s : Int} (h0 : 0 ≤ s) (h1 : s < 4294967296) : Byt (sm4 s) := by
  intro x hx
  simp [sm4] at hx
  omega
end Go.Proofs.YtnoabdafmgmenaaGreatDoor

namespace Go.Proofs.YtnoabdafmgmenaaGreatDoor
open Go.RowKit
set_option linter.unusedVariables false
set_option linter.unusedSimpArgs false

theorem Bs.drewN {w : World} {ao : Option Addr} {n c : Nat} {bs : List Int} (h : Bs w ao n c bs) (k : Nat) : Bs (w.drewN k) ao n c bs := h.later (below_drewN (Below.refl _ _) k)

set_option maxHeartbeats 1000000 in
theorem isFine_any (x y : Int) (w : World) (h0 : 0 ≤ x) (h1 : x ≤ 255) (h2 : 0 ≤ y) (h3 : y ≤ 255) :
    Calls Tryz.prog 52 #[.int .u8 x, .int .u8 y] w fun e w' => e = .returned (.bool (decide (Fine x y))) ∧ w' = w := by
  have b1 := and15_u8 x h0 h1
  have b2 := and32_u8 y h2 h3
  have b3 := or8_i64 x y h0 h1 h2 h3
  by_cases c1 : x % 16 = 8
  · by_cases c2 : x / 16 ≤ 7
    · by_cases c3 : y / 32 % 2 = 0
      · have hr := hide (show decide (Fine x y) = decide ((x * 256 + y) % 31 = 0) by simp [Fine, c1, c2, c3])
        have d1 : (x % 16 != 8) = false := by simpa using c1
        have d2 : ¬ 7 < x / 16 := by omega
        have d3 : (y / 32 % 2 * 32 == 0) = true := by simp; omega
        clear c1 c3
        go_enter Tryz.func52, Tryz.ntmps52
        go_wp2
        go_ret
        rw [unhide hr]
        exact ⟨by rfl, rfl⟩
      · have hr := hide (show decide (Fine x y) = false by simp [Fine, c3])
        have d1 : (x % 16 != 8) = false := by simpa using c1
        have d2 : ¬ 7 < x / 16 := by omega
        have d3 : (y / 32 % 2 * 32 == 0) = false := by simp; omega
        clear c1 c3
        go_enter Tryz.func52, Tryz.ntmps52
        go_wp2
        go_ret
        rw [unhide hr]
        exact ⟨by rfl, rfl⟩
    · have hr := hide (show decide (Fine x y) = false by simp [Fine, c2])
      have d1 : (x % 16 != 8) = false := by simpa using c1
      have d2 : 7 < x / 16 := by omega
      clear c1
      go_enter Tryz.func52, Tryz.ntmps52
      go_wp2
      go_ret
      rw [unhide hr]
      exact ⟨by rfl, rfl⟩
  · have hr := hide (show decide (Fine x y) = false by simp [Fine, c1])
    have d1 : (x % 16 != 8) = true := by simpa using c1
    clear c1
    go_enter Tryz.func52, Tryz.ntmps52
    go_wp2
    go_ret
    rw [unhide hr]
    exact ⟨by rfl, rfl⟩

set_option maxHeartbeats 1000000 in
theorem head_any (w : World) (ao : Option Addr) (n c : Nat) (bs : List Int) (h : Bs w ao n c bs) :
    Calls Tryz.prog 41 #[.slice ao n c] w fun e w' => e = .returned (.int .i64 (hdE bs)) ∧ Below w.heap.size w w' := by
  have hlen := h.len
  have hmx := h.max
  have hle := h.le
  by_cases h2 : n < 2
  · have hr := hide (show hdE bs = 4 by unfold hdE; rw [if_pos (by omega)])
    have h2' : (n : Int) < 2 := by omega
    clear hlen
    go_enter Tryz.func41, Tryz.ntmps41
    go_wp2_with fail
    go_ret
    rw [unhide hr]
    exact ⟨rfl, Below.refl _ _⟩
  · have hr := hide (show hdE bs = if Fine (bs[0]?.getD 0) (bs[1]?.getD 0) then 0 else 5 by unfold hdE; rw [if_neg (by omega)])
    have h2' : ¬ (n : Int) < 2 := by omega
    obtain ⟨b0, o0, i0, c0⟩ := h.idx (i := 0) (by omega) 0 rfl
    obtain ⟨b1, o1, i1, c1⟩ := h.idx (i := 1) (by omega) 1 rfl
    have y0 := h.byt.at 0
    have y1 := h.byt.at 1
    clear hlen
    generalize bs[0]?.getD 0 = x at *
    generalize bs[1]?.getD 0 = y at *
    have cf := hide (fun w => isFine_any x y w y0.1 y0.2 y1.1 y1.2)
    by_cases hf : Fine x y
    · rw [show decide (Fine x y) = true by simp [hf]] at cf
      rw [if_pos hf] at hr
      clear h hf
      go_enter Tryz.func41, Tryz.ntmps41
      go_wp2_with fail
      go_quiet (first | (go_at_call 52; refine Calls.quiet_of_same (unhide cf _)))
      go_wp2_with fail
      go_ret
      rw [unhide hr]
      exact ⟨rfl, below_drewN (Below.refl _ _) nq⟩
    · rw [show decide (Fine x y) = false by simp [hf]] at cf
      rw [if_neg hf] at hr
      clear h hf
      go_enter Tryz.func41, Tryz.ntmps41
      go_wp2_with fail
      go_quiet (first | (go_at_call 52; refine Calls.quiet_of_same (unhide cf _)))
      go_wp2_with fail
      go_ret
      rw [unhide hr]
      exact ⟨rfl, below_drewN (Below.refl _ _) nq⟩

/-- What has been read of a sum. -/
def vS (bs : List Int) : Nat → Int
  | 0 => 0
  | k + 1 => vS bs k * 256 + bs[k]?.getD 0
theorem vS_bd {bs : List Int} (h : Byt bs) : ∀ k, k < 4 → 0 ≤ vS bs k ∧ vS bs k < 16777216 := by
  have a0 := h.at 0
  have a1 := h.at 1
  have a2 := h.at 2
  intro k hk
  have hc : k = 0 ∨ k = 1 ∨ k = 2 ∨ k = 3 := by omega
  rcases hc with rfl | rfl | rfl | rfl <;> simp only [vS] <;> omega
theorem vS_four (bs : List Int) : vS bs 4 = rdS bs := by
  simp only [vS, rdS]
  omega
theorem vS_pre (bs : List Int) : vS (bs.take 4) 4 = vS bs 4 := by
  have g : ∀ i, i < 4 → (bs.take 4)[i]? = bs[i]? := fun i hi => List.getElem?_take_of_lt hi
  simp only [vS, g 0 (by omega), g 1 (by omega), g 2 (by omega), g 3 (by omega)]

set_option maxHeartbeats 1000000 in
theorem readSum_any (w : World) (ao : Option Addr) (n c : Nat) (bs : List Int) (h : Bs w ao n c bs) (h4 : 4 ≤ n) :
    Calls Tryz.prog 56 #[.slice ao n c] w fun e w' => e = .returned (.int .u32 (rdS bs)) ∧ w' = w := by
  have hmx := h.max
  have hle := h.le
  have hR := hide (show rdS bs = vS (bs.take 4) 4 by rw [vS_pre, vS_four])
  obtain ⟨a2, k2, hc2, hi2⟩ := h.cut_h h4 4 rfl
  have H := hide hi2
  clear h hi2
  generalize bs.take 4 = cs at *
  go_enter Tryz.func56, Tryz.ntmps56
  go_wp2_with fail
  go_loop [3, 9] (fun t i => ∃ k : Nat, k ≤ 4 ∧ i = .int .i64 (k : Int) ∧ t = .int .u32 (vS cs k)) (fun _ i => 4 - (intOf i).toNat)
  case atStart => exact ⟨0, by omega, rfl, rfl⟩
  case round =>
    obtain ⟨k, hk, rfl, rfl⟩ := hrel
    by_cases hlt : k < 4
    · have hlt' : (k : Int) < 4 := by omega
      have bd := vS_bd (unhide H).byt k hlt
      have by1 := (unhide H).byt.at k
      obtain ⟨bb, of, hix, hcx⟩ := (unhide H).idx hlt (k : Int) rfl
      have hs := hide (show vS cs (k + 1) = vS cs k * 256 + cs[k]?.getD 0 from rfl)
      have ho := or8_u32 (vS cs k) (cs[k]?.getD 0) bd.1 bd.2 by1.1 by1.2
      generalize cs[k]?.getD 0 = X at *
      generalize vS cs k = V at *
      go_wp2_with fail
      go_round
      case rel => exact ⟨k + 1, by omega, by go_num, by rw [unhide hs]⟩
      case measure => simp [intOf]; omega
    · have e : k = 4 := by omega
      subst e
      go_wp2_with fail
      go_ret
      rw [unhide hR]
      exact ⟨rfl, rfl⟩

set_option maxHeartbeats 1000000 in
theorem checkEnd_any (w : World) (ao : Option Addr) (n c : Nat) (bs : List Int) (s : Int) (h : Bs w ao n c bs) :
    Calls Tryz.prog 43 #[.slice ao n c, .int .u32 s] w fun e w' => e = .returned (.int .i64 (ckE bs s)) ∧ w' = w := by
  have hlen := h.len
  have hmx := h.max
  have hle := h.le
  by_cases h4 : n < 4
  · have hr := hide (show ckE bs s = 4 by unfold ckE; rw [if_pos (by omega)])
    have h4' : (n : Int) < 4 := by omega
    clear hlen
    go_enter Tryz.func43, Tryz.ntmps43
    go_wp2_with fail
    go_ret
    rw [unhide hr]
    exact ⟨rfl, rfl⟩
  have h4' : ¬ (n : Int) < 4 := by omega
  have rc := hide (readSum_any w ao n c bs h (by omega))
  by_cases hs : rdS bs = s
  · have hs' : (rdS bs != s) = false := by simpa using hs
    by_cases h5 : 4 < n
    · have hr := hide (show ckE bs s = 5 by unfold ckE; rw [if_neg (by omega), if_neg (by simpa using hs), if_pos (by omega)])
      have h5' : (4 : Int) < (n : Int) := by omega
      clear hlen h hs
      generalize rdS bs = R at *
      go_enter Tryz.func43, Tryz.ntmps43
      go_wp2_with fail
      refine same_world (unhide rc) ?_
      go_wp2_with fail
      go_ret
      rw [unhide hr]
      exact ⟨rfl, rfl⟩
    · have hr := hide (show ckE bs s = 0 by unfold ckE; rw [if_neg (by omega), if_neg (by simpa using hs), if_neg (by omega)])
      have h5' : ¬ (4 : Int) < (n : Int) := by omega
      clear hlen h hs
      generalize rdS bs = R at *
      go_enter Tryz.func43, Tryz.ntmps43
      go_wp2_with fail
      refine same_world (unhide rc) ?_
      go_wp2_with fail
      go_ret
      rw [unhide hr]
      exact ⟨rfl, rfl⟩
  · have hs' : (rdS bs != s) = true := by simpa using hs
    have hr := hide (show ckE bs s = 8 by unfold ckE; rw [if_neg (by omega), if_pos hs])
    clear hlen h hs
    generalize rdS bs = R at *
    go_enter Tryz.func43, Tryz.ntmps43
    go_wp2_with fail
    refine same_world (unhide rc) ?_
    go_wp2_with fail
    go_ret
    rw [unhide hr]
    exact ⟨rfl, rfl⟩

theorem Byt.four {a b c d : Int} (h1 : 0 ≤ a ∧ a ≤ 255) (h2 : 0 ≤ b ∧ b ≤ 255) (h3 : 0 ≤ c ∧ c ≤ 255) (h4 : 0 ≤ d ∧ d ≤ 255) : Byt [a, b, c, d] :=
  Byt.cons h1.1 h1.2 (Byt.cons h2.1 h2.2 (Byt.cons h3.1 h3.2 (Byt.one h4.1 h4.2)))

set_option maxHeartbeats 1000000 in
theorem appendSum_any (B : Nat) (w : World) (ao : Option Addr) (n c : Nat) (bs : List Int) (s : Int) (h : Mine B w ao n c bs) (hn : n ≤ 1000000) (hB : B ≤ w.heap.size) (s0 : 0 ≤ s) (s1 : s < 4294967296) :
    Calls Tryz.prog 48 #[.slice ao n c, .int .u32 s] w fun e w' => ∃ a1 c1, e = .returned (.slice a1 (n + 4) c1) ∧ Mine B w' a1 (n + 4) c1 (bs ++ sm4 s) ∧ Below B w w' := by
  have bb := below_alloc w (.cells #[.int .u8 (s / 16777216), .int .u8 (s / 65536 % 256), .int .u8 (s / 256 % 256), .int .u8 (s % 256)] 5)
  have M := hide (h.later bb)
  have L := hide (show Bs (w.alloc (.cells #[.int .u8 (s / 16777216), .int .u8 (s / 65536 % 256), .int .u8 (s / 256 % 256), .int .u8 (s % 256)] 5)) (some ⟨w.heap.size, 0, none⟩) 4 4 (sm4 s) from Bs.lit w (sm4 s) (sm4_byt s0 s1) (by rw [sm4_len]; omega))
  have BB := hide (bb.mono hB)
  clear h bb
  have z1 : w.heap.size ≤ (w.alloc (.cells #[.int .u8 (s / 16777216), .int .u8 (s / 65536 % 256), .int .u8 (s / 256 % 256), .int .u8 (s % 256)] 5)).heap.size := by simp
  go_enter Tryz.func48, Tryz.ntmps48
  go_wp2_with (at_builtin; refine wpList_app rfl (.tmp 5) (.tmp 17) rfl B ao n c bs rfl (unhide M) _ 4 4 (sm4 s) rfl (unhide L) (by omega) (Nat.le_trans hB z1) ?_; intro a1 c1 w1 m1 b1)
  go_ret
  exact ⟨a1, c1, rfl, m1, (unhide BB).trans b1⟩
end Go.Proofs.YtnoabdafmgmenaaGreatDoor

namespace Go.Proofs.YtnoabdafmgmenaaGreatDoor
open Go.RowKit
set_option linter.unusedVariables false
set_option linter.unusedSimpArgs false

/-- The wrapped stream. -/
def pkd (bs : List Int) : List Int := 120 :: 1 :: (dfl bs ++ sm4 (sumOf bs))
theorem pkd_len (bs : List Int) : (pkd bs).length = (dfl bs).length + 6 := by simp [pkd, sm4]
theorem sumOf_bd (bs : List Int) : 0 ≤ sumOf bs ∧ sumOf bs < 4294967296 := more_bounds 1 bs

theorem dfl_len5 (bs : List Int) : (dfl bs).length ≤ bs.length + 5 := by
  have h : (sto bs).length = bs.length + 5 := by unfold sto; simp
  unfold dfl
  split <;> omega
theorem Mine.lit (w : World) (l : List Int) (h : Byt l) (hl : l.length ≤ 1000) : Mine w.heap.size (w.alloc (.cells (l.map (Value.int .u8)).toArray 5)) (Option.some ⟨w.heap.size, 0, none⟩) l.length l.length l :=
  ⟨rfl, ⟨by simp, .inr ⟨w.heap.size, l.length, _, rfl, Nat.le_refl _, heap_alloc_new w _, Nat.le_refl _, by unfold maxLen; omega, by simp, by simp [List.take_of_length_le]⟩⟩, h⟩

set_option maxHeartbeats 1000000 in
theorem pack_any (w : World) (bo : Option Addr) (bn bc : Nat) (bs : List Int) (hb : Bs w bo bn bc bs) (hn : bn ≤ 2000) :
    Calls Tryz.prog 38 #[.slice bo bn bc] w fun e w' => ∃ ao n c, e = .returned (.slice ao n c) ∧ Mine w.heap.size w' ao n c (pkd bs) ∧ Below w.heap.size w w' := by
  have HB := hide hb
  have hlen := hide hb.len
  have hpk := hide (show pkd bs = [120, 1] ++ dfl bs ++ sm4 (sumOf bs) by simp [pkd])
  have hsb := sumOf_bd bs
  have bb := below_alloc w (.cells #[.int .u8 120, .int .u8 1] 5)
  have M0 := hide (show Mine w.heap.size (w.alloc (.cells #[.int .u8 120, .int .u8 1] 5)) (some ⟨w.heap.size, 0, none⟩) 2 2 [120, 1] from Mine.lit w [120, 1] (Byt.cons (by decide) (by decide) (Byt.one (by decide) (by decide))) (by decide))
  have BB := hide bb
  have dc := hide (deflate_any _ bo bn bc bs (hb.later bb) hn)
  have hdl := hide (dfl_len5 bs)
  clear hb bb
  go_enter Tryz.func38, Tryz.ntmps38
  go_wp2_with fail
  refine (unhide dc).mono ?_
  rintro e w1 ⟨a1, n1, c1, rfl, m1, b1⟩
  have B1 := hide ((unhide BB).trans (b1.mono (unhide BB).size))
  have M1 := hide ((unhide M0).later b1)
  have D1 := hide m1.bs
  have hn1 : n1 ≤ 3000 := by have := m1.len; have := unhide hdl; have := unhide hlen; omega
  clear m1 b1 dc BB M0
  go_wp2_with (at_builtin; refine wpList_app rfl (.tmp 4) (.tmp 6) rfl w.heap.size _ 2 2 _ rfl (unhide M1) a1 n1 c1 _ rfl (unhide D1) (by omega) (unhide B1).size ?_; intro a2 c2 w2 m2 b2)
  have B2 := hide ((unhide B1).trans b2)
  have M2 := hide m2
  have sc := hide (adsum_any bo bn bc bs w2 ((unhide HB).later (unhide B2)))
  clear m2 b2
  go_wp2_with fail
  refine same_world (unhide sc) ?_
  have ac := hide (appendSum_any w.heap.size w2 a2 (2 + n1) c2 _ (sumOf bs) (unhide M2) (by omega) (unhide B2).size hsb.1 hsb.2)
  clear sc M1 D1 M2 B1
  go_wp2_with fail
  refine (unhide ac).mono ?_
  rintro e w3 ⟨a3, c3, rfl, m3, b3⟩
  rw [← unhide hpk] at m3
  have M3 := hide m3
  have B3 := hide ((unhide B2).trans b3)
  clear m3 b3 ac B2
  go_wp2_with fail
  go_ret
  exact ⟨a3, _, c3, rfl, unhide M3, unhide B3⟩

end Go.Proofs.YtnoabdafmgmenaaGreatDoor
