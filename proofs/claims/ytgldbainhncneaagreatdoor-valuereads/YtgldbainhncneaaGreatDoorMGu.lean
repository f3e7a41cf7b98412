/-
  The document's own number, cut and small. They write nothing that was there. Conditions: a text that may be.
  The document's own clockRead. It writes nothing that was there. Conditions: a text that may be.
  The document's own guess, of numbers and texts. It writes nothing that was there. Conditions: a text that may be; the type is a byte.
  The document's own guess, of dates. It writes nothing that was there. Conditions: a text that may be; the type is a byte.
  The document's own guess, of times. It writes nothing that was there. Conditions: a text that may be; the type is a byte.
-/
import Derived.Test.YtgldbainhncneaaGreatDoorVaNx
import Derived.Test.YtgldbainhncneaaGreatDoorVrCk
import Derived.Test.YtgldbainhncneaaGreatDoorVaOf1
namespace Go.Proofs.YtgldbainhncneaaGreatDoor
open Go.RowKit
set_option linter.unusedVariables false
set_option linter.unusedSimpArgs false

/-- The digits of a text behind x; nothing: no number below 2^64. -/
def rnF : List UInt8 → Nat → Option Nat
  | [], x => some x
  | c :: r, x => if c.toNat < 48 ∨ 57 < c.toNat then none else if (18446744073709551615 - (c.toNat - 48)) / 10 < x then none else rnF r (x * 10 + (c.toNat - 48))
def rnum (l : List UInt8) : Option Nat := if l.length = 0 ∨ 20 < l.length then none else rnF l 0
def rcut : List UInt8 → UInt8 → Option (List UInt8 × List UInt8)
  | [], _ => none
  | a :: r, c => if a = c then some ([], r) else (rcut r c).map fun p => (a :: p.1, p.2)

theorem str_ln (s : ByteArray) : s.data.toList.length = s.size := Array.length_toList
theorem str_at (s : ByteArray) (i : Nat) (h : i < s.size) : s.data.toList.drop i = s[i] :: s.data.toList.drop (i + 1) := by
  rw [List.drop_eq_getElem_cons (by rw [str_ln]; exact h)]
  rfl
theorem rcut_at {l r : List UInt8} {a c : UInt8} {RES : Option (List UInt8 × List UInt8)} {i : Nat} (hl : l.drop i = a :: r) (hr : (rcut (l.drop i) c).map (fun p => (l.take i ++ p.1, p.2)) = RES) : (a = c → RES = some (l.take i, r)) ∧ (a ≠ c → (rcut (l.drop (i + 1)) c).map (fun p => (l.take (i + 1) ++ p.1, p.2)) = RES) := by
  have hr2 : l.drop (i + 1) = r := by rw [← List.tail_drop, hl]; rfl
  have ht : l.take (i + 1) = l.take i ++ [a] := by
    rw [List.take_add, hl]; rfl
  rw [hl] at hr
  refine ⟨fun h => ?_, fun h => ?_⟩
  · rw [← hr, rcut, if_pos h]; simp
  · rw [← hr, rcut, if_neg h, hr2, ht, Option.map_map]
    congr 1
    funext p
    simp
def cutV (s : ByteArray) : Option (List UInt8 × List UInt8) → Array Value
  | some p => #[.string (tb p.1), .string (tb p.2), .bool true]
  | none => #[.string s, .string (tb []), .bool false]
theorem cutV_some {s : ByteArray} {i : Nat} {RES : Option (List UInt8 × List UInt8)} (hi : i < s.size) (h : RES = some (s.data.toList.take i, s.data.toList.drop (i + 1))) : cutV s RES = #[.string (s.extract 0 i), .string (s.extract (i + 1) s.size), .bool true] := by
  rw [h, cutV, ← str_take s i (by omega), ← str_drop s (i + 1), tb_self', tb_self']
theorem u8_eq {a : UInt8} {c : Nat} (hc : c < 256) : a = UInt8.ofNat c ↔ a.toNat = c := by
  constructor
  · rintro rfl; simp; omega
  · rintro rfl; simp

set_option maxHeartbeats 4000000 in
set_option maxRecDepth 100000 in
theorem cut_ref (s : ByteArray) (c : Nat) (w : World) (hs : s.size ≤ 1099511627776) (hc : c < 256) : Calls Tryz.prog 68 #[.string s, .int .u8 (c : Int)] w fun e w' => e = .returned (.tuple (cutV s (rcut s.data.toList (UInt8.ofNat c)))) ∧ Below w.heap.size w w' := by
  obtain ⟨RES, hRES⟩ : ∃ z, z = rcut s.data.toList (UInt8.ofNat c) := ⟨_, rfl⟩
  rw [← hRES]
  have hat := hide (str_at s)
  go_enter Tryz.func68, Tryz.ntmps68
  go_wp2_with fail
  go_loopw [7] (fun iv wr => ∃ i : Nat, i ≤ s.size ∧ iv = .int .i64 (i : Int) ∧ (rcut (s.data.toList.drop i) (UInt8.ofNat c)).map (fun p => (s.data.toList.take i ++ p.1, p.2)) = RES ∧ Below w.heap.size w wr) (fun iv _ => s.size - (intOf iv).toNat)
  case atStart => exact ⟨0, Nat.zero_le _, rfl, by rw [hRES, List.drop_zero, List.take_zero]; cases rcut s.data.toList (UInt8.ofNat c) <;> rfl, Below.refl _ _⟩
  case round =>
    obtain ⟨i, hi, rfl, hr, hb⟩ := hrel
    by_cases hgo : i < s.size
    · have H := hide (rcut_at (unhide hat i hgo) hr)
      have HB := hide hb
      clear hr hb hRES
      by_cases hq : s[i].toNat = c
      · have hE := cutV_some hgo ((unhide H).1 ((u8_eq hc).2 hq))
        have HE := hide hE
        have d0 : ((s[i].toNat : Int) == (c : Int)) = true := by simp [hq]
        clear hE H hq
        go_wp2_with fail
        go_region
        all_goals
          go_wp2_with fail
          go_ret3
          exact ⟨by rw [unhide HE] <;> rfl, (unhide HB).drew⟩
      · have H2 := hide ((unhide H).2 (fun z => hq ((u8_eq hc).1 z)))
        have d0 : ((s[i].toNat : Int) == (c : Int)) = false := by simp; omega
        clear H hq
        go_wp2_with fail
        exact ⟨⟨i + 1, by omega, rfl, unhide H2, unhide HB⟩, by simp [intOf]; omega⟩
    · have hn : RES = none := by rw [← hr, List.drop_of_length_le (by rw [str_ln]; omega)]; rfl
      clear hr hRES
      subst hn
      go_wp2_with fail
      go_ret3
      exact ⟨rfl, hb⟩

def nmO (R : Option Nat) : Array Value := #[.int .u64 ((R.getD 0 : Nat) : Int), .bool R.isSome]
theorem rnF_at {l r : List UInt8} {a : UInt8} {x i : Nat} {RES : Option Nat} (hx : x < 18446744073709551616) (hl : l.drop i = a :: r) (hr : rnF (l.drop i) x = RES) : ((a.toNat < 48 ∨ 57 < a.toNat) → nmO RES = #[.int .u64 0, .bool false]) ∧ (¬ (a.toNat < 48 ∨ 57 < a.toNat) → (18446744073709551615 - (a.toNat - 48)) / 10 < x → nmO RES = #[.int .u64 0, .bool false]) ∧ (¬ (a.toNat < 48 ∨ 57 < a.toNat) → ¬ (18446744073709551615 - (a.toNat - 48)) / 10 < x → rnF (l.drop (i + 1)) (x * 10 + (a.toNat - 48)) = RES ∧ x * 10 + (a.toNat - 48) < 18446744073709551616) := by
  have hr2 : l.drop (i + 1) = r := by rw [← List.tail_drop, hl]; rfl
  rw [hl, rnF] at hr
  refine ⟨fun h => ?_, fun h g => ?_, fun h g => ?_⟩
  · rw [← hr, if_pos h]; rfl
  · rw [← hr, if_neg h, if_pos g]; rfl
  · rw [← hr, if_neg h, if_neg g, hr2]
    exact ⟨rfl, by omega⟩

set_option maxHeartbeats 4000000 in
set_option maxRecDepth 100000 in
theorem number_ref (s : ByteArray) (w : World) (hs : s.size ≤ 1099511627776) : Calls Tryz.prog 67 #[.string s] w fun e w' => e = .returned (.tuple (nmO (rnum s.data.toList))) ∧ Below w.heap.size w w' := by
  by_cases h0 : s.size = 0 ∨ 20 < s.size
  · rw [rnum, str_ln, if_pos h0]
    by_cases h1 : s.size = 0
    · have d0 : ((s.size : Int) == 0) = true := by simp [h1]
      clear h0
      go_enter Tryz.func67, Tryz.ntmps67
      go_wp2_with fail
      go_ret2
      exact ⟨rfl, Below.refl _ _⟩
    · have d0 : ((s.size : Int) == 0) = false := beq_eq_false_iff_ne.2 (by omega)
      have d1 : decide (20 < (s.size : Int)) = true := decide_eq_true (by omega)
      clear h0
      go_enter Tryz.func67, Tryz.ntmps67
      go_wp2_with fail
      go_ret2
      exact ⟨rfl, Below.refl _ _⟩
  rw [rnum, str_ln, if_neg h0]
  have d0 : ((s.size : Int) == 0) = false := beq_eq_false_iff_ne.2 (by omega)
  have d1 : decide (20 < (s.size : Int)) = false := decide_eq_false (by omega)
  obtain ⟨RES, hRES⟩ : ∃ z, z = rnF s.data.toList 0 := ⟨_, rfl⟩
  rw [← hRES]
  have hat := hide (str_at s)
  have h20 : s.size ≤ 20 := by omega
  clear h0
  go_enter Tryz.func67, Tryz.ntmps67
  go_wp2_with fail
  go_loopw [4, 5] (fun xv iv wr => ∃ x i : Nat, i ≤ s.size ∧ x < 18446744073709551616 ∧ xv = .int .u64 (x : Int) ∧ iv = .int .i64 (i : Int) ∧ rnF (s.data.toList.drop i) x = RES ∧ Below w.heap.size w wr) (fun _ iv _ => s.size - (intOf iv).toNat)
  case atStart => exact ⟨0, 0, Nat.zero_le _, by omega, rfl, rfl, by rw [hRES, List.drop_zero], Below.refl _ _⟩
  case round =>
    obtain ⟨x, i, hi, hx, rfl, rfl, hr, hb⟩ := hrel
    by_cases hgo : i < s.size
    · have H := hide (rnF_at hx (unhide hat i hgo) hr)
      have HB := hide hb
      have h256 : s[i].toNat < 256 := UInt8.toNat_lt _
      clear hr hb hRES
      obtain ⟨A, hA⟩ : ∃ z, z = s[i].toNat := ⟨_, rfl⟩
      rw [← hA] at H h256
      have hA2 := hA.symm
      clear hA
      by_cases q1 : A < 48 ∨ 57 < A
      · have HE := hide ((unhide H).1 q1)
        clear H
        by_cases q2 : A < 48
        · have e0 : decide ((A : Int) < 48) = true := decide_eq_true (by omega)
          clear q1
          go_wp2_with fail
          go_ret2
          exact ⟨by rw [unhide HE] <;> rfl, unhide HB⟩
        · have e0 : decide ((A : Int) < 48) = false := decide_eq_false (by omega)
          have e1 : decide (57 < (A : Int)) = true := decide_eq_true (by omega)
          clear q1
          go_wp2_with fail
          go_ret2
          exact ⟨by rw [unhide HE] <;> rfl, unhide HB⟩
      · have e0 : decide ((A : Int) < 48) = false := decide_eq_false (by omega)
        have e1 : decide (57 < (A : Int)) = false := decide_eq_false (by omega)
        have w1 : IntKind.u8.wrap ((A : Int) - 48) = (A : Int) - 48 := by rw [IntKind.wrap_u8]; omega
        have w2 : IntKind.u64.wrap ((A : Int) - 48) = (A : Int) - 48 := by rw [IntKind.wrap_u64]; omega
        go_wp2_with fail
        · rename_i hz
          go_ret2
          exact ⟨by rw [(unhide H).2.1 q1 (by omega)] <;> rfl, unhide HB⟩
        · rename_i hz
          have H2 := (unhide H).2.2 q1 (by omega)
          exact ⟨⟨x * 10 + (A - 48), i + 1, by omega, H2.2, by congr 1; omega, rfl, H2.1, unhide HB⟩, by simp [intOf]; omega⟩
    · have hn : RES = some x := by rw [← hr, List.drop_of_length_le (by rw [str_ln]; omega)]; rfl
      clear hr hRES
      subst hn
      go_wp2_with fail
      go_ret2
      exact ⟨rfl, hb⟩

theorem rnF_lt {l : List UInt8} : ∀ {x y : Nat}, x < 18446744073709551616 → rnF l x = some y → y < 18446744073709551616 := by
  induction l with
  | nil => intro x y hx h; rw [rnF] at h; cases h; exact hx
  | cons a r ih =>
    intro x y hx h
    rw [rnF] at h
    by_cases q : a.toNat < 48 ∨ 57 < a.toNat
    · rw [if_pos q] at h; cases h
    · rw [if_neg q] at h
      by_cases g : (18446744073709551615 - (a.toNat - 48)) / 10 < x
      · rw [if_pos g] at h; cases h
      · rw [if_neg g] at h
        exact ih (by omega) h
theorem rnum_lt {l : List UInt8} {y : Nat} (h : rnum l = some y) : y < 18446744073709551616 := by
  unfold rnum at h
  split at h
  · cases h
  · exact rnF_lt (by omega) h
/-- A number below 2^20, or -1. -/
def rsml (l : List UInt8) : Int := match rnum l with | some x => if x < 1048576 then (x : Int) else -1 | none => -1

set_option maxHeartbeats 4000000 in
set_option maxRecDepth 100000 in
theorem small_ref (s : ByteArray) (w : World) (hs : s.size ≤ 1099511627776) : Calls Tryz.prog 70 #[.string s] w fun e w' => e = .returned (.int .i64 (rsml s.data.toList)) ∧ Below w.heap.size w w' := by
  have cN := number_ref s w hs
  unfold rsml
  have hlt := @rnum_lt s.data.toList
  generalize rnum s.data.toList = RES at *
  cases RES with
  | none =>
    have CN := hide cN
    clear cN hlt
    go_enter Tryz.func70, Tryz.ntmps70
    go_wp2_with fail
    refine (unhide CN).mono ?_
    rintro e w1 ⟨rfl, b1⟩
    simp only [nmO, Option.getD_none, Option.isSome_none]
    go_wp2_with fail
    go_ret
    exact ⟨rfl, b1⟩
  | some x =>
    have CN := hide cN
    have hx := hlt rfl
    clear cN hlt
    by_cases hq : x < 1048576
    · simp only [if_pos hq]
      go_enter Tryz.func70, Tryz.ntmps70
      go_wp2_with fail
      refine (unhide CN).mono ?_
      rintro e w1 ⟨rfl, b1⟩
      rw [show nmO (some x) = #[.int .u64 (x : Int), .bool true] from rfl]
      obtain ⟨X, hX⟩ : ∃ z : Int, z = (x : Int) := ⟨_, rfl⟩
      rw [← hX]
      have e0 : X < 1048576 := by omega
      have e1 : 0 ≤ X := by omega
      have HX := hide hX
      clear hX
      clear hx hq CN
      go_wp2_with fail
      go_ret
      first | exact ⟨by rw [unhide HX] <;> rfl, b1⟩ | exact ⟨rfl, b1⟩
    · simp only [if_neg hq]
      go_enter Tryz.func70, Tryz.ntmps70
      go_wp2_with fail
      refine (unhide CN).mono ?_
      rintro e w1 ⟨rfl, b1⟩
      rw [show nmO (some x) = #[.int .u64 (x : Int), .bool true] from rfl]
      obtain ⟨X, hX⟩ : ∃ z : Int, z = (x : Int) := ⟨_, rfl⟩
      rw [← hX]
      have e0 : 1048576 ≤ X := by omega
      have e1 : X < 18446744073709551616 := by omega
      have HX := hide hX
      clear hX
      clear hx hq CN
      go_wp2_with fail
      go_ret
      first | exact ⟨by rw [unhide HX] <;> rfl, b1⟩ | exact ⟨rfl, b1⟩


end Go.Proofs.YtgldbainhncneaaGreatDoor

namespace Go.Proofs.YtgldbainhncneaaGreatDoor
open Go.RowKit
set_option linter.unusedVariables false
set_option linter.unusedSimpArgs false

/-- What stands ahead of the first c, behind it, and whether there is one. -/
def cA (l : List UInt8) (c : Nat) : List UInt8 := match rcut l (UInt8.ofNat c) with | some p => p.1 | none => l
def cB (l : List UInt8) (c : Nat) : List UInt8 := match rcut l (UInt8.ofNat c) with | some p => p.2 | none => []
def cO (l : List UInt8) (c : Nat) : Bool := (rcut l (UInt8.ofNat c)).isSome
theorem rcut_len {l : List UInt8} {c : UInt8} : ∀ {p : List UInt8 × List UInt8}, rcut l c = some p → p.1.length + p.2.length ≤ l.length := by
  induction l with
  | nil => intro p h; cases h
  | cons a r ih =>
    intro p h
    rw [rcut] at h
    by_cases q : a = c
    · rw [if_pos q] at h; cases h; simp
    · rw [if_neg q] at h
      cases hz : rcut r c with
      | none => rw [hz] at h; cases h
      | some y =>
        rw [hz] at h
        cases h
        have := ih hz
        simp
        omega
theorem cA_len (l : List UInt8) (c : Nat) : (cA l c).length ≤ l.length := by
  unfold cA
  cases h : rcut l (UInt8.ofNat c) with
  | none => exact Nat.le_refl _
  | some p => have := rcut_len h; simp only; omega
theorem cB_len (l : List UInt8) (c : Nat) : (cB l c).length ≤ l.length := by
  unfold cB
  cases h : rcut l (UInt8.ofNat c) with
  | none => exact Nat.zero_le _
  | some p => have := rcut_len h; simp only; omega
theorem cut_tb (l : List UInt8) (c : Nat) (N : Int) (hN : N = (c : Int)) (w : World) (hl : l.length ≤ 1099511627776) (hc : c < 256) : Calls Tryz.prog 68 #[.string (tb l), .int .u8 N] w fun e w' => e = .returned (.tuple #[.string (tb (cA l c)), .string (tb (cB l c)), .bool (cO l c)]) ∧ Below w.heap.size w w' := by
  subst hN
  refine (cut_ref (tb l) c w (by rw [tb_size]; exact hl) hc).mono fun e w' h => ⟨h.1.trans ?_, h.2⟩
  rw [tb_data]
  unfold cA cB cO cutV
  cases rcut l (UInt8.ofNat c) <;> rfl
theorem small_tb (l : List UInt8) (w : World) (hl : l.length ≤ 1099511627776) : Calls Tryz.prog 70 #[.string (tb l)] w fun e w' => e = .returned (.int .i64 (rsml l)) ∧ Below w.heap.size w w' := by
  refine (small_ref (tb l) w (by rw [tb_size]; exact hl)).mono fun e w' h => ⟨h.1.trans ?_, h.2⟩
  rw [tb_data]
/-- Hours, minutes, seconds and the rest, out of a text. -/
def rclk (l : List UInt8) : Wh := ⟨false, 0, 0, 0, rsml (cA l 58), rsml (cA (cB l 58) 58), rsml (cA (cB (cB l 58) 58) 46), if cO (cB (cB l 58) 58) 46 = true then rsml (cB (cB (cB l 58) 58) 46) else 0⟩
/-- A moment of one's own behind all that was there. -/
structure Rw (w0 : World) (C : Array Value) (w : World) : Prop where
  r : w.heap[w0.heap.size]? = some (.cells C 30 (0, 0))
  b : Below w0.heap.size w0 w
theorem Rw.new (w : World) (C : Array Value) : Rw w C (w.alloc (.cells C 30)) := ⟨heap_alloc_new w _, below_alloc w _⟩
theorem Rw.later {w0 w w' : World} {C : Array Value} (h : Rw w0 C w) (q : Below w.heap.size w w') : Rw w0 C w' := ⟨vrow_later h.r q, h.b.trans (q.mono h.b.size)⟩
theorem Rw.lt {w0 w : World} {C : Array Value} (h : Rw w0 C w) : w0.heap.size < w.heap.size := (Array.getElem?_eq_some_iff.1 h.r).1
theorem Rw.gb {w0 w w' : World} {C : Array Value} {g : Nat} (h : Rw w0 C w) (hg : Gb g w w') (hl : w0.heap.size < g) : Rw w0 C w' :=
  ⟨(hg.block _ h.lt (by omega)).trans h.r, ⟨hg.os.trans h.b.os, hg.tape.trans h.b.tape, hg.output.trans h.b.output, Nat.le_trans h.b.size hg.size, fun k hk => (hg.block k (by have := h.lt; omega) (by omega)).trans (h.b.block k hk)⟩⟩
theorem Rw.set {w0 w w' : World} {C D : Array Value} (h : Rw w0 C w) (hr : w'.heap[w0.heap.size]? = some (.cells D 30 (0, 0))) (hg : Gb w0.heap.size w w') : Rw w0 D w' :=
  ⟨hr, ⟨hg.os.trans h.b.os, hg.tape.trans h.b.tape, hg.output.trans h.b.output, Nat.le_trans h.b.size hg.size, fun k hk => (hg.block k (by have := h.lt; omega) (by omega)).trans (h.b.block k hk)⟩⟩

set_option maxHeartbeats 4000000 in
set_option maxRecDepth 100000 in
theorem clockRead_ref (l : List UInt8) (w : World) (hl : l.length ≤ 1099511627776) : Calls Tryz.prog 69 #[.string (tb l)] w fun e w' => e = .returned (.agg (whC (rclk l))) ∧ Below w.heap.size w w' := by
  obtain ⟨RES, hRES⟩ : ∃ z, z = whC (rclk l) := ⟨_, rfl⟩
  rw [← hRES]
  unfold rclk whC at hRES
  have c1 := hide (fun wx => cut_tb l 58 58 rfl wx hl (by omega))
  have k1 := cB_len l 58
  have a1 := cA_len l 58
  generalize cA l 58 = A1 at *
  generalize cB l 58 = B1 at *
  generalize cO l 58 = O1 at *
  have c2 := hide (fun wx => cut_tb B1 58 58 rfl wx (by omega) (by omega))
  have k2 := cB_len B1 58
  have a2 := cA_len B1 58
  generalize cA B1 58 = A2 at *
  generalize cB B1 58 = B2 at *
  generalize cO B1 58 = O2 at *
  have c3 := hide (fun wx => cut_tb B2 46 46 rfl wx (by omega) (by omega))
  have k3 := cB_len B2 46
  have a3 := cA_len B2 46
  generalize cA B2 46 = A3 at *
  generalize cB B2 46 = B3 at *
  generalize cO B2 46 = O3 at *
  have s1 := hide (fun wx => small_tb A1 wx (by omega))
  have s2 := hide (fun wx => small_tb A2 wx (by omega))
  have s3 := hide (fun wx => small_tb A3 wx (by omega))
  have s4 := hide (fun wx => small_tb B3 wx (by omega))
  generalize rsml A1 = X1 at *
  generalize rsml A2 = X2 at *
  generalize rsml A3 = X3 at *
  generalize rsml B3 = X4 at *
  have W0 := hide (Rw.new w #[.bool false, .int .i64 0, .int .i64 0, .int .i64 0, .int .i64 0, .int .i64 0, .int .i64 0, .int .i64 0])
  clear k1 k2 k3 a1 a2 a3 hl
  have HR0 := hide hRES
  clear hRES
  go_enter Tryz.func69, Tryz.ntmps69
  go_wp2_with fail
  refine (unhide c1 _).mono ?_
  rintro e w1 ⟨rfl, b1⟩
  have W1 := hide ((unhide W0).later b1)
  clear b1 W0 c1
  go_wp2_with fail
  refine (unhide c2 _).mono ?_
  rintro e w2 ⟨rfl, b2⟩
  have W2 := hide ((unhide W1).later b2)
  clear b2 W1 c2
  go_wp2_with fail
  refine (unhide c3 _).mono ?_
  rintro e w3 ⟨rfl, b3⟩
  have W3 := hide ((unhide W2).later b3)
  clear b3 W2 c3
  go_wp2_with fail
  refine (unhide s1 _).mono ?_
  rintro e w4 ⟨rfl, b4⟩
  have W4 := hide ((unhide W3).later b4)
  clear b4 W3 s1
  go_wp2_with fail
  refine (unhide s2 _).mono ?_
  rintro e w5 ⟨rfl, b5⟩
  have W5 := hide ((unhide W4).later b5)
  clear b5 W4 s2
  go_wp2_with fail
  refine (unhide s3 _).mono ?_
  rintro e w6 ⟨rfl, b6⟩
  have W6 := (unhide W5).later b6
  clear b6 W5 s3
  have L6 := hide W6.lt
  have W7 := hide (W6.later (below_alloc w6 (.cells #[.bool false, .int .i64 0, .int .i64 0, .int .i64 0, .int .i64 X1, .int .i64 X2, .int .i64 X3, .int .i64 0] 30)))
  have r7 := hide (heap_alloc_new w6 (.cells #[.bool false, .int .i64 0, .int .i64 0, .int .i64 0, .int .i64 X1, .int .i64 X2, .int .i64 X3, .int .i64 0] 30))
  clear W6
  cases O3
  · have HR := hide (show RES = #[.bool false, .int .i64 0, .int .i64 0, .int .i64 0, .int .i64 X1, .int .i64 X2, .int .i64 X3, .int .i64 0] from unhide HR0)
    clear HR0 s4
    have SE := hide (show (Tryz.prog.info? 30).map (·.size) = some (#[.bool false, .int .i64 0, .int .i64 0, .int .i64 0, .int .i64 X1, .int .i64 X2, .int .i64 X3, .int .i64 0] : Array Value).size by kernel_rfl)
    have SO := hide (show (#[.bool false, .int .i64 0, .int .i64 0, .int .i64 0, .int .i64 X1, .int .i64 X2, .int .i64 X3, .int .i64 0] : Array Value).all (·.oneCell') = true by simp [Value.oneCell'])
    go_wp2_with (first | (with_reducible show wpList Tryz.prog _ _ (Oper.mk _ (Op.load 30 _) _ _ _ none :: _) _ _; refine wpList_load_row rfl _ (.tmp 10) rfl w6.heap.size (by simp [Act.eval, Act.put]) _ #[.bool false, .int .i64 0, .int .i64 0, .int .i64 0, .int .i64 X1, .int .i64 X2, .int .i64 X3, .int .i64 0] (0, 0) _ (unhide r7) Tryz.underlying30 rfl (unhide SE) ?_) | (with_reducible show wpList Tryz.prog _ _ (Oper.mk _ (Op.store 30 _ _) _ _ _ none :: _) _ _; refine wpList_stG rfl _ (.tmp 2) (.tmp 40) rfl w.heap.size #[.bool false, .int .i64 0, .int .i64 0, .int .i64 0, .int .i64 X1, .int .i64 X2, .int .i64 X3, .int .i64 0] #[.bool false, .int .i64 0, .int .i64 0, .int .i64 0, .int .i64 0, .int .i64 0, .int .i64 0, .int .i64 0] (by simp [Act.eval, Act.put]) (by simp [Act.eval, Act.put]) (unhide W7).r (unhide SE) rfl (unhide SO) ?_; intro wS rS gS zS; have WS := hide ((unhide W7).set rS gS); clear rS gS zS))
    refine bodyPost_ret (results_cell_row rfl _ _ w.heap.size _ _ _ _ rfl (unhide WS).r Tryz.underlying30 rfl (unhide SE)) rfl ?_
    rw [unhide HR]
    exact ⟨rfl, (unhide WS).b⟩
  · have HR := hide (show RES = #[.bool false, .int .i64 0, .int .i64 0, .int .i64 0, .int .i64 X1, .int .i64 X2, .int .i64 X3, .int .i64 X4] from unhide HR0)
    clear HR0
    have SE := hide (show (Tryz.prog.info? 30).map (·.size) = some (#[.bool false, .int .i64 0, .int .i64 0, .int .i64 0, .int .i64 X1, .int .i64 X2, .int .i64 X3, .int .i64 X4] : Array Value).size by kernel_rfl)
    have SO := hide (show (#[.bool false, .int .i64 0, .int .i64 0, .int .i64 0, .int .i64 X1, .int .i64 X2, .int .i64 X3, .int .i64 X4] : Array Value).all (·.oneCell') = true by simp [Value.oneCell'])
    go_wp2_with fail
    refine (unhide s4 _).mono ?_
    rintro e w8 ⟨rfl, b8⟩
    have W8 := (unhide W7).later b8
    have r8 := vrow_later (unhide r7) b8
    have fz := frozen_of_row _ _ 7 _ _ r8
    have kz := vrow_cell r8 (j := 7) (v := .int .i64 0) rfl
    have r9 := hide (show (w8.setCell ⟨w6.heap.size, 7, none⟩ (.int .i64 X4)).heap[w6.heap.size]? = some (.cells #[.bool false, .int .i64 0, .int .i64 0, .int .i64 0, .int .i64 X1, .int .i64 X2, .int .i64 X3, .int .i64 X4] 30 (0, 0)) from heap_setCell_same _ _ 7 _ _ _ r8)
    have W9 := hide (W8.gb (show Gb w6.heap.size w8 (w8.setCell ⟨w6.heap.size, 7, none⟩ (.int .i64 X4)) from ⟨rfl, rfl, rfl, by simp, fun k _ hk => heap_setCell_other _ _ _ _ hk⟩) (unhide L6))
    clear b8 W8 r8 r7 W7 s4
    go_wp2_with (first | (with_reducible show wpList Tryz.prog _ _ (Oper.mk _ (Op.load 30 _) _ _ _ none :: _) _ _; refine wpList_load_row rfl _ (.tmp 10) rfl w6.heap.size (by simp [Act.eval, Act.put]) _ #[.bool false, .int .i64 0, .int .i64 0, .int .i64 0, .int .i64 X1, .int .i64 X2, .int .i64 X3, .int .i64 X4] (0, 0) _ (unhide r9) Tryz.underlying30 rfl (unhide SE) ?_) | (with_reducible show wpList Tryz.prog _ _ (Oper.mk _ (Op.store 30 _ _) _ _ _ none :: _) _ _; refine wpList_stG rfl _ (.tmp 2) (.tmp 40) rfl w.heap.size #[.bool false, .int .i64 0, .int .i64 0, .int .i64 0, .int .i64 X1, .int .i64 X2, .int .i64 X3, .int .i64 X4] #[.bool false, .int .i64 0, .int .i64 0, .int .i64 0, .int .i64 0, .int .i64 0, .int .i64 0, .int .i64 0] (by simp [Act.eval, Act.put]) (by simp [Act.eval, Act.put]) (unhide W9).r (unhide SE) rfl (unhide SO) ?_; intro wS rS gS zS; have WS := hide ((unhide W9).set rS gS); clear rS gS zS))
    refine bodyPost_ret (results_cell_row rfl _ _ w.heap.size _ _ _ _ rfl (unhide WS).r Tryz.underlying30 rfl (unhide SE)) rfl ?_
    rw [unhide HR]
    exact ⟨rfl, (unhide WS).b⟩


end Go.Proofs.YtgldbainhncneaaGreatDoor

namespace Go.Proofs.YtgldbainhncneaaGreatDoor
open Go.RowKit
set_option linter.unusedVariables false
set_option linter.unusedSimpArgs false

def rint (l : List UInt8) : Int := if l.head? = some 45 then IntKind.i64.wrap (-((rnum l.tail).getD 0 : Nat)) else IntKind.i64.wrap ((rnum l).getD 0 : Nat)
theorem w64_i64 (x : Int) : wrap64 x = IntKind.i64.wrap x := by
  rw [IntKind.wrap_i64]
  unfold wrap64
  first | rfl | omega
theorem wrap_neg (n : Nat) (h : n < 18446744073709551616) : IntKind.i64.wrap (IntKind.i64.wrap (-IntKind.i64.wrap (IntKind.u64.wrap ((n : Int) - 1))) - 1) = IntKind.i64.wrap (-(n : Int)) := by
  simp only [IntKind.wrap_i64, IntKind.wrap_u64]
  omega

set_option maxHeartbeats 4000000 in
set_option maxRecDepth 100000 in
theorem rguess_7 (s : ByteArray) (t : Int) (un : Bool) (w : World) (q0 : 0 ≤ t) (q1 : t < 256) (hs : s.size ≤ 1099511627776) (hk : kdV t un = 7) :
    Calls Tryz.prog 32 #[.string s, .agg #[.int .u8 t, .bool un]] w fun e w' => e = .returned (.agg (vaC ⟨7, 0, 0, s, wh0⟩)) ∧ Below w.heap.size w w' := by
  have P0 := Pz.new w t un (vaC va0)
  obtain ⟨w2, hw2⟩ : ∃ z, z = (w.alloc (.cells #[.int .u8 t, .bool un] 23)).alloc (.cells (vaC va0) 32) := ⟨_, rfl⟩
  rw [← hw2] at P0
  have cK := hide (kind_ref t un w2 q0 q1)
  rw [hk] at cK
  have SV := hide (vaC_size ⟨7, 0, 0, s, wh0⟩)
  have OV := hide (vaC_one ⟨7, 0, 0, s, wh0⟩)
  have HW := hide (show (w.alloc (.cells #[.int .u8 t, .bool un] 23)).alloc (.cells #[.int .i64 0, .int .i64 0, .int .u64 0, .string ⟨#[]⟩, .bool false, .int .i64 0, .int .i64 0, .int .i64 0, .int .i64 0, .int .i64 0, .int .i64 0, .int .i64 0] 32) = w2 from hw2.symm)
  have PP := hide P0
  obtain ⟨t0, t1⟩ := P0.cells
  clear hw2 P0 q0 q1 hk hs
  go_enter Tryz.func32, Tryz.ntmps32
  go_wp2_with (first | (go_at_call 26; rw [unhide HW]; (with_reducible refine (unhide cK).mono ?_); rintro e w3 ⟨rfl, b3⟩; have P3 := (unhide PP).later b3; have b4 := below_alloc w3 (.cells #[.int .i64 7, .int .i64 0, .int .u64 0, .string s, .bool false, .int .i64 0, .int .i64 0, .int .i64 0, .int .i64 0, .int .i64 0, .int .i64 0, .int .i64 0] 32); have r4 := heap_alloc_new w3 (.cells #[.int .i64 7, .int .i64 0, .int .u64 0, .string s, .bool false, .int .i64 0, .int .i64 0, .int .i64 0, .int .i64 0, .int .i64 0, .int .i64 0, .int .i64 0] 32); have l4 := (Array.getElem?_eq_some_iff.1 P3.rr).1; have P4 := P3.later b4; have PP := hide P4; have R4 := hide r4; clear b3 b4 r4 l4 P3 P4 t0 t1) | (with_reducible show wpList Tryz.prog _ _ (Oper.mk _ (Op.load 32 _) _ _ _ none :: _) _ _; have P6 := unhide PP; have r6 := unhide R4; obtain ⟨w6, hw6⟩ : ∃ z, z = w3.alloc (.cells #[.int .i64 7, .int .i64 0, .int .u64 0, .string s, .bool false, .int .i64 0, .int .i64 0, .int .i64 0, .int .i64 0, .int .i64 0, .int .i64 0, .int .i64 0] 32) := ⟨_, rfl⟩; rw [← hw6] at P6 r6 ⊢; have PP := hide P6; clear hw6 P6; refine wpList_load_row rfl _ (.tmp 5) rfl w3.heap.size rfl _ (vaC ⟨7, 0, 0, s, wh0⟩) (0, 0) _ r6 Tryz.underlying32 rfl (unhide SV) ?_) | (with_reducible show wpList Tryz.prog _ _ (Oper.mk _ (Op.store 32 _ _) _ _ _ none :: _) _ _; refine wpList_stG rfl _ (.tmp 4) (.tmp 137) rfl (w.heap.size + 1) (vaC ⟨7, 0, 0, s, wh0⟩) (vaC va0) rfl rfl (unhide PP).rr (unhide SV) rfl (unhide OV) ?_; intro w8 r8 g8 s8; have P8 := hide ((unhide PP).set r8 g8); clear r8 g8 s8))
  refine bodyPost_ret (results_cell_row rfl _ _ (w.heap.size + 1) _ _ _ _ rfl (unhide P8).rr Tryz.underlying32 rfl (unhide SV)) rfl ?_
  exact ⟨rfl, (unhide P8).bl⟩

set_option maxHeartbeats 4000000 in
set_option maxRecDepth 100000 in
theorem rguess_2 (s : ByteArray) (t : Int) (un : Bool) (w : World) (q0 : 0 ≤ t) (q1 : t < 256) (hs : s.size ≤ 1099511627776) (hk : kdV t un = 2) :
    Calls Tryz.prog 32 #[.string s, .agg #[.int .u8 t, .bool un]] w fun e w' => e = .returned (.agg (vaC ⟨2, 0, ((rnum s.data.toList).getD 0 : Nat), ⟨#[]⟩, wh0⟩)) ∧ Below w.heap.size w w' := by
  have P0 := Pz.new w t un (vaC va0)
  obtain ⟨w2, hw2⟩ : ∃ z, z = (w.alloc (.cells #[.int .u8 t, .bool un] 23)).alloc (.cells (vaC va0) 32) := ⟨_, rfl⟩
  rw [← hw2] at P0
  have cK := hide (kind_ref t un w2 q0 q1)
  rw [hk] at cK
  have cN := fun wx => number_ref s wx hs
  unfold nmO at cN
  have hlt : (rnum s.data.toList).getD 0 < 18446744073709551616 := by
    cases h : rnum s.data.toList with
    | none => simp
    | some y => exact rnum_lt h
  generalize (rnum s.data.toList).getD 0 = N at *
  generalize (rnum s.data.toList).isSome = O at *
  have cA := hide cN
  clear cN
  have SV := hide (vaC_size ⟨2, 0, (N : Int), ⟨#[]⟩, wh0⟩)
  have OV := hide (vaC_one ⟨2, 0, (N : Int), ⟨#[]⟩, wh0⟩)
  have HW := hide (show (w.alloc (.cells #[.int .u8 t, .bool un] 23)).alloc (.cells #[.int .i64 0, .int .i64 0, .int .u64 0, .string ⟨#[]⟩, .bool false, .int .i64 0, .int .i64 0, .int .i64 0, .int .i64 0, .int .i64 0, .int .i64 0, .int .i64 0] 32) = w2 from hw2.symm)
  have PP := hide P0
  obtain ⟨t0, t1⟩ := P0.cells
  clear hw2 P0 q0 q1 hk hs
  go_enter Tryz.func32, Tryz.ntmps32
  go_wp2_with (first | (go_at_call 26; rw [unhide HW]; (with_reducible refine (unhide cK).mono ?_); rintro e w3 ⟨rfl, b3⟩; have P3 := (unhide PP).later b3; have b4 := below_alloc w3 (.cells #[.int .i64 2, .int .i64 0, .int .u64 0, .string ⟨#[]⟩, .bool false, .int .i64 0, .int .i64 0, .int .i64 0, .int .i64 0, .int .i64 0, .int .i64 0, .int .i64 0] 32); have r4 := heap_alloc_new w3 (.cells #[.int .i64 2, .int .i64 0, .int .u64 0, .string ⟨#[]⟩, .bool false, .int .i64 0, .int .i64 0, .int .i64 0, .int .i64 0, .int .i64 0, .int .i64 0, .int .i64 0] 32); have l4 := (Array.getElem?_eq_some_iff.1 P3.rr).1; obtain ⟨w4, hw4⟩ : ∃ z, z = w3.alloc (.cells #[.int .i64 2, .int .i64 0, .int .u64 0, .string ⟨#[]⟩, .bool false, .int .i64 0, .int .i64 0, .int .i64 0, .int .i64 0, .int .i64 0, .int .i64 0, .int .i64 0] 32) := ⟨_, rfl⟩; rw [← hw4] at b4 r4; have P4 := P3.later b4; have PP := hide P4; have R4 := hide r4; have L4 := hide l4; have HW4 := hide hw4.symm; clear b3 b4 r4 l4 P3 P4 hw4 t0 t1) | (go_at_call 67; rw [unhide HW4]; (with_reducible refine (unhide cA _).mono ?_); rintro e w5 ⟨rfl, b5⟩; have P5 := (unhide PP).later b5; have r5 := vrow_later (unhide R4) b5; have c1 := vrow_cell r5 (j := 2) (v := .int .u64 0) rfl; have f1 := frozen_of_row _ _ 2 _ _ r5; have PP := hide P5; have R5 := hide r5; clear b5 r5 P5) | (with_reducible show wpList Tryz.prog _ _ (Oper.mk _ (Op.load 32 _) _ _ _ none :: _) _ _; have P6 := (unhide PP).gb (show Gb w3.heap.size w5 (w5.setCell ⟨w3.heap.size, 2, none⟩ (.int .u64 (N : Int))) from set_one_gb) (unhide L4); have r6 := (show (w5.setCell ⟨w3.heap.size, 2, none⟩ (.int .u64 (N : Int))).heap[w3.heap.size]? = some (.cells (vaC ⟨2, 0, (N : Int), ⟨#[]⟩, wh0⟩) 32 (0, 0)) from heap_setCell_same w5 w3.heap.size 2 _ _ _ (unhide R5)); obtain ⟨w6, hw6⟩ : ∃ z, z = (w5.setCell ⟨w3.heap.size, 2, none⟩ (.int .u64 (N : Int))) := ⟨_, rfl⟩; rw [← hw6] at P6 r6 ⊢; have PP := hide P6; clear hw6 P6; refine wpList_load_row rfl _ (.tmp 5) rfl w3.heap.size rfl _ (vaC ⟨2, 0, (N : Int), ⟨#[]⟩, wh0⟩) (0, 0) _ r6 Tryz.underlying32 rfl (unhide SV) ?_) | (with_reducible show wpList Tryz.prog _ _ (Oper.mk _ (Op.store 32 _ _) _ _ _ none :: _) _ _; refine wpList_stG rfl _ (.tmp 4) (.tmp 137) rfl (w.heap.size + 1) (vaC ⟨2, 0, (N : Int), ⟨#[]⟩, wh0⟩) (vaC va0) rfl rfl (unhide PP).rr (unhide SV) rfl (unhide OV) ?_; intro w8 r8 g8 s8; have P8 := hide ((unhide PP).set r8 g8); clear r8 g8 s8))
  refine bodyPost_ret (results_cell_row rfl _ _ (w.heap.size + 1) _ _ _ _ rfl (unhide P8).rr Tryz.underlying32 rfl (unhide SV)) rfl ?_
  exact ⟨rfl, (unhide P8).bl⟩

set_option maxHeartbeats 4000000 in
set_option maxRecDepth 100000 in
theorem rguess_1e (s : ByteArray) (t : Int) (un : Bool) (w : World) (q0 : 0 ≤ t) (q1 : t < 256) (hs : s.size ≤ 1099511627776) (hk : kdV t un = 1) (h0 : s.size = 0) :
    Calls Tryz.prog 32 #[.string s, .agg #[.int .u8 t, .bool un]] w fun e w' => e = .returned (.agg (vaC ⟨1, IntKind.i64.wrap ((rnum s.data.toList).getD 0 : Nat), 0, ⟨#[]⟩, wh0⟩)) ∧ Below w.heap.size w w' := by
  have P0 := Pz.new w t un (vaC va0)
  obtain ⟨w2, hw2⟩ : ∃ z, z = (w.alloc (.cells #[.int .u8 t, .bool un] 23)).alloc (.cells (vaC va0) 32) := ⟨_, rfl⟩
  rw [← hw2] at P0
  have cK := hide (kind_ref t un w2 q0 q1)
  rw [hk] at cK
  have cN := fun wx => number_ref s wx hs
  unfold nmO at cN
  have hlt : (rnum s.data.toList).getD 0 < 18446744073709551616 := by
    cases h : rnum s.data.toList with
    | none => simp
    | some y => exact rnum_lt h
  generalize (rnum s.data.toList).getD 0 = N at *
  generalize (rnum s.data.toList).isSome = O at *
  have cA := hide cN
  clear cN
  obtain ⟨Y, hY⟩ : ∃ z, z = IntKind.i64.wrap (N : Int) := ⟨_, rfl⟩
  rw [← hY]
  have wz := hY.symm
  have wy : wrap64 (N : Int) = Y := (w64_i64 _).trans hY.symm
  clear hY
  have d0 : ¬ 0 < s.size := by omega
  clear h0
  have SV := hide (vaC_size ⟨1, Y, 0, ⟨#[]⟩, wh0⟩)
  have OV := hide (vaC_one ⟨1, Y, 0, ⟨#[]⟩, wh0⟩)
  have HW := hide (show (w.alloc (.cells #[.int .u8 t, .bool un] 23)).alloc (.cells #[.int .i64 0, .int .i64 0, .int .u64 0, .string ⟨#[]⟩, .bool false, .int .i64 0, .int .i64 0, .int .i64 0, .int .i64 0, .int .i64 0, .int .i64 0, .int .i64 0] 32) = w2 from hw2.symm)
  have PP := hide P0
  obtain ⟨t0, t1⟩ := P0.cells
  clear hw2 P0 q0 q1 hk hs
  go_enter Tryz.func32, Tryz.ntmps32
  go_wp2_with (first | (go_at_call 26; rw [unhide HW]; (with_reducible refine (unhide cK).mono ?_); rintro e w3 ⟨rfl, b3⟩; have P3 := (unhide PP).later b3; have b4 := below_alloc w3 (.cells #[.int .i64 1, .int .i64 0, .int .u64 0, .string ⟨#[]⟩, .bool false, .int .i64 0, .int .i64 0, .int .i64 0, .int .i64 0, .int .i64 0, .int .i64 0, .int .i64 0] 32); have r4 := heap_alloc_new w3 (.cells #[.int .i64 1, .int .i64 0, .int .u64 0, .string ⟨#[]⟩, .bool false, .int .i64 0, .int .i64 0, .int .i64 0, .int .i64 0, .int .i64 0, .int .i64 0, .int .i64 0] 32); have l4 := (Array.getElem?_eq_some_iff.1 P3.rr).1; obtain ⟨w4, hw4⟩ : ∃ z, z = w3.alloc (.cells #[.int .i64 1, .int .i64 0, .int .u64 0, .string ⟨#[]⟩, .bool false, .int .i64 0, .int .i64 0, .int .i64 0, .int .i64 0, .int .i64 0, .int .i64 0, .int .i64 0] 32) := ⟨_, rfl⟩; rw [← hw4] at b4 r4; have P4 := P3.later b4; have PP := hide P4; have R4 := hide r4; have L4 := hide l4; have HW4 := hide hw4.symm; clear b3 b4 r4 l4 P3 P4 hw4 t0 t1) | (go_at_call 67; rw [unhide HW4]; (with_reducible refine (unhide cA _).mono ?_); rintro e w5 ⟨rfl, b5⟩; have P5 := (unhide PP).later b5; have r5 := vrow_later (unhide R4) b5; have c1 := vrow_cell r5 (j := 1) (v := .int .i64 0) rfl; have f1 := frozen_of_row _ _ 1 _ _ r5; have PP := hide P5; have R5 := hide r5; clear b5 r5 P5) | (with_reducible show wpList Tryz.prog _ _ (Oper.mk _ (Op.load 32 _) _ _ _ none :: _) _ _; have P6 := (unhide PP).gb (show Gb w3.heap.size w5 (w5.setCell ⟨w3.heap.size, 1, none⟩ (.int .i64 Y)) from set_one_gb) (unhide L4); have r6 := (show (w5.setCell ⟨w3.heap.size, 1, none⟩ (.int .i64 Y)).heap[w3.heap.size]? = some (.cells (vaC ⟨1, Y, 0, ⟨#[]⟩, wh0⟩) 32 (0, 0)) from heap_setCell_same w5 w3.heap.size 1 _ _ _ (unhide R5)); obtain ⟨w6, hw6⟩ : ∃ z, z = (w5.setCell ⟨w3.heap.size, 1, none⟩ (.int .i64 Y)) := ⟨_, rfl⟩; rw [← hw6] at P6 r6 ⊢; have PP := hide P6; clear hw6 P6; refine wpList_load_row rfl _ (.tmp 5) rfl w3.heap.size rfl _ (vaC ⟨1, Y, 0, ⟨#[]⟩, wh0⟩) (0, 0) _ r6 Tryz.underlying32 rfl (unhide SV) ?_) | (with_reducible show wpList Tryz.prog _ _ (Oper.mk _ (Op.store 32 _ _) _ _ _ none :: _) _ _; refine wpList_stG rfl _ (.tmp 4) (.tmp 137) rfl (w.heap.size + 1) (vaC ⟨1, Y, 0, ⟨#[]⟩, wh0⟩) (vaC va0) rfl rfl (unhide PP).rr (unhide SV) rfl (unhide OV) ?_; intro w8 r8 g8 s8; have P8 := hide ((unhide PP).set r8 g8); clear r8 g8 s8))
  refine bodyPost_ret (results_cell_row rfl _ _ (w.heap.size + 1) _ _ _ _ rfl (unhide P8).rr Tryz.underlying32 rfl (unhide SV)) rfl ?_
  exact ⟨rfl, (unhide P8).bl⟩

set_option maxHeartbeats 4000000 in
set_option maxRecDepth 100000 in
theorem rguess_1p (s : ByteArray) (t : Int) (un : Bool) (w : World) (q0 : 0 ≤ t) (q1 : t < 256) (hs : s.size ≤ 1099511627776) (hk : kdV t un = 1) (h0 : 0 < s.size) (h1 : s[0].toNat ≠ 45) :
    Calls Tryz.prog 32 #[.string s, .agg #[.int .u8 t, .bool un]] w fun e w' => e = .returned (.agg (vaC ⟨1, IntKind.i64.wrap ((rnum s.data.toList).getD 0 : Nat), 0, ⟨#[]⟩, wh0⟩)) ∧ Below w.heap.size w w' := by
  have P0 := Pz.new w t un (vaC va0)
  obtain ⟨w2, hw2⟩ : ∃ z, z = (w.alloc (.cells #[.int .u8 t, .bool un] 23)).alloc (.cells (vaC va0) 32) := ⟨_, rfl⟩
  rw [← hw2] at P0
  have cK := hide (kind_ref t un w2 q0 q1)
  rw [hk] at cK
  have cN := fun wx => number_ref s wx hs
  unfold nmO at cN
  have hlt : (rnum s.data.toList).getD 0 < 18446744073709551616 := by
    cases h : rnum s.data.toList with
    | none => simp
    | some y => exact rnum_lt h
  generalize (rnum s.data.toList).getD 0 = N at *
  generalize (rnum s.data.toList).isSome = O at *
  have cA := hide cN
  clear cN
  obtain ⟨Y, hY⟩ : ∃ z, z = IntKind.i64.wrap (N : Int) := ⟨_, rfl⟩
  rw [← hY]
  have wz := hY.symm
  have wy : wrap64 (N : Int) = Y := (w64_i64 _).trans hY.symm
  clear hY
  have d1 : ((s[0].toNat : Int) == 45) = false := beq_eq_false_iff_ne.2 (by omega)
  clear h1
  have SV := hide (vaC_size ⟨1, Y, 0, ⟨#[]⟩, wh0⟩)
  have OV := hide (vaC_one ⟨1, Y, 0, ⟨#[]⟩, wh0⟩)
  have HW := hide (show (w.alloc (.cells #[.int .u8 t, .bool un] 23)).alloc (.cells #[.int .i64 0, .int .i64 0, .int .u64 0, .string ⟨#[]⟩, .bool false, .int .i64 0, .int .i64 0, .int .i64 0, .int .i64 0, .int .i64 0, .int .i64 0, .int .i64 0] 32) = w2 from hw2.symm)
  have PP := hide P0
  obtain ⟨t0, t1⟩ := P0.cells
  clear hw2 P0 q0 q1 hk hs
  go_enter Tryz.func32, Tryz.ntmps32
  go_wp2_with (first | (go_at_call 26; rw [unhide HW]; (with_reducible refine (unhide cK).mono ?_); rintro e w3 ⟨rfl, b3⟩; have P3 := (unhide PP).later b3; have b4 := below_alloc w3 (.cells #[.int .i64 1, .int .i64 0, .int .u64 0, .string ⟨#[]⟩, .bool false, .int .i64 0, .int .i64 0, .int .i64 0, .int .i64 0, .int .i64 0, .int .i64 0, .int .i64 0] 32); have r4 := heap_alloc_new w3 (.cells #[.int .i64 1, .int .i64 0, .int .u64 0, .string ⟨#[]⟩, .bool false, .int .i64 0, .int .i64 0, .int .i64 0, .int .i64 0, .int .i64 0, .int .i64 0, .int .i64 0] 32); have l4 := (Array.getElem?_eq_some_iff.1 P3.rr).1; obtain ⟨w4, hw4⟩ : ∃ z, z = w3.alloc (.cells #[.int .i64 1, .int .i64 0, .int .u64 0, .string ⟨#[]⟩, .bool false, .int .i64 0, .int .i64 0, .int .i64 0, .int .i64 0, .int .i64 0, .int .i64 0, .int .i64 0] 32) := ⟨_, rfl⟩; rw [← hw4] at b4 r4; have P4 := P3.later b4; have PP := hide P4; have R4 := hide r4; have L4 := hide l4; have HW4 := hide hw4.symm; clear b3 b4 r4 l4 P3 P4 hw4 t0 t1) | (go_at_call 67; rw [unhide HW4]; (with_reducible refine (unhide cA _).mono ?_); rintro e w5 ⟨rfl, b5⟩; have P5 := (unhide PP).later b5; have r5 := vrow_later (unhide R4) b5; have c1 := vrow_cell r5 (j := 1) (v := .int .i64 0) rfl; have f1 := frozen_of_row _ _ 1 _ _ r5; have PP := hide P5; have R5 := hide r5; clear b5 r5 P5) | (with_reducible show wpList Tryz.prog _ _ (Oper.mk _ (Op.load 32 _) _ _ _ none :: _) _ _; have P6 := (unhide PP).gb (show Gb w3.heap.size w5 (w5.setCell ⟨w3.heap.size, 1, none⟩ (.int .i64 Y)) from set_one_gb) (unhide L4); have r6 := (show (w5.setCell ⟨w3.heap.size, 1, none⟩ (.int .i64 Y)).heap[w3.heap.size]? = some (.cells (vaC ⟨1, Y, 0, ⟨#[]⟩, wh0⟩) 32 (0, 0)) from heap_setCell_same w5 w3.heap.size 1 _ _ _ (unhide R5)); obtain ⟨w6, hw6⟩ : ∃ z, z = (w5.setCell ⟨w3.heap.size, 1, none⟩ (.int .i64 Y)) := ⟨_, rfl⟩; rw [← hw6] at P6 r6 ⊢; have PP := hide P6; clear hw6 P6; refine wpList_load_row rfl _ (.tmp 5) rfl w3.heap.size rfl _ (vaC ⟨1, Y, 0, ⟨#[]⟩, wh0⟩) (0, 0) _ r6 Tryz.underlying32 rfl (unhide SV) ?_) | (with_reducible show wpList Tryz.prog _ _ (Oper.mk _ (Op.store 32 _ _) _ _ _ none :: _) _ _; refine wpList_stG rfl _ (.tmp 4) (.tmp 137) rfl (w.heap.size + 1) (vaC ⟨1, Y, 0, ⟨#[]⟩, wh0⟩) (vaC va0) rfl rfl (unhide PP).rr (unhide SV) rfl (unhide OV) ?_; intro w8 r8 g8 s8; have P8 := hide ((unhide PP).set r8 g8); clear r8 g8 s8))
  refine bodyPost_ret (results_cell_row rfl _ _ (w.heap.size + 1) _ _ _ _ rfl (unhide P8).rr Tryz.underlying32 rfl (unhide SV)) rfl ?_
  exact ⟨rfl, (unhide P8).bl⟩

set_option maxHeartbeats 4000000 in
set_option maxRecDepth 100000 in
theorem rguess_1n (s : ByteArray) (t : Int) (un : Bool) (w : World) (q0 : 0 ≤ t) (q1 : t < 256) (hs : s.size ≤ 1099511627776) (hk : kdV t un = 1) (h0 : 0 < s.size) (h1 : s[0].toNat = 45) :
    Calls Tryz.prog 32 #[.string s, .agg #[.int .u8 t, .bool un]] w fun e w' => e = .returned (.agg (vaC ⟨1, IntKind.i64.wrap (-((rnum (s.data.toList.drop 1)).getD 0 : Nat)), 0, ⟨#[]⟩, wh0⟩)) ∧ Below w.heap.size w w' := by
  have P0 := Pz.new w t un (vaC va0)
  obtain ⟨w2, hw2⟩ : ∃ z, z = (w.alloc (.cells #[.int .u8 t, .bool un] 23)).alloc (.cells (vaC va0) 32) := ⟨_, rfl⟩
  rw [← hw2] at P0
  have cK := hide (kind_ref t un w2 q0 q1)
  rw [hk] at cK
  have cN := fun wx => number_ref (s.extract 1 s.size) wx (by simp; omega)
  unfold nmO at cN
  rw [str_drop] at cN
  have hlt : (rnum (s.data.toList.drop 1)).getD 0 < 18446744073709551616 := by
    cases h : rnum (s.data.toList.drop 1) with
    | none => simp
    | some y => exact rnum_lt h
  generalize (rnum (s.data.toList.drop 1)).getD 0 = N at *
  generalize (rnum (s.data.toList.drop 1)).isSome = O at *
  have cA := hide cN
  clear cN
  have hN := wrap_neg N hlt
  obtain ⟨Y, hY⟩ : ∃ z, z = IntKind.i64.wrap (-(N : Int)) := ⟨_, rfl⟩
  rw [← hY] at hN ⊢
  have d1 : ((s[0].toNat : Int) == 45) = true := beq_iff_eq.2 (by omega)
  clear h1 hY
  obtain ⟨Y1, hY1⟩ : ∃ z, z = IntKind.u64.wrap ((N : Int) - 1) := ⟨_, rfl⟩
  rw [← hY1] at hN
  obtain ⟨Y2, hY2⟩ : ∃ z, z = IntKind.i64.wrap Y1 := ⟨_, rfl⟩
  rw [← hY2] at hN
  obtain ⟨Y3, hY3⟩ : ∃ z, z = IntKind.i64.wrap (-Y2) := ⟨_, rfl⟩
  rw [← hY3] at hN
  have z1 := hY1.symm
  have z2 := hY2.symm
  have z3 := hY3.symm
  have y2 : wrap64 Y1 = Y2 := (w64_i64 _).trans hY2.symm
  have y3 : wrap64 (-Y2) = Y3 := (w64_i64 _).trans hY3.symm
  have y4 : wrap64 (Y3 - 1) = Y := (w64_i64 _).trans hN
  clear hY1 hY2 hY3 hlt
  have SV := hide (vaC_size ⟨1, Y, 0, ⟨#[]⟩, wh0⟩)
  have OV := hide (vaC_one ⟨1, Y, 0, ⟨#[]⟩, wh0⟩)
  have HW := hide (show (w.alloc (.cells #[.int .u8 t, .bool un] 23)).alloc (.cells #[.int .i64 0, .int .i64 0, .int .u64 0, .string ⟨#[]⟩, .bool false, .int .i64 0, .int .i64 0, .int .i64 0, .int .i64 0, .int .i64 0, .int .i64 0, .int .i64 0] 32) = w2 from hw2.symm)
  have PP := hide P0
  obtain ⟨t0, t1⟩ := P0.cells
  clear hw2 P0 q0 q1 hk hs
  go_enter Tryz.func32, Tryz.ntmps32
  go_wp2_with (first | (go_at_call 26; rw [unhide HW]; (with_reducible refine (unhide cK).mono ?_); rintro e w3 ⟨rfl, b3⟩; have P3 := (unhide PP).later b3; have b4 := below_alloc w3 (.cells #[.int .i64 1, .int .i64 0, .int .u64 0, .string ⟨#[]⟩, .bool false, .int .i64 0, .int .i64 0, .int .i64 0, .int .i64 0, .int .i64 0, .int .i64 0, .int .i64 0] 32); have r4 := heap_alloc_new w3 (.cells #[.int .i64 1, .int .i64 0, .int .u64 0, .string ⟨#[]⟩, .bool false, .int .i64 0, .int .i64 0, .int .i64 0, .int .i64 0, .int .i64 0, .int .i64 0, .int .i64 0] 32); have l4 := (Array.getElem?_eq_some_iff.1 P3.rr).1; obtain ⟨w4, hw4⟩ : ∃ z, z = w3.alloc (.cells #[.int .i64 1, .int .i64 0, .int .u64 0, .string ⟨#[]⟩, .bool false, .int .i64 0, .int .i64 0, .int .i64 0, .int .i64 0, .int .i64 0, .int .i64 0, .int .i64 0] 32) := ⟨_, rfl⟩; rw [← hw4] at b4 r4; have P4 := P3.later b4; have PP := hide P4; have R4 := hide r4; have L4 := hide l4; have HW4 := hide hw4.symm; clear b3 b4 r4 l4 P3 P4 hw4 t0 t1) | (go_at_call 67; rw [unhide HW4]; (with_reducible refine (unhide cA _).mono ?_); rintro e w5 ⟨rfl, b5⟩; have P5 := (unhide PP).later b5; have r5 := vrow_later (unhide R4) b5; have c1 := vrow_cell r5 (j := 1) (v := .int .i64 0) rfl; have f1 := frozen_of_row _ _ 1 _ _ r5; have PP := hide P5; have R5 := hide r5; clear b5 r5 P5) | (with_reducible show wpList Tryz.prog _ _ (Oper.mk _ (Op.load 32 _) _ _ _ none :: _) _ _; have P6 := (unhide PP).gb (show Gb w3.heap.size w5 (w5.setCell ⟨w3.heap.size, 1, none⟩ (.int .i64 Y)) from set_one_gb) (unhide L4); have r6 := (show (w5.setCell ⟨w3.heap.size, 1, none⟩ (.int .i64 Y)).heap[w3.heap.size]? = some (.cells (vaC ⟨1, Y, 0, ⟨#[]⟩, wh0⟩) 32 (0, 0)) from heap_setCell_same w5 w3.heap.size 1 _ _ _ (unhide R5)); obtain ⟨w6, hw6⟩ : ∃ z, z = (w5.setCell ⟨w3.heap.size, 1, none⟩ (.int .i64 Y)) := ⟨_, rfl⟩; rw [← hw6] at P6 r6 ⊢; have PP := hide P6; clear hw6 P6; refine wpList_load_row rfl _ (.tmp 5) rfl w3.heap.size rfl _ (vaC ⟨1, Y, 0, ⟨#[]⟩, wh0⟩) (0, 0) _ r6 Tryz.underlying32 rfl (unhide SV) ?_) | (with_reducible show wpList Tryz.prog _ _ (Oper.mk _ (Op.store 32 _ _) _ _ _ none :: _) _ _; refine wpList_stG rfl _ (.tmp 4) (.tmp 45) rfl (w.heap.size + 1) (vaC ⟨1, Y, 0, ⟨#[]⟩, wh0⟩) (vaC va0) rfl rfl (unhide PP).rr (unhide SV) rfl (unhide OV) ?_; intro w8 r8 g8 s8; have P8 := hide ((unhide PP).set r8 g8); clear r8 g8 s8))
  refine bodyPost_ret (results_cell_row rfl _ _ (w.heap.size + 1) _ _ _ _ rfl (unhide P8).rr Tryz.underlying32 rfl (unhide SV)) rfl ?_
  exact ⟨rfl, (unhide P8).bl⟩


end Go.Proofs.YtgldbainhncneaaGreatDoor

namespace Go.Proofs.YtgldbainhncneaaGreatDoor
open Go.RowKit
set_option linter.unusedVariables false
set_option linter.unusedSimpArgs false

/-- A date, and a time of day, out of a text. -/
def rdat (l : List UInt8) : Wh := { (if cO l 32 = true then rclk (cB l 32) else wh0) with y := rsml (cA (cA l 32) 45), mo := rsml (cA (cB (cA l 32) 45) 45), d := rsml (cB (cB (cA l 32) 45) 45) }
/-- The value under way in block g, beside the type's block and the answer's. -/
structure Gv (w0 : World) (t : Int) (un : Bool) (g : Nat) (C : Array Value) (w : World) : Prop where
  p : Pz w0 t un (vaC va0) w
  v : w.heap[g]? = some (.cells C 32 (0, 0))
  lt : w0.heap.size + 1 < g
theorem Gv.new {w0 w : World} {t : Int} {un : Bool} (h : Pz w0 t un (vaC va0) w) (C : Array Value) : Gv w0 t un w.heap.size C (w.alloc (.cells C 32)) := ⟨h.later (below_alloc w _), heap_alloc_new w _, (Array.getElem?_eq_some_iff.1 h.rr).1⟩
theorem Gv.later {w0 w w' : World} {t : Int} {un : Bool} {g : Nat} {C : Array Value} (h : Gv w0 t un g C w) (b : Below w.heap.size w w') : Gv w0 t un g C w' := ⟨h.p.later b, vrow_later h.v b, h.lt⟩
theorem Gv.gb {w0 w w' : World} {t : Int} {un : Bool} {g : Nat} {C D : Array Value} (h : Gv w0 t un g C w) (hr : w'.heap[g]? = some (.cells D 32 (0, 0))) (hg : Gb g w w') : Gv w0 t un g D w' := ⟨h.p.gb hg h.lt, hr, h.lt⟩
theorem Gv.set {w0 w : World} {t : Int} {un : Bool} {g : Nat} {C D : Array Value} (h : Gv w0 t un g C w) (i : Nat) (v : Value) (hc : C.setIfInBounds i v = D) : Gv w0 t un g D (w.setCell ⟨g, i, none⟩ v) := h.gb (by rw [← hc]; exact heap_setCell_same _ _ i _ _ _ h.v) set_one_gb

set_option maxHeartbeats 4000000 in
set_option maxRecDepth 100000 in
theorem rguess_5f (l : List UInt8) (t : Int) (un : Bool) (w : World) (q0 : 0 ≤ t) (q1 : t < 256) (hl : l.length ≤ 1099511627776) (hk : kdV t un = 5) (hO : cO l 32 = false) :
    Calls Tryz.prog 32 #[.string (tb l), .agg #[.int .u8 t, .bool un]] w fun e w' => e = .returned (.agg (vaC ⟨5, 0, 0, ⟨#[]⟩, rdat l⟩)) ∧ Below w.heap.size w w' := by
  obtain ⟨RES, hRES⟩ : ∃ z, z = vaC ⟨5, 0, 0, ⟨#[]⟩, rdat l⟩ := ⟨_, rfl⟩
  rw [← hRES]
  unfold rdat at hRES
  have c1 := fun wx => cut_tb l 32 32 rfl wx hl (by omega)
  rw [hO] at hRES c1
  have c1 := hide c1
  have k0 := cA_len l 32
  have k1 := cB_len l 32
  generalize cA l 32 = A0 at *
  generalize cB l 32 = B0 at *
  have c2 := hide (fun wx => cut_tb A0 45 45 rfl wx (by omega) (by omega))
  have k2 := cA_len A0 45
  have k3 := cB_len A0 45
  generalize cA A0 45 = A1 at *
  generalize cB A0 45 = B1 at *
  generalize cO A0 45 = O1 at *
  have c3 := hide (fun wx => cut_tb B1 45 45 rfl wx (by omega) (by omega))
  have k4 := cA_len B1 45
  have k5 := cB_len B1 45
  generalize cA B1 45 = A2 at *
  generalize cB B1 45 = B2 at *
  generalize cO B1 45 = O2 at *
  have s1 := hide (fun wx => small_tb A1 wx (by omega))
  have s2 := hide (fun wx => small_tb A2 wx (by omega))
  have s3 := hide (fun wx => small_tb B2 wx (by omega))
  generalize rsml A1 = X1 at *
  generalize rsml A2 = X2 at *
  generalize rsml B2 = X3 at *
  have HR := hide (show RES = vaC ⟨5, 0, 0, ⟨#[]⟩, ⟨false, X1, X2, X3, 0, 0, 0, 0⟩⟩ from hRES)
  have P0 := Pz.new w t un (vaC va0)
  obtain ⟨w2, hw2⟩ : ∃ z, z = (w.alloc (.cells #[.int .u8 t, .bool un] 23)).alloc (.cells (vaC va0) 32) := ⟨_, rfl⟩
  rw [← hw2] at P0
  have cK := hide (kind_ref t un w2 q0 q1)
  rw [hk] at cK
  have SV := hide (vaC_size ⟨5, 0, 0, ⟨#[]⟩, ⟨false, X1, X2, X3, 0, 0, 0, 0⟩⟩)
  have OV := hide (vaC_one ⟨5, 0, 0, ⟨#[]⟩, ⟨false, X1, X2, X3, 0, 0, 0, 0⟩⟩)
  have HW := hide (show (w.alloc (.cells #[.int .u8 t, .bool un] 23)).alloc (.cells #[.int .i64 0, .int .i64 0, .int .u64 0, .string ⟨#[]⟩, .bool false, .int .i64 0, .int .i64 0, .int .i64 0, .int .i64 0, .int .i64 0, .int .i64 0, .int .i64 0] 32) = w2 from hw2.symm)
  have PP := hide P0
  obtain ⟨t0, t1⟩ := P0.cells
  clear hw2 P0 q0 q1 hk hl hO hRES k0 k1 k2 k3 k4 k5
  go_enter Tryz.func32, Tryz.ntmps32
  go_wp2_with fail
  rw [unhide HW]
  refine (unhide cK).mono ?_
  rintro e w3 ⟨rfl, b3⟩
  have G3 := hide (Gv.new ((unhide PP).later b3) #[.int .i64 5, .int .i64 0, .int .u64 0, .string ⟨#[]⟩, .bool false, .int .i64 0, .int .i64 0, .int .i64 0, .int .i64 0, .int .i64 0, .int .i64 0, .int .i64 0])
  clear b3 PP HW cK t0 t1
  go_wp2_with fail
  refine (unhide c1 _).mono ?_
  rintro e w4 ⟨rfl, b4⟩
  have G4 := hide ((unhide G3).later b4)
  clear b4 G3 c1
  go_wp2_with fail
  refine (unhide c2 _).mono ?_
  rintro e w5 ⟨rfl, b5⟩
  have G5 := hide ((unhide G4).later b5)
  clear b5 G4 c2
  go_wp2_with fail
  refine (unhide c3 _).mono ?_
  rintro e w6 ⟨rfl, b6⟩
  have G6 := hide ((unhide G5).later b6)
  clear b6 G5 c3
  go_wp2_with fail
  refine (unhide s1 _).mono ?_
  rintro e w7 ⟨rfl, b7⟩
  have G7 := hide ((unhide G6).later b7)
  clear b7 G6 s1
  go_wp2_with fail
  refine (unhide s2 _).mono ?_
  rintro e w8 ⟨rfl, b8⟩
  have G8 := hide ((unhide G7).later b8)
  clear b8 G7 s2
  go_wp2_with fail
  refine (unhide s3 _).mono ?_
  rintro e w9 ⟨rfl, b9⟩
  have G9 := hide ((unhide G8).later b9)
  clear b9 G8 s3
  have c105 := vrow_cell (unhide G9).v (j := 5) (v := .int .i64 0) rfl
  have f105 := frozen_of_row _ _ 5 _ _ (unhide G9).v
  have c106 := vrow_cell (unhide G9).v (j := 6) (v := .int .i64 0) rfl
  have f106 := frozen_of_row _ _ 6 _ _ (unhide G9).v
  have c107 := vrow_cell (unhide G9).v (j := 7) (v := .int .i64 0) rfl
  have f107 := frozen_of_row _ _ 7 _ _ (unhide G9).v
  have GE := hide (show Gv w t un w3.heap.size (vaC ⟨5, 0, 0, ⟨#[]⟩, ⟨false, X1, X2, X3, 0, 0, 0, 0⟩⟩) (((w9.setCell ⟨w3.heap.size, 5, none⟩ (.int .i64 X1)).setCell ⟨w3.heap.size, 6, none⟩ (.int .i64 X2)).setCell ⟨w3.heap.size, 7, none⟩ (.int .i64 X3)) from (Gv.set (Gv.set (Gv.set (unhide G9) 5 (.int .i64 X1) (D := #[.int .i64 5, .int .i64 0, .int .u64 0, .string ⟨#[]⟩, .bool false, .int .i64 X1, .int .i64 0, .int .i64 0, .int .i64 0, .int .i64 0, .int .i64 0, .int .i64 0]) rfl) 6 (.int .i64 X2) (D := #[.int .i64 5, .int .i64 0, .int .u64 0, .string ⟨#[]⟩, .bool false, .int .i64 X1, .int .i64 X2, .int .i64 0, .int .i64 0, .int .i64 0, .int .i64 0, .int .i64 0]) rfl) 7 (.int .i64 X3) (D := #[.int .i64 5, .int .i64 0, .int .u64 0, .string ⟨#[]⟩, .bool false, .int .i64 X1, .int .i64 X2, .int .i64 X3, .int .i64 0, .int .i64 0, .int .i64 0, .int .i64 0]) rfl))
  clear G9
  go_wp2_with (first | (with_reducible show wpList Tryz.prog _ _ (Oper.mk _ (Op.load 32 _) _ _ _ none :: _) _ _; have P6 := unhide GE; obtain ⟨wE, hwE⟩ : ∃ z, z = (((w9.setCell ⟨w3.heap.size, 5, none⟩ (.int .i64 X1)).setCell ⟨w3.heap.size, 6, none⟩ (.int .i64 X2)).setCell ⟨w3.heap.size, 7, none⟩ (.int .i64 X3)) := ⟨_, rfl⟩; rw [← hwE] at P6 ⊢; have PE := hide P6; clear hwE P6 GE; refine wpList_load_row rfl _ (.tmp 5) rfl w3.heap.size rfl _ (vaC ⟨5, 0, 0, ⟨#[]⟩, ⟨false, X1, X2, X3, 0, 0, 0, 0⟩⟩) (0, 0) _ (unhide PE).v Tryz.underlying32 rfl (unhide SV) ?_) | (with_reducible show wpList Tryz.prog _ _ (Oper.mk _ (Op.store 32 _ _) _ _ _ none :: _) _ _; refine wpList_stG rfl _ (.tmp 4) (.tmp 137) rfl (w.heap.size + 1) (vaC ⟨5, 0, 0, ⟨#[]⟩, ⟨false, X1, X2, X3, 0, 0, 0, 0⟩⟩) (vaC va0) rfl rfl (unhide PE).p.rr (unhide SV) rfl (unhide OV) ?_; intro wS rS gS zS; have PS := hide ((unhide PE).p.set rS gS); clear rS gS zS))
  refine bodyPost_ret (results_cell_row rfl _ _ (w.heap.size + 1) _ _ _ _ rfl (unhide PS).rr Tryz.underlying32 rfl (unhide SV)) rfl ?_
  rw [unhide HR]
  exact ⟨rfl, (unhide PS).bl⟩

set_option maxHeartbeats 4000000 in
set_option maxRecDepth 100000 in
theorem rguess_5t (l : List UInt8) (t : Int) (un : Bool) (w : World) (q0 : 0 ≤ t) (q1 : t < 256) (hl : l.length ≤ 1099511627776) (hk : kdV t un = 5) (hO : cO l 32 = true) :
    Calls Tryz.prog 32 #[.string (tb l), .agg #[.int .u8 t, .bool un]] w fun e w' => e = .returned (.agg (vaC ⟨5, 0, 0, ⟨#[]⟩, rdat l⟩)) ∧ Below w.heap.size w w' := by
  obtain ⟨RES, hRES⟩ : ∃ z, z = vaC ⟨5, 0, 0, ⟨#[]⟩, rdat l⟩ := ⟨_, rfl⟩
  rw [← hRES]
  unfold rdat at hRES
  have c1 := fun wx => cut_tb l 32 32 rfl wx hl (by omega)
  rw [hO] at hRES c1
  have c1 := hide c1
  have k0 := cA_len l 32
  have k1 := cB_len l 32
  generalize cA l 32 = A0 at *
  generalize cB l 32 = B0 at *
  have c2 := hide (fun wx => cut_tb A0 45 45 rfl wx (by omega) (by omega))
  have k2 := cA_len A0 45
  have k3 := cB_len A0 45
  generalize cA A0 45 = A1 at *
  generalize cB A0 45 = B1 at *
  generalize cO A0 45 = O1 at *
  have c3 := hide (fun wx => cut_tb B1 45 45 rfl wx (by omega) (by omega))
  have k4 := cA_len B1 45
  have k5 := cB_len B1 45
  generalize cA B1 45 = A2 at *
  generalize cB B1 45 = B2 at *
  generalize cO B1 45 = O2 at *
  have s1 := hide (fun wx => small_tb A1 wx (by omega))
  have s2 := hide (fun wx => small_tb A2 wx (by omega))
  have s3 := hide (fun wx => small_tb B2 wx (by omega))
  have r1 := fun wx => clockRead_ref B0 wx (by omega)
  have hf : rclk B0 = ⟨false, 0, 0, 0, (rclk B0).h, (rclk B0).mi, (rclk B0).s, (rclk B0).mc⟩ := rfl
  rw [hf] at r1 hRES
  clear hf
  generalize (rclk B0).h = h at *
  generalize (rclk B0).mi = mi at *
  generalize (rclk B0).s = s9 at *
  generalize (rclk B0).mc = mc at *
  unfold whC at r1
  simp only at r1
  have r1 := hide r1
  generalize rsml A1 = X1 at *
  generalize rsml A2 = X2 at *
  generalize rsml B2 = X3 at *
  have HR := hide (show RES = vaC ⟨5, 0, 0, ⟨#[]⟩, ⟨false, X1, X2, X3, h, mi, s9, mc⟩⟩ from hRES)
  have P0 := Pz.new w t un (vaC va0)
  obtain ⟨w2, hw2⟩ : ∃ z, z = (w.alloc (.cells #[.int .u8 t, .bool un] 23)).alloc (.cells (vaC va0) 32) := ⟨_, rfl⟩
  rw [← hw2] at P0
  have cK := hide (kind_ref t un w2 q0 q1)
  rw [hk] at cK
  have SV := hide (vaC_size ⟨5, 0, 0, ⟨#[]⟩, ⟨false, X1, X2, X3, h, mi, s9, mc⟩⟩)
  have OV := hide (vaC_one ⟨5, 0, 0, ⟨#[]⟩, ⟨false, X1, X2, X3, h, mi, s9, mc⟩⟩)
  have HW := hide (show (w.alloc (.cells #[.int .u8 t, .bool un] 23)).alloc (.cells #[.int .i64 0, .int .i64 0, .int .u64 0, .string ⟨#[]⟩, .bool false, .int .i64 0, .int .i64 0, .int .i64 0, .int .i64 0, .int .i64 0, .int .i64 0, .int .i64 0] 32) = w2 from hw2.symm)
  have PP := hide P0
  obtain ⟨t0, t1⟩ := P0.cells
  clear hw2 P0 q0 q1 hk hl hO hRES k0 k1 k2 k3 k4 k5
  go_enter Tryz.func32, Tryz.ntmps32
  go_wp2_with fail
  rw [unhide HW]
  refine (unhide cK).mono ?_
  rintro e w3 ⟨rfl, b3⟩
  have G3 := hide (Gv.new ((unhide PP).later b3) #[.int .i64 5, .int .i64 0, .int .u64 0, .string ⟨#[]⟩, .bool false, .int .i64 0, .int .i64 0, .int .i64 0, .int .i64 0, .int .i64 0, .int .i64 0, .int .i64 0])
  clear b3 PP HW cK t0 t1
  go_wp2_with fail
  refine (unhide c1 _).mono ?_
  rintro e w4 ⟨rfl, b4⟩
  have G4 := hide ((unhide G3).later b4)
  clear b4 G3 c1
  go_wp2_with fail
  refine (unhide r1 _).mono ?_
  rintro e w5 ⟨rfl, b5⟩
  have G5 := hide ((unhide G4).later b5)
  clear b5 G4 r1
  have c104 := vrow_cell (unhide G5).v (j := 4) (v := .bool false) rfl
  have f104 := frozen_of_row _ _ 4 _ _ (unhide G5).v
  have c105 := vrow_cell (unhide G5).v (j := 5) (v := .int .i64 0) rfl
  have f105 := frozen_of_row _ _ 5 _ _ (unhide G5).v
  have c106 := vrow_cell (unhide G5).v (j := 6) (v := .int .i64 0) rfl
  have f106 := frozen_of_row _ _ 6 _ _ (unhide G5).v
  have c107 := vrow_cell (unhide G5).v (j := 7) (v := .int .i64 0) rfl
  have f107 := frozen_of_row _ _ 7 _ _ (unhide G5).v
  have c108 := vrow_cell (unhide G5).v (j := 8) (v := .int .i64 0) rfl
  have f108 := frozen_of_row _ _ 8 _ _ (unhide G5).v
  have c109 := vrow_cell (unhide G5).v (j := 9) (v := .int .i64 0) rfl
  have f109 := frozen_of_row _ _ 9 _ _ (unhide G5).v
  have c110 := vrow_cell (unhide G5).v (j := 10) (v := .int .i64 0) rfl
  have f110 := frozen_of_row _ _ 10 _ _ (unhide G5).v
  have c111 := vrow_cell (unhide G5).v (j := 11) (v := .int .i64 0) rfl
  have f111 := frozen_of_row _ _ 11 _ _ (unhide G5).v
  have G90 := hide (Gv.set (Gv.set (Gv.set (Gv.set (Gv.set (Gv.set (Gv.set (Gv.set (unhide G5) 4 (.bool false) (D := #[.int .i64 5, .int .i64 0, .int .u64 0, .string ⟨#[]⟩, .bool false, .int .i64 0, .int .i64 0, .int .i64 0, .int .i64 0, .int .i64 0, .int .i64 0, .int .i64 0]) rfl) 5 (.int .i64 0) (D := #[.int .i64 5, .int .i64 0, .int .u64 0, .string ⟨#[]⟩, .bool false, .int .i64 0, .int .i64 0, .int .i64 0, .int .i64 0, .int .i64 0, .int .i64 0, .int .i64 0]) rfl) 6 (.int .i64 0) (D := #[.int .i64 5, .int .i64 0, .int .u64 0, .string ⟨#[]⟩, .bool false, .int .i64 0, .int .i64 0, .int .i64 0, .int .i64 0, .int .i64 0, .int .i64 0, .int .i64 0]) rfl) 7 (.int .i64 0) (D := #[.int .i64 5, .int .i64 0, .int .u64 0, .string ⟨#[]⟩, .bool false, .int .i64 0, .int .i64 0, .int .i64 0, .int .i64 0, .int .i64 0, .int .i64 0, .int .i64 0]) rfl) 8 (.int .i64 h) (D := #[.int .i64 5, .int .i64 0, .int .u64 0, .string ⟨#[]⟩, .bool false, .int .i64 0, .int .i64 0, .int .i64 0, .int .i64 h, .int .i64 0, .int .i64 0, .int .i64 0]) rfl) 9 (.int .i64 mi) (D := #[.int .i64 5, .int .i64 0, .int .u64 0, .string ⟨#[]⟩, .bool false, .int .i64 0, .int .i64 0, .int .i64 0, .int .i64 h, .int .i64 mi, .int .i64 0, .int .i64 0]) rfl) 10 (.int .i64 s9) (D := #[.int .i64 5, .int .i64 0, .int .u64 0, .string ⟨#[]⟩, .bool false, .int .i64 0, .int .i64 0, .int .i64 0, .int .i64 h, .int .i64 mi, .int .i64 s9, .int .i64 0]) rfl) 11 (.int .i64 mc) (D := #[.int .i64 5, .int .i64 0, .int .u64 0, .string ⟨#[]⟩, .bool false, .int .i64 0, .int .i64 0, .int .i64 0, .int .i64 h, .int .i64 mi, .int .i64 s9, .int .i64 mc]) rfl)
  clear G5
  go_wp2_with fail
  clear c104 f104 c105 f105 c106 f106 c107 f107 c108 f108 c109 f109 c110 f110 c111 f111
  refine (unhide c2 _).mono ?_
  rintro e w91 ⟨rfl, b91⟩
  have G91 := hide ((unhide G90).later b91)
  clear b91 G90 c2
  go_wp2_with fail
  refine (unhide c3 _).mono ?_
  rintro e w92 ⟨rfl, b92⟩
  have G92 := hide ((unhide G91).later b92)
  clear b92 G91 c3
  go_wp2_with fail
  refine (unhide s1 _).mono ?_
  rintro e w93 ⟨rfl, b93⟩
  have G93 := hide ((unhide G92).later b93)
  clear b93 G92 s1
  go_wp2_with fail
  refine (unhide s2 _).mono ?_
  rintro e w94 ⟨rfl, b94⟩
  have G94 := hide ((unhide G93).later b94)
  clear b94 G93 s2
  go_wp2_with fail
  refine (unhide s3 _).mono ?_
  rintro e w95 ⟨rfl, b95⟩
  have G95 := hide ((unhide G94).later b95)
  clear b95 G94 s3
  have c105 := vrow_cell (unhide G95).v (j := 5) (v := .int .i64 0) rfl
  have f105 := frozen_of_row _ _ 5 _ _ (unhide G95).v
  have c106 := vrow_cell (unhide G95).v (j := 6) (v := .int .i64 0) rfl
  have f106 := frozen_of_row _ _ 6 _ _ (unhide G95).v
  have c107 := vrow_cell (unhide G95).v (j := 7) (v := .int .i64 0) rfl
  have f107 := frozen_of_row _ _ 7 _ _ (unhide G95).v
  have GE := hide (show Gv w t un w3.heap.size (vaC ⟨5, 0, 0, ⟨#[]⟩, ⟨false, X1, X2, X3, h, mi, s9, mc⟩⟩) (((w95.setCell ⟨w3.heap.size, 5, none⟩ (.int .i64 X1)).setCell ⟨w3.heap.size, 6, none⟩ (.int .i64 X2)).setCell ⟨w3.heap.size, 7, none⟩ (.int .i64 X3)) from (Gv.set (Gv.set (Gv.set (unhide G95) 5 (.int .i64 X1) (D := #[.int .i64 5, .int .i64 0, .int .u64 0, .string ⟨#[]⟩, .bool false, .int .i64 X1, .int .i64 0, .int .i64 0, .int .i64 h, .int .i64 mi, .int .i64 s9, .int .i64 mc]) rfl) 6 (.int .i64 X2) (D := #[.int .i64 5, .int .i64 0, .int .u64 0, .string ⟨#[]⟩, .bool false, .int .i64 X1, .int .i64 X2, .int .i64 0, .int .i64 h, .int .i64 mi, .int .i64 s9, .int .i64 mc]) rfl) 7 (.int .i64 X3) (D := #[.int .i64 5, .int .i64 0, .int .u64 0, .string ⟨#[]⟩, .bool false, .int .i64 X1, .int .i64 X2, .int .i64 X3, .int .i64 h, .int .i64 mi, .int .i64 s9, .int .i64 mc]) rfl))
  clear G95
  go_wp2_with (first | (with_reducible show wpList Tryz.prog _ _ (Oper.mk _ (Op.load 32 _) _ _ _ none :: _) _ _; have P6 := unhide GE; obtain ⟨wE, hwE⟩ : ∃ z, z = (((w95.setCell ⟨w3.heap.size, 5, none⟩ (.int .i64 X1)).setCell ⟨w3.heap.size, 6, none⟩ (.int .i64 X2)).setCell ⟨w3.heap.size, 7, none⟩ (.int .i64 X3)) := ⟨_, rfl⟩; rw [← hwE] at P6 ⊢; have PE := hide P6; clear hwE P6 GE; refine wpList_load_row rfl _ (.tmp 5) rfl w3.heap.size rfl _ (vaC ⟨5, 0, 0, ⟨#[]⟩, ⟨false, X1, X2, X3, h, mi, s9, mc⟩⟩) (0, 0) _ (unhide PE).v Tryz.underlying32 rfl (unhide SV) ?_) | (with_reducible show wpList Tryz.prog _ _ (Oper.mk _ (Op.store 32 _ _) _ _ _ none :: _) _ _; refine wpList_stG rfl _ (.tmp 4) (.tmp 137) rfl (w.heap.size + 1) (vaC ⟨5, 0, 0, ⟨#[]⟩, ⟨false, X1, X2, X3, h, mi, s9, mc⟩⟩) (vaC va0) rfl rfl (unhide PE).p.rr (unhide SV) rfl (unhide OV) ?_; intro wS rS gS zS; have PS := hide ((unhide PE).p.set rS gS); clear rS gS zS))
  refine bodyPost_ret (results_cell_row rfl _ _ (w.heap.size + 1) _ _ _ _ rfl (unhide PS).rr Tryz.underlying32 rfl (unhide SV)) rfl ?_
  rw [unhide HR]
  exact ⟨rfl, (unhide PS).bl⟩


end Go.Proofs.YtgldbainhncneaaGreatDoor

namespace Go.Proofs.YtgldbainhncneaaGreatDoor
open Go.RowKit
set_option linter.unusedVariables false
set_option linter.unusedSimpArgs false

theorem clock_self (s : ByteArray) (w : World) (hs : s.size ≤ 1099511627776) : Calls Tryz.prog 69 #[.string s] w fun e w' => e = .returned (.agg (whC (rclk s.data.toList))) ∧ Below w.heap.size w w' := by
  have h := clockRead_ref s.data.toList w (by rw [str_ln]; exact hs)
  rwa [tb_self'] at h
theorem clock_tail (s : ByteArray) (w : World) (hs : s.size ≤ 1099511627776) : Calls Tryz.prog 69 #[.string (s.extract 1 s.size)] w fun e w' => e = .returned (.agg (whC (rclk (s.data.toList.drop 1)))) ∧ Below w.heap.size w w' := by
  have h := clock_self (s.extract 1 s.size) w (by simp; omega)
  rwa [str_drop] at h

set_option maxHeartbeats 4000000 in
set_option maxRecDepth 100000 in
theorem rguess_6eh (s : ByteArray) (t : Int) (un : Bool) (w : World) (q0 : 0 ≤ t) (q1 : t < 256) (hs : s.size ≤ 1099511627776) (hk : kdV t un = 6) (h0 : s.size = 0) (hh : 0 ≤ (rclk s.data.toList).h) (hm : (rclk s.data.toList).h < 1048576) :
    Calls Tryz.prog 32 #[.string s, .agg #[.int .u8 t, .bool un]] w fun e w' => e = .returned (.agg (vaC ⟨6, 0, 0, ⟨#[]⟩, ⟨false, 0, 0, (rclk s.data.toList).h / 24, (rclk s.data.toList).h % 24, (rclk s.data.toList).mi, (rclk s.data.toList).s, (rclk s.data.toList).mc⟩⟩)) ∧ Below w.heap.size w w' := by
  obtain ⟨RES, hRES⟩ : ∃ z, z = vaC ⟨6, 0, 0, ⟨#[]⟩, ⟨false, 0, 0, (rclk s.data.toList).h / 24, (rclk s.data.toList).h % 24, (rclk s.data.toList).mi, (rclk s.data.toList).s, (rclk s.data.toList).mc⟩⟩ := ⟨_, rfl⟩
  rw [← hRES]
  have r1 := fun wx => clock_self s wx hs
  have hf : rclk s.data.toList = ⟨false, 0, 0, 0, (rclk s.data.toList).h, (rclk s.data.toList).mi, (rclk s.data.toList).s, (rclk s.data.toList).mc⟩ := rfl
  rw [hf] at r1
  clear hf
  generalize (rclk s.data.toList).h = h at *
  generalize (rclk s.data.toList).mi = mi at *
  generalize (rclk s.data.toList).s = s9 at *
  generalize (rclk s.data.toList).mc = mc at *
  unfold whC at r1
  simp only at r1
  have r1 := hide r1
  obtain ⟨D, hD⟩ : ∃ z, z = h / 24 := ⟨_, rfl⟩
  obtain ⟨M, hM⟩ : ∃ z, z = h % 24 := ⟨_, rfl⟩
  rw [← hD, ← hM] at hRES
  have m1 : h.tdiv 24 = D := by rw [Int.tdiv_eq_ediv_of_nonneg hh]; exact hD.symm
  have m2 : h.tmod 24 = M := by rw [Int.tmod_eq_emod_of_nonneg hh]; exact hM.symm
  have m3 := hD.symm
  have m4 := hM.symm
  have n1 : IntKind.i64.wrap D = D := by rw [IntKind.wrap_i64]; omega
  have n2 : IntKind.i64.wrap M = M := by rw [IntKind.wrap_i64]; omega
  clear hD hM
  have HR := hide (show RES = vaC ⟨6, 0, 0, ⟨#[]⟩, ⟨false, 0, 0, D, M, mi, s9, mc⟩⟩ from hRES)
  have d0 : ¬ 0 < s.size := by omega
  clear h0
  have P0 := Pz.new w t un (vaC va0)
  obtain ⟨w2, hw2⟩ : ∃ z, z = (w.alloc (.cells #[.int .u8 t, .bool un] 23)).alloc (.cells (vaC va0) 32) := ⟨_, rfl⟩
  rw [← hw2] at P0
  have cK := hide (kind_ref t un w2 q0 q1)
  rw [hk] at cK
  have SV := hide (vaC_size ⟨6, 0, 0, ⟨#[]⟩, ⟨false, 0, 0, D, M, mi, s9, mc⟩⟩)
  have OV := hide (vaC_one ⟨6, 0, 0, ⟨#[]⟩, ⟨false, 0, 0, D, M, mi, s9, mc⟩⟩)
  have HW := hide (show (w.alloc (.cells #[.int .u8 t, .bool un] 23)).alloc (.cells #[.int .i64 0, .int .i64 0, .int .u64 0, .string ⟨#[]⟩, .bool false, .int .i64 0, .int .i64 0, .int .i64 0, .int .i64 0, .int .i64 0, .int .i64 0, .int .i64 0] 32) = w2 from hw2.symm)
  have PP := hide P0
  obtain ⟨t0, t1⟩ := P0.cells
  clear hw2 P0 q0 q1 hk hs hRES
  go_enter Tryz.func32, Tryz.ntmps32
  go_wp2_with fail
  rw [unhide HW]
  refine (unhide cK).mono ?_
  rintro e w3 ⟨rfl, b3⟩
  have G3 := hide (Gv.new ((unhide PP).later b3) #[.int .i64 6, .int .i64 0, .int .u64 0, .string ⟨#[]⟩, .bool false, .int .i64 0, .int .i64 0, .int .i64 0, .int .i64 0, .int .i64 0, .int .i64 0, .int .i64 0])
  clear b3 PP HW cK t0 t1
  go_wp2_with fail
  refine (unhide r1 _).mono ?_
  rintro e w4 ⟨rfl, b4⟩
  have G4 := hide ((unhide G3).later b4)
  clear b4 G3 r1
  have c104 := vrow_cell (unhide G4).v (j := 4) (v := .bool false) rfl
  have f104 := frozen_of_row _ _ 4 _ _ (unhide G4).v
  have c105 := vrow_cell (unhide G4).v (j := 5) (v := .int .i64 0) rfl
  have f105 := frozen_of_row _ _ 5 _ _ (unhide G4).v
  have c106 := vrow_cell (unhide G4).v (j := 6) (v := .int .i64 0) rfl
  have f106 := frozen_of_row _ _ 6 _ _ (unhide G4).v
  have c107 := vrow_cell (unhide G4).v (j := 7) (v := .int .i64 0) rfl
  have f107 := frozen_of_row _ _ 7 _ _ (unhide G4).v
  have c108 := vrow_cell (unhide G4).v (j := 8) (v := .int .i64 0) rfl
  have f108 := frozen_of_row _ _ 8 _ _ (unhide G4).v
  have c109 := vrow_cell (unhide G4).v (j := 9) (v := .int .i64 0) rfl
  have f109 := frozen_of_row _ _ 9 _ _ (unhide G4).v
  have c110 := vrow_cell (unhide G4).v (j := 10) (v := .int .i64 0) rfl
  have f110 := frozen_of_row _ _ 10 _ _ (unhide G4).v
  have c111 := vrow_cell (unhide G4).v (j := 11) (v := .int .i64 0) rfl
  have f111 := frozen_of_row _ _ 11 _ _ (unhide G4).v
  have GE := hide (show Gv w t un w3.heap.size (vaC ⟨6, 0, 0, ⟨#[]⟩, ⟨false, 0, 0, D, M, mi, s9, mc⟩⟩) (((((((((((w4.setCell ⟨w3.heap.size, 4, none⟩ (.bool false)).setCell ⟨w3.heap.size, 5, none⟩ (.int .i64 0)).setCell ⟨w3.heap.size, 6, none⟩ (.int .i64 0)).setCell ⟨w3.heap.size, 7, none⟩ (.int .i64 0)).setCell ⟨w3.heap.size, 8, none⟩ (.int .i64 h)).setCell ⟨w3.heap.size, 9, none⟩ (.int .i64 mi)).setCell ⟨w3.heap.size, 10, none⟩ (.int .i64 s9)).setCell ⟨w3.heap.size, 11, none⟩ (.int .i64 mc)).setCell ⟨w3.heap.size, 4, none⟩ (.bool false)).setCell ⟨w3.heap.size, 7, none⟩ (.int .i64 D)).setCell ⟨w3.heap.size, 8, none⟩ (.int .i64 M)) from (Gv.set (Gv.set (Gv.set (Gv.set (Gv.set (Gv.set (Gv.set (Gv.set (Gv.set (Gv.set (Gv.set (unhide G4) 4 (.bool false) (D := #[.int .i64 6, .int .i64 0, .int .u64 0, .string ⟨#[]⟩, .bool false, .int .i64 0, .int .i64 0, .int .i64 0, .int .i64 0, .int .i64 0, .int .i64 0, .int .i64 0]) rfl) 5 (.int .i64 0) (D := #[.int .i64 6, .int .i64 0, .int .u64 0, .string ⟨#[]⟩, .bool false, .int .i64 0, .int .i64 0, .int .i64 0, .int .i64 0, .int .i64 0, .int .i64 0, .int .i64 0]) rfl) 6 (.int .i64 0) (D := #[.int .i64 6, .int .i64 0, .int .u64 0, .string ⟨#[]⟩, .bool false, .int .i64 0, .int .i64 0, .int .i64 0, .int .i64 0, .int .i64 0, .int .i64 0, .int .i64 0]) rfl) 7 (.int .i64 0) (D := #[.int .i64 6, .int .i64 0, .int .u64 0, .string ⟨#[]⟩, .bool false, .int .i64 0, .int .i64 0, .int .i64 0, .int .i64 0, .int .i64 0, .int .i64 0, .int .i64 0]) rfl) 8 (.int .i64 h) (D := #[.int .i64 6, .int .i64 0, .int .u64 0, .string ⟨#[]⟩, .bool false, .int .i64 0, .int .i64 0, .int .i64 0, .int .i64 h, .int .i64 0, .int .i64 0, .int .i64 0]) rfl) 9 (.int .i64 mi) (D := #[.int .i64 6, .int .i64 0, .int .u64 0, .string ⟨#[]⟩, .bool false, .int .i64 0, .int .i64 0, .int .i64 0, .int .i64 h, .int .i64 mi, .int .i64 0, .int .i64 0]) rfl) 10 (.int .i64 s9) (D := #[.int .i64 6, .int .i64 0, .int .u64 0, .string ⟨#[]⟩, .bool false, .int .i64 0, .int .i64 0, .int .i64 0, .int .i64 h, .int .i64 mi, .int .i64 s9, .int .i64 0]) rfl) 11 (.int .i64 mc) (D := #[.int .i64 6, .int .i64 0, .int .u64 0, .string ⟨#[]⟩, .bool false, .int .i64 0, .int .i64 0, .int .i64 0, .int .i64 h, .int .i64 mi, .int .i64 s9, .int .i64 mc]) rfl) 4 (.bool false) (D := #[.int .i64 6, .int .i64 0, .int .u64 0, .string ⟨#[]⟩, .bool false, .int .i64 0, .int .i64 0, .int .i64 0, .int .i64 h, .int .i64 mi, .int .i64 s9, .int .i64 mc]) rfl) 7 (.int .i64 D) (D := #[.int .i64 6, .int .i64 0, .int .u64 0, .string ⟨#[]⟩, .bool false, .int .i64 0, .int .i64 0, .int .i64 D, .int .i64 h, .int .i64 mi, .int .i64 s9, .int .i64 mc]) rfl) 8 (.int .i64 M) (D := #[.int .i64 6, .int .i64 0, .int .u64 0, .string ⟨#[]⟩, .bool false, .int .i64 0, .int .i64 0, .int .i64 D, .int .i64 M, .int .i64 mi, .int .i64 s9, .int .i64 mc]) rfl))
  clear G4
  go_wp2_with (first | (with_reducible show wpList Tryz.prog _ _ (Oper.mk _ (Op.load 32 _) _ _ _ none :: _) _ _; have P6 := unhide GE; obtain ⟨wE, hwE⟩ : ∃ z, z = (((((((((((w4.setCell ⟨w3.heap.size, 4, none⟩ (.bool false)).setCell ⟨w3.heap.size, 5, none⟩ (.int .i64 0)).setCell ⟨w3.heap.size, 6, none⟩ (.int .i64 0)).setCell ⟨w3.heap.size, 7, none⟩ (.int .i64 0)).setCell ⟨w3.heap.size, 8, none⟩ (.int .i64 h)).setCell ⟨w3.heap.size, 9, none⟩ (.int .i64 mi)).setCell ⟨w3.heap.size, 10, none⟩ (.int .i64 s9)).setCell ⟨w3.heap.size, 11, none⟩ (.int .i64 mc)).setCell ⟨w3.heap.size, 4, none⟩ (.bool false)).setCell ⟨w3.heap.size, 7, none⟩ (.int .i64 D)).setCell ⟨w3.heap.size, 8, none⟩ (.int .i64 M)) := ⟨_, rfl⟩; rw [← hwE] at P6 ⊢; have PE := hide P6; clear hwE P6 GE; refine wpList_load_row rfl _ (.tmp 5) rfl w3.heap.size rfl _ (vaC ⟨6, 0, 0, ⟨#[]⟩, ⟨false, 0, 0, D, M, mi, s9, mc⟩⟩) (0, 0) _ (unhide PE).v Tryz.underlying32 rfl (unhide SV) ?_) | (with_reducible show wpList Tryz.prog _ _ (Oper.mk _ (Op.store 32 _ _) _ _ _ none :: _) _ _; refine wpList_stG rfl _ (.tmp 4) (.tmp 137) rfl (w.heap.size + 1) (vaC ⟨6, 0, 0, ⟨#[]⟩, ⟨false, 0, 0, D, M, mi, s9, mc⟩⟩) (vaC va0) rfl rfl (unhide PE).p.rr (unhide SV) rfl (unhide OV) ?_; intro wS rS gS zS; have PS := hide ((unhide PE).p.set rS gS); clear rS gS zS))
  refine bodyPost_ret (results_cell_row rfl _ _ (w.heap.size + 1) _ _ _ _ rfl (unhide PS).rr Tryz.underlying32 rfl (unhide SV)) rfl ?_
  rw [unhide HR]
  exact ⟨rfl, (unhide PS).bl⟩

set_option maxHeartbeats 4000000 in
set_option maxRecDepth 100000 in
theorem rguess_6ew (s : ByteArray) (t : Int) (un : Bool) (w : World) (q0 : 0 ≤ t) (q1 : t < 256) (hs : s.size ≤ 1099511627776) (hk : kdV t un = 6) (h0 : s.size = 0) (hh : (rclk s.data.toList).h < 0) (hm : (rclk s.data.toList).h < 1048576) :
    Calls Tryz.prog 32 #[.string s, .agg #[.int .u8 t, .bool un]] w fun e w' => e = .returned (.agg (vaC ⟨6, 0, 0, ⟨#[]⟩, ⟨false, 0, 0, 0, (rclk s.data.toList).h, (rclk s.data.toList).mi, (rclk s.data.toList).s, (rclk s.data.toList).mc⟩⟩)) ∧ Below w.heap.size w w' := by
  obtain ⟨RES, hRES⟩ : ∃ z, z = vaC ⟨6, 0, 0, ⟨#[]⟩, ⟨false, 0, 0, 0, (rclk s.data.toList).h, (rclk s.data.toList).mi, (rclk s.data.toList).s, (rclk s.data.toList).mc⟩⟩ := ⟨_, rfl⟩
  rw [← hRES]
  have r1 := fun wx => clock_self s wx hs
  have hf : rclk s.data.toList = ⟨false, 0, 0, 0, (rclk s.data.toList).h, (rclk s.data.toList).mi, (rclk s.data.toList).s, (rclk s.data.toList).mc⟩ := rfl
  rw [hf] at r1
  clear hf
  generalize (rclk s.data.toList).h = h at *
  generalize (rclk s.data.toList).mi = mi at *
  generalize (rclk s.data.toList).s = s9 at *
  generalize (rclk s.data.toList).mc = mc at *
  unfold whC at r1
  simp only at r1
  have r1 := hide r1
  have HR := hide (show RES = vaC ⟨6, 0, 0, ⟨#[]⟩, ⟨false, 0, 0, 0, h, mi, s9, mc⟩⟩ from hRES)
  have d0 : ¬ 0 < s.size := by omega
  clear h0
  have P0 := Pz.new w t un (vaC va0)
  obtain ⟨w2, hw2⟩ : ∃ z, z = (w.alloc (.cells #[.int .u8 t, .bool un] 23)).alloc (.cells (vaC va0) 32) := ⟨_, rfl⟩
  rw [← hw2] at P0
  have cK := hide (kind_ref t un w2 q0 q1)
  rw [hk] at cK
  have SV := hide (vaC_size ⟨6, 0, 0, ⟨#[]⟩, ⟨false, 0, 0, 0, h, mi, s9, mc⟩⟩)
  have OV := hide (vaC_one ⟨6, 0, 0, ⟨#[]⟩, ⟨false, 0, 0, 0, h, mi, s9, mc⟩⟩)
  have HW := hide (show (w.alloc (.cells #[.int .u8 t, .bool un] 23)).alloc (.cells #[.int .i64 0, .int .i64 0, .int .u64 0, .string ⟨#[]⟩, .bool false, .int .i64 0, .int .i64 0, .int .i64 0, .int .i64 0, .int .i64 0, .int .i64 0, .int .i64 0] 32) = w2 from hw2.symm)
  have PP := hide P0
  obtain ⟨t0, t1⟩ := P0.cells
  clear hw2 P0 q0 q1 hk hs hRES
  go_enter Tryz.func32, Tryz.ntmps32
  go_wp2_with fail
  rw [unhide HW]
  refine (unhide cK).mono ?_
  rintro e w3 ⟨rfl, b3⟩
  have G3 := hide (Gv.new ((unhide PP).later b3) #[.int .i64 6, .int .i64 0, .int .u64 0, .string ⟨#[]⟩, .bool false, .int .i64 0, .int .i64 0, .int .i64 0, .int .i64 0, .int .i64 0, .int .i64 0, .int .i64 0])
  clear b3 PP HW cK t0 t1
  go_wp2_with fail
  refine (unhide r1 _).mono ?_
  rintro e w4 ⟨rfl, b4⟩
  have G4 := hide ((unhide G3).later b4)
  clear b4 G3 r1
  have c104 := vrow_cell (unhide G4).v (j := 4) (v := .bool false) rfl
  have f104 := frozen_of_row _ _ 4 _ _ (unhide G4).v
  have c105 := vrow_cell (unhide G4).v (j := 5) (v := .int .i64 0) rfl
  have f105 := frozen_of_row _ _ 5 _ _ (unhide G4).v
  have c106 := vrow_cell (unhide G4).v (j := 6) (v := .int .i64 0) rfl
  have f106 := frozen_of_row _ _ 6 _ _ (unhide G4).v
  have c107 := vrow_cell (unhide G4).v (j := 7) (v := .int .i64 0) rfl
  have f107 := frozen_of_row _ _ 7 _ _ (unhide G4).v
  have c108 := vrow_cell (unhide G4).v (j := 8) (v := .int .i64 0) rfl
  have f108 := frozen_of_row _ _ 8 _ _ (unhide G4).v
  have c109 := vrow_cell (unhide G4).v (j := 9) (v := .int .i64 0) rfl
  have f109 := frozen_of_row _ _ 9 _ _ (unhide G4).v
  have c110 := vrow_cell (unhide G4).v (j := 10) (v := .int .i64 0) rfl
  have f110 := frozen_of_row _ _ 10 _ _ (unhide G4).v
  have c111 := vrow_cell (unhide G4).v (j := 11) (v := .int .i64 0) rfl
  have f111 := frozen_of_row _ _ 11 _ _ (unhide G4).v
  have GE := hide (show Gv w t un w3.heap.size (vaC ⟨6, 0, 0, ⟨#[]⟩, ⟨false, 0, 0, 0, h, mi, s9, mc⟩⟩) (((((((((w4.setCell ⟨w3.heap.size, 4, none⟩ (.bool false)).setCell ⟨w3.heap.size, 5, none⟩ (.int .i64 0)).setCell ⟨w3.heap.size, 6, none⟩ (.int .i64 0)).setCell ⟨w3.heap.size, 7, none⟩ (.int .i64 0)).setCell ⟨w3.heap.size, 8, none⟩ (.int .i64 h)).setCell ⟨w3.heap.size, 9, none⟩ (.int .i64 mi)).setCell ⟨w3.heap.size, 10, none⟩ (.int .i64 s9)).setCell ⟨w3.heap.size, 11, none⟩ (.int .i64 mc)).setCell ⟨w3.heap.size, 4, none⟩ (.bool false)) from (Gv.set (Gv.set (Gv.set (Gv.set (Gv.set (Gv.set (Gv.set (Gv.set (Gv.set (unhide G4) 4 (.bool false) (D := #[.int .i64 6, .int .i64 0, .int .u64 0, .string ⟨#[]⟩, .bool false, .int .i64 0, .int .i64 0, .int .i64 0, .int .i64 0, .int .i64 0, .int .i64 0, .int .i64 0]) rfl) 5 (.int .i64 0) (D := #[.int .i64 6, .int .i64 0, .int .u64 0, .string ⟨#[]⟩, .bool false, .int .i64 0, .int .i64 0, .int .i64 0, .int .i64 0, .int .i64 0, .int .i64 0, .int .i64 0]) rfl) 6 (.int .i64 0) (D := #[.int .i64 6, .int .i64 0, .int .u64 0, .string ⟨#[]⟩, .bool false, .int .i64 0, .int .i64 0, .int .i64 0, .int .i64 0, .int .i64 0, .int .i64 0, .int .i64 0]) rfl) 7 (.int .i64 0) (D := #[.int .i64 6, .int .i64 0, .int .u64 0, .string ⟨#[]⟩, .bool false, .int .i64 0, .int .i64 0, .int .i64 0, .int .i64 0, .int .i64 0, .int .i64 0, .int .i64 0]) rfl) 8 (.int .i64 h) (D := #[.int .i64 6, .int .i64 0, .int .u64 0, .string ⟨#[]⟩, .bool false, .int .i64 0, .int .i64 0, .int .i64 0, .int .i64 h, .int .i64 0, .int .i64 0, .int .i64 0]) rfl) 9 (.int .i64 mi) (D := #[.int .i64 6, .int .i64 0, .int .u64 0, .string ⟨#[]⟩, .bool false, .int .i64 0, .int .i64 0, .int .i64 0, .int .i64 h, .int .i64 mi, .int .i64 0, .int .i64 0]) rfl) 10 (.int .i64 s9) (D := #[.int .i64 6, .int .i64 0, .int .u64 0, .string ⟨#[]⟩, .bool false, .int .i64 0, .int .i64 0, .int .i64 0, .int .i64 h, .int .i64 mi, .int .i64 s9, .int .i64 0]) rfl) 11 (.int .i64 mc) (D := #[.int .i64 6, .int .i64 0, .int .u64 0, .string ⟨#[]⟩, .bool false, .int .i64 0, .int .i64 0, .int .i64 0, .int .i64 h, .int .i64 mi, .int .i64 s9, .int .i64 mc]) rfl) 4 (.bool false) (D := #[.int .i64 6, .int .i64 0, .int .u64 0, .string ⟨#[]⟩, .bool false, .int .i64 0, .int .i64 0, .int .i64 0, .int .i64 h, .int .i64 mi, .int .i64 s9, .int .i64 mc]) rfl))
  clear G4
  go_wp2_with (first | (with_reducible show wpList Tryz.prog _ _ (Oper.mk _ (Op.load 32 _) _ _ _ none :: _) _ _; have P6 := unhide GE; obtain ⟨wE, hwE⟩ : ∃ z, z = (((((((((w4.setCell ⟨w3.heap.size, 4, none⟩ (.bool false)).setCell ⟨w3.heap.size, 5, none⟩ (.int .i64 0)).setCell ⟨w3.heap.size, 6, none⟩ (.int .i64 0)).setCell ⟨w3.heap.size, 7, none⟩ (.int .i64 0)).setCell ⟨w3.heap.size, 8, none⟩ (.int .i64 h)).setCell ⟨w3.heap.size, 9, none⟩ (.int .i64 mi)).setCell ⟨w3.heap.size, 10, none⟩ (.int .i64 s9)).setCell ⟨w3.heap.size, 11, none⟩ (.int .i64 mc)).setCell ⟨w3.heap.size, 4, none⟩ (.bool false)) := ⟨_, rfl⟩; rw [← hwE] at P6 ⊢; have PE := hide P6; clear hwE P6 GE; refine wpList_load_row rfl _ (.tmp 5) rfl w3.heap.size rfl _ (vaC ⟨6, 0, 0, ⟨#[]⟩, ⟨false, 0, 0, 0, h, mi, s9, mc⟩⟩) (0, 0) _ (unhide PE).v Tryz.underlying32 rfl (unhide SV) ?_) | (with_reducible show wpList Tryz.prog _ _ (Oper.mk _ (Op.store 32 _ _) _ _ _ none :: _) _ _; refine wpList_stG rfl _ (.tmp 4) (.tmp 137) rfl (w.heap.size + 1) (vaC ⟨6, 0, 0, ⟨#[]⟩, ⟨false, 0, 0, 0, h, mi, s9, mc⟩⟩) (vaC va0) rfl rfl (unhide PE).p.rr (unhide SV) rfl (unhide OV) ?_; intro wS rS gS zS; have PS := hide ((unhide PE).p.set rS gS); clear rS gS zS))
  refine bodyPost_ret (results_cell_row rfl _ _ (w.heap.size + 1) _ _ _ _ rfl (unhide PS).rr Tryz.underlying32 rfl (unhide SV)) rfl ?_
  rw [unhide HR]
  exact ⟨rfl, (unhide PS).bl⟩

set_option maxHeartbeats 4000000 in
set_option maxRecDepth 100000 in
theorem rguess_6ph (s : ByteArray) (t : Int) (un : Bool) (w : World) (q0 : 0 ≤ t) (q1 : t < 256) (hs : s.size ≤ 1099511627776) (hk : kdV t un = 6) (h0 : 0 < s.size) (h1 : s[0].toNat ≠ 45) (hh : 0 ≤ (rclk s.data.toList).h) (hm : (rclk s.data.toList).h < 1048576) :
    Calls Tryz.prog 32 #[.string s, .agg #[.int .u8 t, .bool un]] w fun e w' => e = .returned (.agg (vaC ⟨6, 0, 0, ⟨#[]⟩, ⟨false, 0, 0, (rclk s.data.toList).h / 24, (rclk s.data.toList).h % 24, (rclk s.data.toList).mi, (rclk s.data.toList).s, (rclk s.data.toList).mc⟩⟩)) ∧ Below w.heap.size w w' := by
  obtain ⟨RES, hRES⟩ : ∃ z, z = vaC ⟨6, 0, 0, ⟨#[]⟩, ⟨false, 0, 0, (rclk s.data.toList).h / 24, (rclk s.data.toList).h % 24, (rclk s.data.toList).mi, (rclk s.data.toList).s, (rclk s.data.toList).mc⟩⟩ := ⟨_, rfl⟩
  rw [← hRES]
  have r1 := fun wx => clock_self s wx hs
  have hf : rclk s.data.toList = ⟨false, 0, 0, 0, (rclk s.data.toList).h, (rclk s.data.toList).mi, (rclk s.data.toList).s, (rclk s.data.toList).mc⟩ := rfl
  rw [hf] at r1
  clear hf
  generalize (rclk s.data.toList).h = h at *
  generalize (rclk s.data.toList).mi = mi at *
  generalize (rclk s.data.toList).s = s9 at *
  generalize (rclk s.data.toList).mc = mc at *
  unfold whC at r1
  simp only at r1
  have r1 := hide r1
  obtain ⟨D, hD⟩ : ∃ z, z = h / 24 := ⟨_, rfl⟩
  obtain ⟨M, hM⟩ : ∃ z, z = h % 24 := ⟨_, rfl⟩
  rw [← hD, ← hM] at hRES
  have m1 : h.tdiv 24 = D := by rw [Int.tdiv_eq_ediv_of_nonneg hh]; exact hD.symm
  have m2 : h.tmod 24 = M := by rw [Int.tmod_eq_emod_of_nonneg hh]; exact hM.symm
  have m3 := hD.symm
  have m4 := hM.symm
  have n1 : IntKind.i64.wrap D = D := by rw [IntKind.wrap_i64]; omega
  have n2 : IntKind.i64.wrap M = M := by rw [IntKind.wrap_i64]; omega
  clear hD hM
  have HR := hide (show RES = vaC ⟨6, 0, 0, ⟨#[]⟩, ⟨false, 0, 0, D, M, mi, s9, mc⟩⟩ from hRES)
  have d1 : ((s[0].toNat : Int) == 45) = false := beq_eq_false_iff_ne.2 (by omega)
  clear h1
  have P0 := Pz.new w t un (vaC va0)
  obtain ⟨w2, hw2⟩ : ∃ z, z = (w.alloc (.cells #[.int .u8 t, .bool un] 23)).alloc (.cells (vaC va0) 32) := ⟨_, rfl⟩
  rw [← hw2] at P0
  have cK := hide (kind_ref t un w2 q0 q1)
  rw [hk] at cK
  have SV := hide (vaC_size ⟨6, 0, 0, ⟨#[]⟩, ⟨false, 0, 0, D, M, mi, s9, mc⟩⟩)
  have OV := hide (vaC_one ⟨6, 0, 0, ⟨#[]⟩, ⟨false, 0, 0, D, M, mi, s9, mc⟩⟩)
  have HW := hide (show (w.alloc (.cells #[.int .u8 t, .bool un] 23)).alloc (.cells #[.int .i64 0, .int .i64 0, .int .u64 0, .string ⟨#[]⟩, .bool false, .int .i64 0, .int .i64 0, .int .i64 0, .int .i64 0, .int .i64 0, .int .i64 0, .int .i64 0] 32) = w2 from hw2.symm)
  have PP := hide P0
  obtain ⟨t0, t1⟩ := P0.cells
  clear hw2 P0 q0 q1 hk hs hRES
  go_enter Tryz.func32, Tryz.ntmps32
  go_wp2_with fail
  rw [unhide HW]
  refine (unhide cK).mono ?_
  rintro e w3 ⟨rfl, b3⟩
  have G3 := hide (Gv.new ((unhide PP).later b3) #[.int .i64 6, .int .i64 0, .int .u64 0, .string ⟨#[]⟩, .bool false, .int .i64 0, .int .i64 0, .int .i64 0, .int .i64 0, .int .i64 0, .int .i64 0, .int .i64 0])
  clear b3 PP HW cK t0 t1
  go_wp2_with fail
  refine (unhide r1 _).mono ?_
  rintro e w4 ⟨rfl, b4⟩
  have G4 := hide ((unhide G3).later b4)
  clear b4 G3 r1
  have c104 := vrow_cell (unhide G4).v (j := 4) (v := .bool false) rfl
  have f104 := frozen_of_row _ _ 4 _ _ (unhide G4).v
  have c105 := vrow_cell (unhide G4).v (j := 5) (v := .int .i64 0) rfl
  have f105 := frozen_of_row _ _ 5 _ _ (unhide G4).v
  have c106 := vrow_cell (unhide G4).v (j := 6) (v := .int .i64 0) rfl
  have f106 := frozen_of_row _ _ 6 _ _ (unhide G4).v
  have c107 := vrow_cell (unhide G4).v (j := 7) (v := .int .i64 0) rfl
  have f107 := frozen_of_row _ _ 7 _ _ (unhide G4).v
  have c108 := vrow_cell (unhide G4).v (j := 8) (v := .int .i64 0) rfl
  have f108 := frozen_of_row _ _ 8 _ _ (unhide G4).v
  have c109 := vrow_cell (unhide G4).v (j := 9) (v := .int .i64 0) rfl
  have f109 := frozen_of_row _ _ 9 _ _ (unhide G4).v
  have c110 := vrow_cell (unhide G4).v (j := 10) (v := .int .i64 0) rfl
  have f110 := frozen_of_row _ _ 10 _ _ (unhide G4).v
  have c111 := vrow_cell (unhide G4).v (j := 11) (v := .int .i64 0) rfl
  have f111 := frozen_of_row _ _ 11 _ _ (unhide G4).v
  have GE := hide (show Gv w t un w3.heap.size (vaC ⟨6, 0, 0, ⟨#[]⟩, ⟨false, 0, 0, D, M, mi, s9, mc⟩⟩) (((((((((((w4.setCell ⟨w3.heap.size, 4, none⟩ (.bool false)).setCell ⟨w3.heap.size, 5, none⟩ (.int .i64 0)).setCell ⟨w3.heap.size, 6, none⟩ (.int .i64 0)).setCell ⟨w3.heap.size, 7, none⟩ (.int .i64 0)).setCell ⟨w3.heap.size, 8, none⟩ (.int .i64 h)).setCell ⟨w3.heap.size, 9, none⟩ (.int .i64 mi)).setCell ⟨w3.heap.size, 10, none⟩ (.int .i64 s9)).setCell ⟨w3.heap.size, 11, none⟩ (.int .i64 mc)).setCell ⟨w3.heap.size, 4, none⟩ (.bool false)).setCell ⟨w3.heap.size, 7, none⟩ (.int .i64 D)).setCell ⟨w3.heap.size, 8, none⟩ (.int .i64 M)) from (Gv.set (Gv.set (Gv.set (Gv.set (Gv.set (Gv.set (Gv.set (Gv.set (Gv.set (Gv.set (Gv.set (unhide G4) 4 (.bool false) (D := #[.int .i64 6, .int .i64 0, .int .u64 0, .string ⟨#[]⟩, .bool false, .int .i64 0, .int .i64 0, .int .i64 0, .int .i64 0, .int .i64 0, .int .i64 0, .int .i64 0]) rfl) 5 (.int .i64 0) (D := #[.int .i64 6, .int .i64 0, .int .u64 0, .string ⟨#[]⟩, .bool false, .int .i64 0, .int .i64 0, .int .i64 0, .int .i64 0, .int .i64 0, .int .i64 0, .int .i64 0]) rfl) 6 (.int .i64 0) (D := #[.int .i64 6, .int .i64 0, .int .u64 0, .string ⟨#[]⟩, .bool false, .int .i64 0, .int .i64 0, .int .i64 0, .int .i64 0, .int .i64 0, .int .i64 0, .int .i64 0]) rfl) 7 (.int .i64 0) (D := #[.int .i64 6, .int .i64 0, .int .u64 0, .string ⟨#[]⟩, .bool false, .int .i64 0, .int .i64 0, .int .i64 0, .int .i64 0, .int .i64 0, .int .i64 0, .int .i64 0]) rfl) 8 (.int .i64 h) (D := #[.int .i64 6, .int .i64 0, .int .u64 0, .string ⟨#[]⟩, .bool false, .int .i64 0, .int .i64 0, .int .i64 0, .int .i64 h, .int .i64 0, .int .i64 0, .int .i64 0]) rfl) 9 (.int .i64 mi) (D := #[.int .i64 6, .int .i64 0, .int .u64 0, .string ⟨#[]⟩, .bool false, .int .i64 0, .int .i64 0, .int .i64 0, .int .i64 h, .int .i64 mi, .int .i64 0, .int .i64 0]) rfl) 10 (.int .i64 s9) (D := #[.int .i64 6, .int .i64 0, .int .u64 0, .string ⟨#[]⟩, .bool false, .int .i64 0, .int .i64 0, .int .i64 0, .int .i64 h, .int .i64 mi, .int .i64 s9, .int .i64 0]) rfl) 11 (.int .i64 mc) (D := #[.int .i64 6, .int .i64 0, .int .u64 0, .string ⟨#[]⟩, .bool false, .int .i64 0, .int .i64 0, .int .i64 0, .int .i64 h, .int .i64 mi, .int .i64 s9, .int .i64 mc]) rfl) 4 (.bool false) (D := #[.int .i64 6, .int .i64 0, .int .u64 0, .string ⟨#[]⟩, .bool false, .int .i64 0, .int .i64 0, .int .i64 0, .int .i64 h, .int .i64 mi, .int .i64 s9, .int .i64 mc]) rfl) 7 (.int .i64 D) (D := #[.int .i64 6, .int .i64 0, .int .u64 0, .string ⟨#[]⟩, .bool false, .int .i64 0, .int .i64 0, .int .i64 D, .int .i64 h, .int .i64 mi, .int .i64 s9, .int .i64 mc]) rfl) 8 (.int .i64 M) (D := #[.int .i64 6, .int .i64 0, .int .u64 0, .string ⟨#[]⟩, .bool false, .int .i64 0, .int .i64 0, .int .i64 D, .int .i64 M, .int .i64 mi, .int .i64 s9, .int .i64 mc]) rfl))
  clear G4
  go_wp2_with (first | (with_reducible show wpList Tryz.prog _ _ (Oper.mk _ (Op.load 32 _) _ _ _ none :: _) _ _; have P6 := unhide GE; obtain ⟨wE, hwE⟩ : ∃ z, z = (((((((((((w4.setCell ⟨w3.heap.size, 4, none⟩ (.bool false)).setCell ⟨w3.heap.size, 5, none⟩ (.int .i64 0)).setCell ⟨w3.heap.size, 6, none⟩ (.int .i64 0)).setCell ⟨w3.heap.size, 7, none⟩ (.int .i64 0)).setCell ⟨w3.heap.size, 8, none⟩ (.int .i64 h)).setCell ⟨w3.heap.size, 9, none⟩ (.int .i64 mi)).setCell ⟨w3.heap.size, 10, none⟩ (.int .i64 s9)).setCell ⟨w3.heap.size, 11, none⟩ (.int .i64 mc)).setCell ⟨w3.heap.size, 4, none⟩ (.bool false)).setCell ⟨w3.heap.size, 7, none⟩ (.int .i64 D)).setCell ⟨w3.heap.size, 8, none⟩ (.int .i64 M)) := ⟨_, rfl⟩; rw [← hwE] at P6 ⊢; have PE := hide P6; clear hwE P6 GE; refine wpList_load_row rfl _ (.tmp 5) rfl w3.heap.size rfl _ (vaC ⟨6, 0, 0, ⟨#[]⟩, ⟨false, 0, 0, D, M, mi, s9, mc⟩⟩) (0, 0) _ (unhide PE).v Tryz.underlying32 rfl (unhide SV) ?_) | (with_reducible show wpList Tryz.prog _ _ (Oper.mk _ (Op.store 32 _ _) _ _ _ none :: _) _ _; refine wpList_stG rfl _ (.tmp 4) (.tmp 137) rfl (w.heap.size + 1) (vaC ⟨6, 0, 0, ⟨#[]⟩, ⟨false, 0, 0, D, M, mi, s9, mc⟩⟩) (vaC va0) rfl rfl (unhide PE).p.rr (unhide SV) rfl (unhide OV) ?_; intro wS rS gS zS; have PS := hide ((unhide PE).p.set rS gS); clear rS gS zS))
  refine bodyPost_ret (results_cell_row rfl _ _ (w.heap.size + 1) _ _ _ _ rfl (unhide PS).rr Tryz.underlying32 rfl (unhide SV)) rfl ?_
  rw [unhide HR]
  exact ⟨rfl, (unhide PS).bl⟩

set_option maxHeartbeats 4000000 in
set_option maxRecDepth 100000 in
theorem rguess_6pw (s : ByteArray) (t : Int) (un : Bool) (w : World) (q0 : 0 ≤ t) (q1 : t < 256) (hs : s.size ≤ 1099511627776) (hk : kdV t un = 6) (h0 : 0 < s.size) (h1 : s[0].toNat ≠ 45) (hh : (rclk s.data.toList).h < 0) (hm : (rclk s.data.toList).h < 1048576) :
    Calls Tryz.prog 32 #[.string s, .agg #[.int .u8 t, .bool un]] w fun e w' => e = .returned (.agg (vaC ⟨6, 0, 0, ⟨#[]⟩, ⟨false, 0, 0, 0, (rclk s.data.toList).h, (rclk s.data.toList).mi, (rclk s.data.toList).s, (rclk s.data.toList).mc⟩⟩)) ∧ Below w.heap.size w w' := by
  obtain ⟨RES, hRES⟩ : ∃ z, z = vaC ⟨6, 0, 0, ⟨#[]⟩, ⟨false, 0, 0, 0, (rclk s.data.toList).h, (rclk s.data.toList).mi, (rclk s.data.toList).s, (rclk s.data.toList).mc⟩⟩ := ⟨_, rfl⟩
  rw [← hRES]
  have r1 := fun wx => clock_self s wx hs
  have hf : rclk s.data.toList = ⟨false, 0, 0, 0, (rclk s.data.toList).h, (rclk s.data.toList).mi, (rclk s.data.toList).s, (rclk s.data.toList).mc⟩ := rfl
  rw [hf] at r1
  clear hf
  generalize (rclk s.data.toList).h = h at *
  generalize (rclk s.data.toList).mi = mi at *
  generalize (rclk s.data.toList).s = s9 at *
  generalize (rclk s.data.toList).mc = mc at *
  unfold whC at r1
  simp only at r1
  have r1 := hide r1
  have HR := hide (show RES = vaC ⟨6, 0, 0, ⟨#[]⟩, ⟨false, 0, 0, 0, h, mi, s9, mc⟩⟩ from hRES)
  have d1 : ((s[0].toNat : Int) == 45) = false := beq_eq_false_iff_ne.2 (by omega)
  clear h1
  have P0 := Pz.new w t un (vaC va0)
  obtain ⟨w2, hw2⟩ : ∃ z, z = (w.alloc (.cells #[.int .u8 t, .bool un] 23)).alloc (.cells (vaC va0) 32) := ⟨_, rfl⟩
  rw [← hw2] at P0
  have cK := hide (kind_ref t un w2 q0 q1)
  rw [hk] at cK
  have SV := hide (vaC_size ⟨6, 0, 0, ⟨#[]⟩, ⟨false, 0, 0, 0, h, mi, s9, mc⟩⟩)
  have OV := hide (vaC_one ⟨6, 0, 0, ⟨#[]⟩, ⟨false, 0, 0, 0, h, mi, s9, mc⟩⟩)
  have HW := hide (show (w.alloc (.cells #[.int .u8 t, .bool un] 23)).alloc (.cells #[.int .i64 0, .int .i64 0, .int .u64 0, .string ⟨#[]⟩, .bool false, .int .i64 0, .int .i64 0, .int .i64 0, .int .i64 0, .int .i64 0, .int .i64 0, .int .i64 0] 32) = w2 from hw2.symm)
  have PP := hide P0
  obtain ⟨t0, t1⟩ := P0.cells
  clear hw2 P0 q0 q1 hk hs hRES
  go_enter Tryz.func32, Tryz.ntmps32
  go_wp2_with fail
  rw [unhide HW]
  refine (unhide cK).mono ?_
  rintro e w3 ⟨rfl, b3⟩
  have G3 := hide (Gv.new ((unhide PP).later b3) #[.int .i64 6, .int .i64 0, .int .u64 0, .string ⟨#[]⟩, .bool false, .int .i64 0, .int .i64 0, .int .i64 0, .int .i64 0, .int .i64 0, .int .i64 0, .int .i64 0])
  clear b3 PP HW cK t0 t1
  go_wp2_with fail
  refine (unhide r1 _).mono ?_
  rintro e w4 ⟨rfl, b4⟩
  have G4 := hide ((unhide G3).later b4)
  clear b4 G3 r1
  have c104 := vrow_cell (unhide G4).v (j := 4) (v := .bool false) rfl
  have f104 := frozen_of_row _ _ 4 _ _ (unhide G4).v
  have c105 := vrow_cell (unhide G4).v (j := 5) (v := .int .i64 0) rfl
  have f105 := frozen_of_row _ _ 5 _ _ (unhide G4).v
  have c106 := vrow_cell (unhide G4).v (j := 6) (v := .int .i64 0) rfl
  have f106 := frozen_of_row _ _ 6 _ _ (unhide G4).v
  have c107 := vrow_cell (unhide G4).v (j := 7) (v := .int .i64 0) rfl
  have f107 := frozen_of_row _ _ 7 _ _ (unhide G4).v
  have c108 := vrow_cell (unhide G4).v (j := 8) (v := .int .i64 0) rfl
  have f108 := frozen_of_row _ _ 8 _ _ (unhide G4).v
  have c109 := vrow_cell (unhide G4).v (j := 9) (v := .int .i64 0) rfl
  have f109 := frozen_of_row _ _ 9 _ _ (unhide G4).v
  have c110 := vrow_cell (unhide G4).v (j := 10) (v := .int .i64 0) rfl
  have f110 := frozen_of_row _ _ 10 _ _ (unhide G4).v
  have c111 := vrow_cell (unhide G4).v (j := 11) (v := .int .i64 0) rfl
  have f111 := frozen_of_row _ _ 11 _ _ (unhide G4).v
  have GE := hide (show Gv w t un w3.heap.size (vaC ⟨6, 0, 0, ⟨#[]⟩, ⟨false, 0, 0, 0, h, mi, s9, mc⟩⟩) (((((((((w4.setCell ⟨w3.heap.size, 4, none⟩ (.bool false)).setCell ⟨w3.heap.size, 5, none⟩ (.int .i64 0)).setCell ⟨w3.heap.size, 6, none⟩ (.int .i64 0)).setCell ⟨w3.heap.size, 7, none⟩ (.int .i64 0)).setCell ⟨w3.heap.size, 8, none⟩ (.int .i64 h)).setCell ⟨w3.heap.size, 9, none⟩ (.int .i64 mi)).setCell ⟨w3.heap.size, 10, none⟩ (.int .i64 s9)).setCell ⟨w3.heap.size, 11, none⟩ (.int .i64 mc)).setCell ⟨w3.heap.size, 4, none⟩ (.bool false)) from (Gv.set (Gv.set (Gv.set (Gv.set (Gv.set (Gv.set (Gv.set (Gv.set (Gv.set (unhide G4) 4 (.bool false) (D := #[.int .i64 6, .int .i64 0, .int .u64 0, .string ⟨#[]⟩, .bool false, .int .i64 0, .int .i64 0, .int .i64 0, .int .i64 0, .int .i64 0, .int .i64 0, .int .i64 0]) rfl) 5 (.int .i64 0) (D := #[.int .i64 6, .int .i64 0, .int .u64 0, .string ⟨#[]⟩, .bool false, .int .i64 0, .int .i64 0, .int .i64 0, .int .i64 0, .int .i64 0, .int .i64 0, .int .i64 0]) rfl) 6 (.int .i64 0) (D := #[.int .i64 6, .int .i64 0, .int .u64 0, .string ⟨#[]⟩, .bool false, .int .i64 0, .int .i64 0, .int .i64 0, .int .i64 0, .int .i64 0, .int .i64 0, .int .i64 0]) rfl) 7 (.int .i64 0) (D := #[.int .i64 6, .int .i64 0, .int .u64 0, .string ⟨#[]⟩, .bool false, .int .i64 0, .int .i64 0, .int .i64 0, .int .i64 0, .int .i64 0, .int .i64 0, .int .i64 0]) rfl) 8 (.int .i64 h) (D := #[.int .i64 6, .int .i64 0, .int .u64 0, .string ⟨#[]⟩, .bool false, .int .i64 0, .int .i64 0, .int .i64 0, .int .i64 h, .int .i64 0, .int .i64 0, .int .i64 0]) rfl) 9 (.int .i64 mi) (D := #[.int .i64 6, .int .i64 0, .int .u64 0, .string ⟨#[]⟩, .bool false, .int .i64 0, .int .i64 0, .int .i64 0, .int .i64 h, .int .i64 mi, .int .i64 0, .int .i64 0]) rfl) 10 (.int .i64 s9) (D := #[.int .i64 6, .int .i64 0, .int .u64 0, .string ⟨#[]⟩, .bool false, .int .i64 0, .int .i64 0, .int .i64 0, .int .i64 h, .int .i64 mi, .int .i64 s9, .int .i64 0]) rfl) 11 (.int .i64 mc) (D := #[.int .i64 6, .int .i64 0, .int .u64 0, .string ⟨#[]⟩, .bool false, .int .i64 0, .int .i64 0, .int .i64 0, .int .i64 h, .int .i64 mi, .int .i64 s9, .int .i64 mc]) rfl) 4 (.bool false) (D := #[.int .i64 6, .int .i64 0, .int .u64 0, .string ⟨#[]⟩, .bool false, .int .i64 0, .int .i64 0, .int .i64 0, .int .i64 h, .int .i64 mi, .int .i64 s9, .int .i64 mc]) rfl))
  clear G4
  go_wp2_with (first | (with_reducible show wpList Tryz.prog _ _ (Oper.mk _ (Op.load 32 _) _ _ _ none :: _) _ _; have P6 := unhide GE; obtain ⟨wE, hwE⟩ : ∃ z, z = (((((((((w4.setCell ⟨w3.heap.size, 4, none⟩ (.bool false)).setCell ⟨w3.heap.size, 5, none⟩ (.int .i64 0)).setCell ⟨w3.heap.size, 6, none⟩ (.int .i64 0)).setCell ⟨w3.heap.size, 7, none⟩ (.int .i64 0)).setCell ⟨w3.heap.size, 8, none⟩ (.int .i64 h)).setCell ⟨w3.heap.size, 9, none⟩ (.int .i64 mi)).setCell ⟨w3.heap.size, 10, none⟩ (.int .i64 s9)).setCell ⟨w3.heap.size, 11, none⟩ (.int .i64 mc)).setCell ⟨w3.heap.size, 4, none⟩ (.bool false)) := ⟨_, rfl⟩; rw [← hwE] at P6 ⊢; have PE := hide P6; clear hwE P6 GE; refine wpList_load_row rfl _ (.tmp 5) rfl w3.heap.size rfl _ (vaC ⟨6, 0, 0, ⟨#[]⟩, ⟨false, 0, 0, 0, h, mi, s9, mc⟩⟩) (0, 0) _ (unhide PE).v Tryz.underlying32 rfl (unhide SV) ?_) | (with_reducible show wpList Tryz.prog _ _ (Oper.mk _ (Op.store 32 _ _) _ _ _ none :: _) _ _; refine wpList_stG rfl _ (.tmp 4) (.tmp 137) rfl (w.heap.size + 1) (vaC ⟨6, 0, 0, ⟨#[]⟩, ⟨false, 0, 0, 0, h, mi, s9, mc⟩⟩) (vaC va0) rfl rfl (unhide PE).p.rr (unhide SV) rfl (unhide OV) ?_; intro wS rS gS zS; have PS := hide ((unhide PE).p.set rS gS); clear rS gS zS))
  refine bodyPost_ret (results_cell_row rfl _ _ (w.heap.size + 1) _ _ _ _ rfl (unhide PS).rr Tryz.underlying32 rfl (unhide SV)) rfl ?_
  rw [unhide HR]
  exact ⟨rfl, (unhide PS).bl⟩

set_option maxHeartbeats 4000000 in
set_option maxRecDepth 100000 in
theorem rguess_6nh (s : ByteArray) (t : Int) (un : Bool) (w : World) (q0 : 0 ≤ t) (q1 : t < 256) (hs : s.size ≤ 1099511627776) (hk : kdV t un = 6) (h0 : 0 < s.size) (h1 : s[0].toNat = 45) (hh : 0 ≤ (rclk (s.data.toList.drop 1)).h) (hm : (rclk (s.data.toList.drop 1)).h < 1048576) :
    Calls Tryz.prog 32 #[.string s, .agg #[.int .u8 t, .bool un]] w fun e w' => e = .returned (.agg (vaC ⟨6, 0, 0, ⟨#[]⟩, ⟨true, 0, 0, (rclk (s.data.toList.drop 1)).h / 24, (rclk (s.data.toList.drop 1)).h % 24, (rclk (s.data.toList.drop 1)).mi, (rclk (s.data.toList.drop 1)).s, (rclk (s.data.toList.drop 1)).mc⟩⟩)) ∧ Below w.heap.size w w' := by
  obtain ⟨RES, hRES⟩ : ∃ z, z = vaC ⟨6, 0, 0, ⟨#[]⟩, ⟨true, 0, 0, (rclk (s.data.toList.drop 1)).h / 24, (rclk (s.data.toList.drop 1)).h % 24, (rclk (s.data.toList.drop 1)).mi, (rclk (s.data.toList.drop 1)).s, (rclk (s.data.toList.drop 1)).mc⟩⟩ := ⟨_, rfl⟩
  rw [← hRES]
  have r1 := fun wx => clock_tail s wx hs
  have hf : rclk (s.data.toList.drop 1) = ⟨false, 0, 0, 0, (rclk (s.data.toList.drop 1)).h, (rclk (s.data.toList.drop 1)).mi, (rclk (s.data.toList.drop 1)).s, (rclk (s.data.toList.drop 1)).mc⟩ := rfl
  rw [hf] at r1
  clear hf
  generalize (rclk (s.data.toList.drop 1)).h = h at *
  generalize (rclk (s.data.toList.drop 1)).mi = mi at *
  generalize (rclk (s.data.toList.drop 1)).s = s9 at *
  generalize (rclk (s.data.toList.drop 1)).mc = mc at *
  unfold whC at r1
  simp only at r1
  have r1 := hide r1
  obtain ⟨D, hD⟩ : ∃ z, z = h / 24 := ⟨_, rfl⟩
  obtain ⟨M, hM⟩ : ∃ z, z = h % 24 := ⟨_, rfl⟩
  rw [← hD, ← hM] at hRES
  have m1 : h.tdiv 24 = D := by rw [Int.tdiv_eq_ediv_of_nonneg hh]; exact hD.symm
  have m2 : h.tmod 24 = M := by rw [Int.tmod_eq_emod_of_nonneg hh]; exact hM.symm
  have m3 := hD.symm
  have m4 := hM.symm
  have n1 : IntKind.i64.wrap D = D := by rw [IntKind.wrap_i64]; omega
  have n2 : IntKind.i64.wrap M = M := by rw [IntKind.wrap_i64]; omega
  clear hD hM
  have HR := hide (show RES = vaC ⟨6, 0, 0, ⟨#[]⟩, ⟨true, 0, 0, D, M, mi, s9, mc⟩⟩ from hRES)
  have d1 : ((s[0].toNat : Int) == 45) = true := beq_iff_eq.2 (by omega)
  clear h1
  have P0 := Pz.new w t un (vaC va0)
  obtain ⟨w2, hw2⟩ : ∃ z, z = (w.alloc (.cells #[.int .u8 t, .bool un] 23)).alloc (.cells (vaC va0) 32) := ⟨_, rfl⟩
  rw [← hw2] at P0
  have cK := hide (kind_ref t un w2 q0 q1)
  rw [hk] at cK
  have SV := hide (vaC_size ⟨6, 0, 0, ⟨#[]⟩, ⟨true, 0, 0, D, M, mi, s9, mc⟩⟩)
  have OV := hide (vaC_one ⟨6, 0, 0, ⟨#[]⟩, ⟨true, 0, 0, D, M, mi, s9, mc⟩⟩)
  have HW := hide (show (w.alloc (.cells #[.int .u8 t, .bool un] 23)).alloc (.cells #[.int .i64 0, .int .i64 0, .int .u64 0, .string ⟨#[]⟩, .bool false, .int .i64 0, .int .i64 0, .int .i64 0, .int .i64 0, .int .i64 0, .int .i64 0, .int .i64 0] 32) = w2 from hw2.symm)
  have PP := hide P0
  obtain ⟨t0, t1⟩ := P0.cells
  clear hw2 P0 q0 q1 hk hs hRES
  go_enter Tryz.func32, Tryz.ntmps32
  go_wp2_with fail
  rw [unhide HW]
  refine (unhide cK).mono ?_
  rintro e w3 ⟨rfl, b3⟩
  have G3 := hide (Gv.new ((unhide PP).later b3) #[.int .i64 6, .int .i64 0, .int .u64 0, .string ⟨#[]⟩, .bool false, .int .i64 0, .int .i64 0, .int .i64 0, .int .i64 0, .int .i64 0, .int .i64 0, .int .i64 0])
  clear b3 PP HW cK t0 t1
  go_wp2_with fail
  refine (unhide r1 _).mono ?_
  rintro e w4 ⟨rfl, b4⟩
  have G4 := hide ((unhide G3).later b4)
  clear b4 G3 r1
  have c104 := vrow_cell (unhide G4).v (j := 4) (v := .bool false) rfl
  have f104 := frozen_of_row _ _ 4 _ _ (unhide G4).v
  have c105 := vrow_cell (unhide G4).v (j := 5) (v := .int .i64 0) rfl
  have f105 := frozen_of_row _ _ 5 _ _ (unhide G4).v
  have c106 := vrow_cell (unhide G4).v (j := 6) (v := .int .i64 0) rfl
  have f106 := frozen_of_row _ _ 6 _ _ (unhide G4).v
  have c107 := vrow_cell (unhide G4).v (j := 7) (v := .int .i64 0) rfl
  have f107 := frozen_of_row _ _ 7 _ _ (unhide G4).v
  have c108 := vrow_cell (unhide G4).v (j := 8) (v := .int .i64 0) rfl
  have f108 := frozen_of_row _ _ 8 _ _ (unhide G4).v
  have c109 := vrow_cell (unhide G4).v (j := 9) (v := .int .i64 0) rfl
  have f109 := frozen_of_row _ _ 9 _ _ (unhide G4).v
  have c110 := vrow_cell (unhide G4).v (j := 10) (v := .int .i64 0) rfl
  have f110 := frozen_of_row _ _ 10 _ _ (unhide G4).v
  have c111 := vrow_cell (unhide G4).v (j := 11) (v := .int .i64 0) rfl
  have f111 := frozen_of_row _ _ 11 _ _ (unhide G4).v
  have GE := hide (show Gv w t un w3.heap.size (vaC ⟨6, 0, 0, ⟨#[]⟩, ⟨true, 0, 0, D, M, mi, s9, mc⟩⟩) (((((((((((w4.setCell ⟨w3.heap.size, 4, none⟩ (.bool false)).setCell ⟨w3.heap.size, 5, none⟩ (.int .i64 0)).setCell ⟨w3.heap.size, 6, none⟩ (.int .i64 0)).setCell ⟨w3.heap.size, 7, none⟩ (.int .i64 0)).setCell ⟨w3.heap.size, 8, none⟩ (.int .i64 h)).setCell ⟨w3.heap.size, 9, none⟩ (.int .i64 mi)).setCell ⟨w3.heap.size, 10, none⟩ (.int .i64 s9)).setCell ⟨w3.heap.size, 11, none⟩ (.int .i64 mc)).setCell ⟨w3.heap.size, 4, none⟩ (.bool true)).setCell ⟨w3.heap.size, 7, none⟩ (.int .i64 D)).setCell ⟨w3.heap.size, 8, none⟩ (.int .i64 M)) from (Gv.set (Gv.set (Gv.set (Gv.set (Gv.set (Gv.set (Gv.set (Gv.set (Gv.set (Gv.set (Gv.set (unhide G4) 4 (.bool false) (D := #[.int .i64 6, .int .i64 0, .int .u64 0, .string ⟨#[]⟩, .bool false, .int .i64 0, .int .i64 0, .int .i64 0, .int .i64 0, .int .i64 0, .int .i64 0, .int .i64 0]) rfl) 5 (.int .i64 0) (D := #[.int .i64 6, .int .i64 0, .int .u64 0, .string ⟨#[]⟩, .bool false, .int .i64 0, .int .i64 0, .int .i64 0, .int .i64 0, .int .i64 0, .int .i64 0, .int .i64 0]) rfl) 6 (.int .i64 0) (D := #[.int .i64 6, .int .i64 0, .int .u64 0, .string ⟨#[]⟩, .bool false, .int .i64 0, .int .i64 0, .int .i64 0, .int .i64 0, .int .i64 0, .int .i64 0, .int .i64 0]) rfl) 7 (.int .i64 0) (D := #[.int .i64 6, .int .i64 0, .int .u64 0, .string ⟨#[]⟩, .bool false, .int .i64 0, .int .i64 0, .int .i64 0, .int .i64 0, .int .i64 0, .int .i64 0, .int .i64 0]) rfl) 8 (.int .i64 h) (D := #[.int .i64 6, .int .i64 0, .int .u64 0, .string ⟨#[]⟩, .bool false, .int .i64 0, .int .i64 0, .int .i64 0, .int .i64 h, .int .i64 0, .int .i64 0, .int .i64 0]) rfl) 9 (.int .i64 mi) (D := #[.int .i64 6, .int .i64 0, .int .u64 0, .string ⟨#[]⟩, .bool false, .int .i64 0, .int .i64 0, .int .i64 0, .int .i64 h, .int .i64 mi, .int .i64 0, .int .i64 0]) rfl) 10 (.int .i64 s9) (D := #[.int .i64 6, .int .i64 0, .int .u64 0, .string ⟨#[]⟩, .bool false, .int .i64 0, .int .i64 0, .int .i64 0, .int .i64 h, .int .i64 mi, .int .i64 s9, .int .i64 0]) rfl) 11 (.int .i64 mc) (D := #[.int .i64 6, .int .i64 0, .int .u64 0, .string ⟨#[]⟩, .bool false, .int .i64 0, .int .i64 0, .int .i64 0, .int .i64 h, .int .i64 mi, .int .i64 s9, .int .i64 mc]) rfl) 4 (.bool true) (D := #[.int .i64 6, .int .i64 0, .int .u64 0, .string ⟨#[]⟩, .bool true, .int .i64 0, .int .i64 0, .int .i64 0, .int .i64 h, .int .i64 mi, .int .i64 s9, .int .i64 mc]) rfl) 7 (.int .i64 D) (D := #[.int .i64 6, .int .i64 0, .int .u64 0, .string ⟨#[]⟩, .bool true, .int .i64 0, .int .i64 0, .int .i64 D, .int .i64 h, .int .i64 mi, .int .i64 s9, .int .i64 mc]) rfl) 8 (.int .i64 M) (D := #[.int .i64 6, .int .i64 0, .int .u64 0, .string ⟨#[]⟩, .bool true, .int .i64 0, .int .i64 0, .int .i64 D, .int .i64 M, .int .i64 mi, .int .i64 s9, .int .i64 mc]) rfl))
  clear G4
  go_wp2_with (first | (with_reducible show wpList Tryz.prog _ _ (Oper.mk _ (Op.load 32 _) _ _ _ none :: _) _ _; have P6 := unhide GE; obtain ⟨wE, hwE⟩ : ∃ z, z = (((((((((((w4.setCell ⟨w3.heap.size, 4, none⟩ (.bool false)).setCell ⟨w3.heap.size, 5, none⟩ (.int .i64 0)).setCell ⟨w3.heap.size, 6, none⟩ (.int .i64 0)).setCell ⟨w3.heap.size, 7, none⟩ (.int .i64 0)).setCell ⟨w3.heap.size, 8, none⟩ (.int .i64 h)).setCell ⟨w3.heap.size, 9, none⟩ (.int .i64 mi)).setCell ⟨w3.heap.size, 10, none⟩ (.int .i64 s9)).setCell ⟨w3.heap.size, 11, none⟩ (.int .i64 mc)).setCell ⟨w3.heap.size, 4, none⟩ (.bool true)).setCell ⟨w3.heap.size, 7, none⟩ (.int .i64 D)).setCell ⟨w3.heap.size, 8, none⟩ (.int .i64 M)) := ⟨_, rfl⟩; rw [← hwE] at P6 ⊢; have PE := hide P6; clear hwE P6 GE; refine wpList_load_row rfl _ (.tmp 5) rfl w3.heap.size rfl _ (vaC ⟨6, 0, 0, ⟨#[]⟩, ⟨true, 0, 0, D, M, mi, s9, mc⟩⟩) (0, 0) _ (unhide PE).v Tryz.underlying32 rfl (unhide SV) ?_) | (with_reducible show wpList Tryz.prog _ _ (Oper.mk _ (Op.store 32 _ _) _ _ _ none :: _) _ _; refine wpList_stG rfl _ (.tmp 4) (.tmp 137) rfl (w.heap.size + 1) (vaC ⟨6, 0, 0, ⟨#[]⟩, ⟨true, 0, 0, D, M, mi, s9, mc⟩⟩) (vaC va0) rfl rfl (unhide PE).p.rr (unhide SV) rfl (unhide OV) ?_; intro wS rS gS zS; have PS := hide ((unhide PE).p.set rS gS); clear rS gS zS))
  refine bodyPost_ret (results_cell_row rfl _ _ (w.heap.size + 1) _ _ _ _ rfl (unhide PS).rr Tryz.underlying32 rfl (unhide SV)) rfl ?_
  rw [unhide HR]
  exact ⟨rfl, (unhide PS).bl⟩

set_option maxHeartbeats 4000000 in
set_option maxRecDepth 100000 in
theorem rguess_6nw (s : ByteArray) (t : Int) (un : Bool) (w : World) (q0 : 0 ≤ t) (q1 : t < 256) (hs : s.size ≤ 1099511627776) (hk : kdV t un = 6) (h0 : 0 < s.size) (h1 : s[0].toNat = 45) (hh : (rclk (s.data.toList.drop 1)).h < 0) (hm : (rclk (s.data.toList.drop 1)).h < 1048576) :
    Calls Tryz.prog 32 #[.string s, .agg #[.int .u8 t, .bool un]] w fun e w' => e = .returned (.agg (vaC ⟨6, 0, 0, ⟨#[]⟩, ⟨true, 0, 0, 0, (rclk (s.data.toList.drop 1)).h, (rclk (s.data.toList.drop 1)).mi, (rclk (s.data.toList.drop 1)).s, (rclk (s.data.toList.drop 1)).mc⟩⟩)) ∧ Below w.heap.size w w' := by
  obtain ⟨RES, hRES⟩ : ∃ z, z = vaC ⟨6, 0, 0, ⟨#[]⟩, ⟨true, 0, 0, 0, (rclk (s.data.toList.drop 1)).h, (rclk (s.data.toList.drop 1)).mi, (rclk (s.data.toList.drop 1)).s, (rclk (s.data.toList.drop 1)).mc⟩⟩ := ⟨_, rfl⟩
  rw [← hRES]
  have r1 := fun wx => clock_tail s wx hs
  have hf : rclk (s.data.toList.drop 1) = ⟨false, 0, 0, 0, (rclk (s.data.toList.drop 1)).h, (rclk (s.data.toList.drop 1)).mi, (rclk (s.data.toList.drop 1)).s, (rclk (s.data.toList.drop 1)).mc⟩ := rfl
  rw [hf] at r1
  clear hf
  generalize (rclk (s.data.toList.drop 1)).h = h at *
  generalize (rclk (s.data.toList.drop 1)).mi = mi at *
  generalize (rclk (s.data.toList.drop 1)).s = s9 at *
  generalize (rclk (s.data.toList.drop 1)).mc = mc at *
  unfold whC at r1
  simp only at r1
  have r1 := hide r1
  have HR := hide (show RES = vaC ⟨6, 0, 0, ⟨#[]⟩, ⟨true, 0, 0, 0, h, mi, s9, mc⟩⟩ from hRES)
  have d1 : ((s[0].toNat : Int) == 45) = true := beq_iff_eq.2 (by omega)
  clear h1
  have P0 := Pz.new w t un (vaC va0)
  obtain ⟨w2, hw2⟩ : ∃ z, z = (w.alloc (.cells #[.int .u8 t, .bool un] 23)).alloc (.cells (vaC va0) 32) := ⟨_, rfl⟩
  rw [← hw2] at P0
  have cK := hide (kind_ref t un w2 q0 q1)
  rw [hk] at cK
  have SV := hide (vaC_size ⟨6, 0, 0, ⟨#[]⟩, ⟨true, 0, 0, 0, h, mi, s9, mc⟩⟩)
  have OV := hide (vaC_one ⟨6, 0, 0, ⟨#[]⟩, ⟨true, 0, 0, 0, h, mi, s9, mc⟩⟩)
  have HW := hide (show (w.alloc (.cells #[.int .u8 t, .bool un] 23)).alloc (.cells #[.int .i64 0, .int .i64 0, .int .u64 0, .string ⟨#[]⟩, .bool false, .int .i64 0, .int .i64 0, .int .i64 0, .int .i64 0, .int .i64 0, .int .i64 0, .int .i64 0] 32) = w2 from hw2.symm)
  have PP := hide P0
  obtain ⟨t0, t1⟩ := P0.cells
  clear hw2 P0 q0 q1 hk hs hRES
  go_enter Tryz.func32, Tryz.ntmps32
  go_wp2_with fail
  rw [unhide HW]
  refine (unhide cK).mono ?_
  rintro e w3 ⟨rfl, b3⟩
  have G3 := hide (Gv.new ((unhide PP).later b3) #[.int .i64 6, .int .i64 0, .int .u64 0, .string ⟨#[]⟩, .bool false, .int .i64 0, .int .i64 0, .int .i64 0, .int .i64 0, .int .i64 0, .int .i64 0, .int .i64 0])
  clear b3 PP HW cK t0 t1
  go_wp2_with fail
  refine (unhide r1 _).mono ?_
  rintro e w4 ⟨rfl, b4⟩
  have G4 := hide ((unhide G3).later b4)
  clear b4 G3 r1
  have c104 := vrow_cell (unhide G4).v (j := 4) (v := .bool false) rfl
  have f104 := frozen_of_row _ _ 4 _ _ (unhide G4).v
  have c105 := vrow_cell (unhide G4).v (j := 5) (v := .int .i64 0) rfl
  have f105 := frozen_of_row _ _ 5 _ _ (unhide G4).v
  have c106 := vrow_cell (unhide G4).v (j := 6) (v := .int .i64 0) rfl
  have f106 := frozen_of_row _ _ 6 _ _ (unhide G4).v
  have c107 := vrow_cell (unhide G4).v (j := 7) (v := .int .i64 0) rfl
  have f107 := frozen_of_row _ _ 7 _ _ (unhide G4).v
  have c108 := vrow_cell (unhide G4).v (j := 8) (v := .int .i64 0) rfl
  have f108 := frozen_of_row _ _ 8 _ _ (unhide G4).v
  have c109 := vrow_cell (unhide G4).v (j := 9) (v := .int .i64 0) rfl
  have f109 := frozen_of_row _ _ 9 _ _ (unhide G4).v
  have c110 := vrow_cell (unhide G4).v (j := 10) (v := .int .i64 0) rfl
  have f110 := frozen_of_row _ _ 10 _ _ (unhide G4).v
  have c111 := vrow_cell (unhide G4).v (j := 11) (v := .int .i64 0) rfl
  have f111 := frozen_of_row _ _ 11 _ _ (unhide G4).v
  have GE := hide (show Gv w t un w3.heap.size (vaC ⟨6, 0, 0, ⟨#[]⟩, ⟨true, 0, 0, 0, h, mi, s9, mc⟩⟩) (((((((((w4.setCell ⟨w3.heap.size, 4, none⟩ (.bool false)).setCell ⟨w3.heap.size, 5, none⟩ (.int .i64 0)).setCell ⟨w3.heap.size, 6, none⟩ (.int .i64 0)).setCell ⟨w3.heap.size, 7, none⟩ (.int .i64 0)).setCell ⟨w3.heap.size, 8, none⟩ (.int .i64 h)).setCell ⟨w3.heap.size, 9, none⟩ (.int .i64 mi)).setCell ⟨w3.heap.size, 10, none⟩ (.int .i64 s9)).setCell ⟨w3.heap.size, 11, none⟩ (.int .i64 mc)).setCell ⟨w3.heap.size, 4, none⟩ (.bool true)) from (Gv.set (Gv.set (Gv.set (Gv.set (Gv.set (Gv.set (Gv.set (Gv.set (Gv.set (unhide G4) 4 (.bool false) (D := #[.int .i64 6, .int .i64 0, .int .u64 0, .string ⟨#[]⟩, .bool false, .int .i64 0, .int .i64 0, .int .i64 0, .int .i64 0, .int .i64 0, .int .i64 0, .int .i64 0]) rfl) 5 (.int .i64 0) (D := #[.int .i64 6, .int .i64 0, .int .u64 0, .string ⟨#[]⟩, .bool false, .int .i64 0, .int .i64 0, .int .i64 0, .int .i64 0, .int .i64 0, .int .i64 0, .int .i64 0]) rfl) 6 (.int .i64 0) (D := #[.int .i64 6, .int .i64 0, .int .u64 0, .string ⟨#[]⟩, .bool false, .int .i64 0, .int .i64 0, .int .i64 0, .int .i64 0, .int .i64 0, .int .i64 0, .int .i64 0]) rfl) 7 (.int .i64 0) (D := #[.int .i64 6, .int .i64 0, .int .u64 0, .string ⟨#[]⟩, .bool false, .int .i64 0, .int .i64 0, .int .i64 0, .int .i64 0, .int .i64 0, .int .i64 0, .int .i64 0]) rfl) 8 (.int .i64 h) (D := #[.int .i64 6, .int .i64 0, .int .u64 0, .string ⟨#[]⟩, .bool false, .int .i64 0, .int .i64 0, .int .i64 0, .int .i64 h, .int .i64 0, .int .i64 0, .int .i64 0]) rfl) 9 (.int .i64 mi) (D := #[.int .i64 6, .int .i64 0, .int .u64 0, .string ⟨#[]⟩, .bool false, .int .i64 0, .int .i64 0, .int .i64 0, .int .i64 h, .int .i64 mi, .int .i64 0, .int .i64 0]) rfl) 10 (.int .i64 s9) (D := #[.int .i64 6, .int .i64 0, .int .u64 0, .string ⟨#[]⟩, .bool false, .int .i64 0, .int .i64 0, .int .i64 0, .int .i64 h, .int .i64 mi, .int .i64 s9, .int .i64 0]) rfl) 11 (.int .i64 mc) (D := #[.int .i64 6, .int .i64 0, .int .u64 0, .string ⟨#[]⟩, .bool false, .int .i64 0, .int .i64 0, .int .i64 0, .int .i64 h, .int .i64 mi, .int .i64 s9, .int .i64 mc]) rfl) 4 (.bool true) (D := #[.int .i64 6, .int .i64 0, .int .u64 0, .string ⟨#[]⟩, .bool true, .int .i64 0, .int .i64 0, .int .i64 0, .int .i64 h, .int .i64 mi, .int .i64 s9, .int .i64 mc]) rfl))
  clear G4
  go_wp2_with (first | (with_reducible show wpList Tryz.prog _ _ (Oper.mk _ (Op.load 32 _) _ _ _ none :: _) _ _; have P6 := unhide GE; obtain ⟨wE, hwE⟩ : ∃ z, z = (((((((((w4.setCell ⟨w3.heap.size, 4, none⟩ (.bool false)).setCell ⟨w3.heap.size, 5, none⟩ (.int .i64 0)).setCell ⟨w3.heap.size, 6, none⟩ (.int .i64 0)).setCell ⟨w3.heap.size, 7, none⟩ (.int .i64 0)).setCell ⟨w3.heap.size, 8, none⟩ (.int .i64 h)).setCell ⟨w3.heap.size, 9, none⟩ (.int .i64 mi)).setCell ⟨w3.heap.size, 10, none⟩ (.int .i64 s9)).setCell ⟨w3.heap.size, 11, none⟩ (.int .i64 mc)).setCell ⟨w3.heap.size, 4, none⟩ (.bool true)) := ⟨_, rfl⟩; rw [← hwE] at P6 ⊢; have PE := hide P6; clear hwE P6 GE; refine wpList_load_row rfl _ (.tmp 5) rfl w3.heap.size rfl _ (vaC ⟨6, 0, 0, ⟨#[]⟩, ⟨true, 0, 0, 0, h, mi, s9, mc⟩⟩) (0, 0) _ (unhide PE).v Tryz.underlying32 rfl (unhide SV) ?_) | (with_reducible show wpList Tryz.prog _ _ (Oper.mk _ (Op.store 32 _ _) _ _ _ none :: _) _ _; refine wpList_stG rfl _ (.tmp 4) (.tmp 137) rfl (w.heap.size + 1) (vaC ⟨6, 0, 0, ⟨#[]⟩, ⟨true, 0, 0, 0, h, mi, s9, mc⟩⟩) (vaC va0) rfl rfl (unhide PE).p.rr (unhide SV) rfl (unhide OV) ?_; intro wS rS gS zS; have PS := hide ((unhide PE).p.set rS gS); clear rS gS zS))
  refine bodyPost_ret (results_cell_row rfl _ _ (w.heap.size + 1) _ _ _ _ rfl (unhide PS).rr Tryz.underlying32 rfl (unhide SV)) rfl ?_
  rw [unhide HR]
  exact ⟨rfl, (unhide PS).bl⟩


end Go.Proofs.YtgldbainhncneaaGreatDoor
