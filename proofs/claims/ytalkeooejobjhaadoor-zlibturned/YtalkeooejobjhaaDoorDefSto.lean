/-
  What appendStored and Stored, of package deflate, answer for any bytes. They write nothing that was there. Conditions: at most 65,535 bytes.
-/
import Derived.Test.YtalkeooejobjhaaDoorMMem
namespace Go.Proofs.YtalkeooejobjhaaDoor
open Go.RowKit
set_option linter.unusedVariables false
set_option linter.unusedSimpArgs false

/-- The stored stream of bytes that go into one block. -/
def sto (bs : List Int) : List Int := [1, (bs.length : Int) % 256, (bs.length : Int) / 256, 255 - (bs.length : Int) % 256, 255 - (bs.length : Int) / 256] ++ bs

theorem not_i64 (n : Int) (h0 : 0 ≤ n) (h1 : n ≤ 65535) : bits .xor .i64 (-1) n = -n - 1 := by
  obtain ⟨C, rfl⟩ := Int.eq_ofNat_of_zero_le h0
  have hC : C < 2 ^ 64 := by omega
  have key : (BitVec.ofInt 64 (-1) ^^^ BitVec.ofNat 64 C).toNat = 2 ^ 64 - 1 - C := by
    have : BitVec.ofInt 64 (-1) = BitVec.allOnes 64 := by decide
    rw [this, BitVec.xor_comm, BitVec.xor_allOnes, BitVec.toNat_not, BitVec.toNat_ofNat, Nat.mod_eq_of_lt hC]
  show IntKind.i64.wrap ((BitVec.ofInt 64 (-1) ^^^ BitVec.ofInt 64 (C : Int)).toNat : Int) = _
  rw [BitVec.ofInt_natCast, key, IntKind.wrap_i64]
  omega

set_option maxHeartbeats 1000000 in
theorem appendStored_any (w : World) (bo : Option Addr) (bn bc : Nat) (bs : List Int) (hb : Bs w bo bn bc bs) (hn : bn ≤ 65535) :
    Calls Tryd.prog 42 #[.slice none 0 0, .int .u8 1, .slice bo bn bc] w fun e w' => ∃ ao n c, e = .returned (.slice ao n c) ∧ Mine w.heap.size w' ao n c (sto bs) ∧ Below w.heap.size w w' := by
  have hlen := hide hb.len
  have hle := hb.le
  have hmx := hb.max
  obtain ⟨X, hX⟩ : ∃ X, X = -(bn : Int) - 1 := ⟨_, rfl⟩
  have hxor := not_i64 (bn : Int) (by omega) (by omega)
  rw [← hX] at hxor
  have hXb : -65536 ≤ X ∧ X ≤ -1 := by omega
  have HX := hide hX
  have HB := hide hb
  have lit0 : Bs (w.alloc (.cells #[.int .u8 1, .int .u8 ((bn : Int) % 256), .int .u8 ((bn : Int) / 256), .int .u8 (X % 256), .int .u8 (X / 256 % 256)] 5)) (some ⟨w.heap.size, 0, none⟩) 5 5 [1, (bn : Int) % 256, (bn : Int) / 256, X % 256, X / 256 % 256] :=
    Bs.lit w [1, (bn : Int) % 256, (bn : Int) / 256, X % 256, X / 256 % 256] (fun y hy => by simp at hy; omega) (by simp)
  have lit := hide lit0
  have BB := hide (below_alloc w (.cells #[.int .u8 1, .int .u8 ((bn : Int) % 256), .int .u8 ((bn : Int) / 256), .int .u8 (X % 256), .int .u8 (X / 256 % 256)] 5))
  have hsg : IntKind.i64.signed = true := rfl
  clear hb hX lit0
  go_enter Tryd.func42, Tryd.ntmps42
  go_wp2_with (first
    | (at_builtin; refine wpList_app rfl (.tmp 26) (.tmp 27) rfl w.heap.size ao1 5 c1 _ rfl (unhide M1) bo bn bc bs rfl ((unhide HB).later (unhide B1)) (by omega) (unhide B1).size ?_; intro ao2 c2 w2 m2 b2)
    | (at_builtin; refine wpList_app rfl (.tmp 10) (.tmp 24) rfl w.heap.size none 0 0 [] rfl (Mine.nought _ _) _ 5 5 _ rfl (unhide lit) (by omega) (by simp) ?_; intro ao1 c1 w1 m1 b1; have M1 := hide m1; have B1 := hide ((unhide BB).trans b1); clear m1 b1))
  go_ret
  refine ⟨ao2, 5 + bn, c2, rfl, ?_, (unhide B1).trans b2⟩
  have e : sto bs = [] ++ [1, (bn : Int) % 256, (bn : Int) / 256, X % 256, X / 256 % 256] ++ bs := by
    have h1 := unhide HX
    have h2 := unhide hlen
    unfold sto
    rw [h2]
    simp only [List.nil_append]
    congr 1
    simp only [List.cons.injEq, and_true, true_and]
    omega
  rw [e]
  exact m2

set_option maxHeartbeats 1000000 in
theorem stored_bs (w : World) (bo : Option Addr) (bn bc : Nat) (bs : List Int) (hb : Bs w bo bn bc bs) (hn : bn ≤ 65535) :
    Calls Tryd.prog 25 #[.slice bo bn bc] w fun e w' => ∃ ao n c, e = .returned (.slice ao n c) ∧ Mine w.heap.size w' ao n c (sto bs) ∧ Below w.heap.size w w' := by
  have hle := hb.le
  have hmx := hb.max
  have ac := hide (appendStored_any w bo bn bc bs hb hn)
  clear hb
  go_enter Tryd.func25, Tryd.ntmps25
  go_wp2_with fail
  go_loopw [0, 3] (fun v l wr => v = .slice bo bn bc ∧ l = .slice none 0 0 ∧ wr = w) (fun _ _ _ => 0)
  case atStart => exact ⟨rfl, rfl, rfl⟩
  case round =>
    obtain ⟨rfl, rfl, rfl⟩ := hrel
    have hlt : ¬ (65535 : Int) < (bn : Int) := by omega
    go_wp2_with fail
    refine (unhide ac).mono ?_
    rintro e w1 ⟨ao, n, c, rfl, m1, b1⟩
    go_wp2_with fail
    go_ret
    exact ⟨ao, n, c, rfl, m1, b1⟩
end Go.Proofs.YtalkeooejobjhaaDoor
