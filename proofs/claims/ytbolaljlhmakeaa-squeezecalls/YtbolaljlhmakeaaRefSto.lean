/-
  What Stored and Deflate of the document's own answer return for any bytes: the same streams. They write nothing that was there. Conditions: at most 2,000 bytes.
-/
import Derived.Test.YtbolaljlhmakeaaRefFix
import Derived.Test.YtbolaljlhmakeaaRefPcs
import Derived.Test.YtbolaljlhmakeaaMDef3
namespace Go.Proofs.Ytbolaljlhmakeaa
open Go.RowKit
set_option linter.unusedVariables false
set_option linter.unusedSimpArgs false

set_option maxHeartbeats 1000000 in
theorem stored_ref (w : World) (bo : Option Addr) (bn bc : Nat) (bs : List Int) (hb : Bs w bo bn bc bs) (hn : bn ≤ 2000) :
    Calls Try.prog 23 #[.slice bo bn bc] w fun e w' => ∃ ao n c, e = .returned (.slice ao n c) ∧ Mine w.heap.size w' ao n c (sto bs) ∧ Below w.heap.size w w' := by
  have hlen := hide hb.len
  have hle := hb.le
  have hmx := hb.max
  obtain ⟨X, hX⟩ : ∃ X, X = -(bn : Int) - 1 := ⟨_, rfl⟩
  have hxor := not_i64 (bn : Int) (by omega) (by omega)
  rw [← hX] at hxor
  have hXb : -65536 ≤ X ∧ X ≤ -1 := by omega
  have HX := hide hX
  have HB := hide hb
  have lit0 : Bs (w.alloc (.cells #[.int .u8 1, .int .u8 ((bn : Int) % 256), .int .u8 ((bn : Int) / 256), .int .u8 (X % 256), .int .u8 (X / 256 % 256)] 5)) (some ⟨w.heap.size, 0, none⟩) 5 5 [1, (bn : Int) % 256, (bn : Int) / 256, X % 256, X / 256 % 256] :=
    Bs.lit w [1, (bn : Int) % 256, (bn : Int) / 256, X % 256, X / 256 % 256] (fun y hy => by simp at hy; omega) (by simp)
  have lit := hide lit0
  have BB := hide (below_alloc w (.cells #[.int .u8 1, .int .u8 ((bn : Int) % 256), .int .u8 ((bn : Int) / 256), .int .u8 (X % 256), .int .u8 (X / 256 % 256)] 5))
  have hsg : IntKind.i64.signed = true := rfl
  have hmin : ¬ (65535 : Int) ≤ (bn : Int) := by omega
  have hmin2 : ¬ (65535 : Int) < (bn : Int) := by omega
  clear hb hX lit0
  go_enter Try.func23, Try.ntmps23
  go_wp2_with fail
  go_loopw [3, 4] (fun v a wr => v = .slice none 0 0 ∧ a = .int .i64 0 ∧ wr = w) (fun _ _ _ => 0)
  case atStart => exact ⟨rfl, rfl, rfl⟩
  case round =>
    obtain ⟨rfl, rfl, rfl⟩ := hrel
    go_wp2_with (first
      | (at_builtin; refine wpList_app rfl (.tmp 42) (.tmp 48) rfl wr.heap.size ao1 5 c1 _ rfl (unhide M1) bo bn bc bs rfl ((unhide HB).later (unhide B1)) (by omega) (unhide B1).size ?_; intro ao2 c2 w2 m2 b2)
      | (at_builtin; refine wpList_app rfl (.tmp 26) (.tmp 40) rfl wr.heap.size none 0 0 [] rfl (Mine.nought _ _) _ 5 5 _ rfl (unhide lit) (by omega) (by simp) ?_; intro ao1 c1 w1 m1 b1; have M1 := hide m1; have B1 := hide ((unhide BB).trans b1); clear m1 b1))
    go_ret
    refine ⟨ao2, 5 + bn, c2, rfl, ?_, (unhide B1).trans b2⟩
    have e : sto bs = [] ++ [1, (bn : Int) % 256, (bn : Int) / 256, X % 256, X / 256 % 256] ++ bs := by
      have h1 := unhide HX
      have h2 := unhide hlen
      unfold sto
      rw [h2]
      simp only [List.nil_append]
      congr 1
      simp only [List.cons.injEq, and_true, true_and]
      omega
    rw [e]
    exact m2

set_option maxHeartbeats 1000000 in
theorem deflate_ref (w : World) (bo : Option Addr) (bn bc : Nat) (bs : List Int) (hb : Bs w bo bn bc bs) (hn : bn ≤ 2000) :
    Calls Try.prog 17 #[.slice bo bn bc] w fun e w' => ∃ ao n c, e = .returned (.slice ao n c) ∧ Mine w.heap.size w' ao n c (dfl bs) ∧ Below w.heap.size w w' := by
  have pc := hide (pieces_ref w bo bn bc bs hb (by omega))
  have hpl := pieces_le bs
  have hchk := (xpd_pcs bs (by have := hb.len; omega) (bs.length + 1) 0 (Nat.zero_le _) (by omega)).1
  have hfx := hide (show fxq (pieces bs) = (fxs (pieces bs), 0) from if_pos hchk)
  have hlen := hide hb.len
  have HB := hide hb
  have hpl2 : (pieces bs).length ≤ 2000 := by have := hb.len; omega
  clear hb hpl hchk
  go_enter Try.func17, Try.ntmps17
  go_wp2_with fail
  refine (unhide pc).mono ?_
  rintro e w1 ⟨ao, n, c, rfl, m1, b1⟩
  have fc := hide (fixed_ref w1 ao n c (pieces bs) m1.ps (by rw [← m1.len]; exact hpl2))
  rw [unhide hfx] at fc
  simp only at fc
  have z1 := b1.size
  clear m1
  go_wp2_with fail
  refine (unhide fc).mono ?_
  rintro e w2 ⟨ao2, n2, c2, rfl, m2, b2⟩
  have bw2 := b1.trans (b2.mono z1)
  have sc := hide (stored_ref w2 bo bn bc bs ((unhide HB).later bw2) hn)
  have M2 := hide m2
  have BW2 := hide bw2
  have l2 := m2.len
  have mx2 := m2.bs.max
  have le2 := m2.bs.le
  clear b2 b1 bw2 m2
  have L2 := hide l2
  clear l2
  go_wp2_with fail
  refine (unhide sc).mono ?_
  rintro e w3 ⟨ao3, n3, c3, rfl, m3, b3⟩
  have M2' := hide ((unhide M2).later b3)
  have BW3 := hide ((unhide BW2).trans (b3.mono (unhide BW2).size))
  have l3 := m3.len
  have mx3 := m3.bs.max
  have le3 := m3.bs.le
  have M3 := hide m3
  have z2 := (unhide BW2).size
  clear m3 b3
  by_cases hc : n2 ≤ n3
  · have hr := hide (show dfl bs = fxs (pieces bs) by unfold dfl; rw [unhide L2, l3, if_pos hc])
    have hc' : (n2 : Int) ≤ (n3 : Int) := by omega
    clear l3
    go_wp2_with fail
    go_ret
    rw [unhide hr]
    exact ⟨ao2, n2, c2, rfl, (unhide M2').mono z1, unhide BW3⟩
  · have hr := hide (show dfl bs = sto bs by unfold dfl; rw [unhide L2, l3, if_neg hc])
    have hc' : ¬ (n2 : Int) ≤ (n3 : Int) := by omega
    clear l3
    go_wp2_with fail
    go_ret
    rw [unhide hr]
    exact ⟨ao3, n3, c3, rfl, (unhide M3).mono z2, unhide BW3⟩
end Go.Proofs.Ytbolaljlhmakeaa
