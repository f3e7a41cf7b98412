/-
  The law ZlibWhole returns true for any bytes and any byte more: a wrapped stream is read whole or not at all. Conditions: the tables hold what the program's text says.
-/
import Derived.Test.YtalkeooejobjhaaDoorZlbLives
namespace Go.Proofs.YtalkeooejobjhaaDoor
open Go.RowKit
set_option linter.unusedVariables false
set_option linter.unusedSimpArgs false

set_option maxHeartbeats 4000000 in
set_option maxRecDepth 20000 in
theorem lawZlbWhole (bo : Option Addr) (bn bc : Nat) (bs : List Int) (x : Int) (w : World) (hv : Vars w) (h : Bs w bo bn bc bs) (x0 : 0 ≤ x) (x1 : x ≤ 255) :
    Calls Tryd.prog 6 #[.slice bo bn bc, .int .u8 x] w fun e w' => e = .returned (.bool true) ∧ Below w.heap.size w w' := by
  have hle := h.le
  have hmx := h.max
  have hlen := hide h.len
  have H := hide h
  have HV := hide hv
  have lc := hide (zlives_any w hv)
  clear h hv
  by_cases hbig : 300 < bn
  · have hbig' : (300 : Int) < (bn : Int) := by omega
    go_enter Tryd.func6, Tryd.ntmps6
    go_wp2_with fail
    refine (unhide lc).mono ?_
    rintro e w0 ⟨rfl, b0⟩
    go_wp2_with fail
    go_ret
    exact ⟨rfl, b0⟩
  have hbig' : ¬ (300 : Int) < (bn : Int) := by omega
  have hb3 : bn ≤ 300 := by omega
  clear hbig
  go_enter Tryd.func6, Tryd.ntmps6
  go_wp2_with fail
  refine (unhide lc).mono ?_
  rintro e w0 ⟨rfl, b0⟩
  have H0 := hide ((unhide H).later b0)
  have B0 := hide b0
  have hby := (unhide H).byt
  have hbl : bs.length ≤ 300 := by rw [unhide hlen]; exact hb3
  have hlI : (bs.length : Int) = (bn : Int) := by rw [unhide hlen]
  have e1 := hide (fun (i : Nat) (q : i < (pkd bs).length) => unp_first (F := 100000) (bs := bs) (m := (bn : Int)) (by omega) hby (by omega) (by omega) i q)
  have e2 := hide (unp_over (F := 100000) (bs := bs) (m := (bn : Int)) (by omega) hby (by omega) (by omega) x)
  have hpl := hide (pkd_len bs)
  have hdl := hide (dfl_le bs)
  have pc := hide (pack_any w0 bo bn bc bs (unhide H0) (by omega))
  clear b0 lc hby hbl hlI
  go_wp2_with fail
  refine (unhide pc).mono ?_
  rintro e w1 ⟨a1, n1, c1, rfl, m1, b1⟩
  have P1 := hide m1.bs
  have B1 := hide ((unhide B0).trans (b1.mono (unhide B0).size))
  have hl1 := hide m1.len
  have hn1 : n1 ≤ 311 := by have := m1.len; have := unhide hpl; have := unhide hdl; have := unhide hlen; omega
  have hc1 := m1.bs.le
  have hk1 := m1.bs.max
  clear m1 b1 pc H0 B0
  go_wp2_with fail
  go_loopw [6] (fun i wr => ∃ k : Nat, k ≤ n1 ∧ i = .int .i64 (k : Int) ∧ Below w1.heap.size w1 wr) (fun i _ => n1 - (intOf i).toNat)
  case atStart => exact ⟨0, by omega, rfl, Below.refl _ _⟩
  case round =>
    obtain ⟨k, hk, rfl, hbel⟩ := hrel
    have Bw := hide ((unhide B1).trans (hbel.mono (unhide B1).size))
    by_cases hlt : k < n1
    · have hlt' : (k : Int) < (n1 : Int) := by omega
      obtain ⟨a2, k2, hc2, hi2⟩ := (unhide P1).cut_h (show k ≤ n1 by omega) (k : Int) rfl
      have u1 := hide (unpack_any 100000 wr a2 k k2 ((pkd bs).take k) (bn : Int) (hi2.later hbel) ((unhide HV).low (unhide Bw)) (by omega) (by omega) (by omega))
      rw [unhide e1 k (by rw [unhide hl1]; exact hlt)] at u1
      have HB := hide hbel
      clear hi2 hbel
      go_wp2_with fail
      refine (unhide u1).mono ?_
      rintro e w2 ⟨a3, n3, c3, rfl, m3, b3⟩
      have B3 := hide ((unhide HB).trans (b3.mono (unhide HB).size))
      clear m3 b3 u1
      go_wp2_with fail
      go_roundw
      case rel => exact ⟨k + 1, by omega, by go_num, unhide B3⟩
      case measure => simp [intOf]; omega
    · have e : k = n1 := by omega
      subst e
      have P2 := hide ((unhide P1).later hbel)
      have PA := hide ((unhide P2).later (below_alloc wr (.cells #[] 5)))
      have ME := hide (Mine.empty wr)
      have z3 : wr.heap.size ≤ (wr.alloc (.cells #[] 5)).heap.size := by simp
      have HB := hide hbel
      have hlt' : ¬ (k : Int) < (k : Int) := by omega
      clear hbel
      go_wp2_with (first
        | (at_builtin; refine wpList_app rfl (.tmp 36) (.tmp 37) rfl wr.heap.size _ 0 0 _ rfl (unhide ME) a1 k c1 _ rfl (unhide PA) (by omega) z3 ?_; intro a3 c3 w3 m3 b3; simp only [Nat.zero_add, List.nil_append] at m3; have M3 := hide (m3.later (below_alloc w3 (.cells #[.int .u8 x] 5))); have O3 := hide (Bs.one w3 x x0 x1); have B3 := hide ((below_alloc wr (.cells #[] 5)).trans b3); have z4 : w3.heap.size ≤ (w3.alloc (.cells #[.int .u8 x] 5)).heap.size := (by simp); clear m3 b3)
        | (at_builtin; refine wpList_app rfl (.tmp 38) (.tmp 40) rfl wr.heap.size _ _ _ _ rfl (unhide M3) _ 1 1 _ rfl (unhide O3) (by omega) (Nat.le_trans (unhide B3).size z4) ?_; intro a4 c4 w4 m4 b4))
      have B4 := hide ((unhide Bw).trans (((unhide B3).trans (((below_alloc w3 (.cells #[.int .u8 x] 5)).mono (unhide B3).size).trans b4)).mono (unhide Bw).size))
      have u1 := hide (unpack_any 100000 w4 a4 (k + 1) c4 (pkd bs ++ [x]) (bn : Int) m4.bs ((unhide HV).low (unhide B4)) (by omega) (by omega) (by omega))
      rw [unhide e2] at u1
      clear m4 b4 B3 M3 O3
      refine (unhide u1).mono ?_
      rintro e w5 ⟨a5, n5, c5, rfl, m5, b5⟩
      have B5 := hide ((unhide B4).trans (b5.mono (unhide B4).size))
      clear m5 b5 u1
      go_wp2_with fail
      go_ret
      exact ⟨rfl, unhide B5⟩
end Go.Proofs.YtalkeooejobjhaaDoor
