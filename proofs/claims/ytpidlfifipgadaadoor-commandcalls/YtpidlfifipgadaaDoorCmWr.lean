/-
  The writer of commands: in memory, and what newWriter, mark, fixed and put of it leave. Conditions: the numbers fit; lengths below 2 to the 40.
-/
import Derived.Test.YtpidlfifipgadaaDoorCmChk
import Derived.Deep.CutRange
import Derived.Deep.RegionLaw
import Derived.Deep.DeepCutAuto
namespace Go.Proofs.YtpidlfifipgadaaDoor
open Go.RowKit
set_option linter.unusedVariables false
set_option linter.unusedSimpArgs false

/-- Block g is a writer that has the bytes l, in a row of the call's own from block B on. -/
structure Wl (B g : Nat) (w : World) (ao : Option Addr) (n c : Nat) (l : List Int) : Prop where
  st : w.heap[g]? = some (.cells #[.slice ao n c] 63 (0, 0))
  own : Mine B w ao n c l
  ge : B ≤ g
/-- Behind a call: the writer has the bytes l; nothing else has changed, but for bytes of the call's own. -/
def OutW (B g : Nat) (w : World) (l : List Int) (w' : World) : Prop := (∃ ao n c, Wl B g w' ao n c l) ∧ Below B w w' ∧ Kp g w w'

section
variable {B g : Nat} {w : World} {ao : Option Addr} {n c : Nat} {l : List Int}
theorem Wl.lt (h : Wl B g w ao n c l) : g < w.heap.size := (Array.getElem?_eq_some_iff.1 h.st).1
theorem Wl.c0 (h : Wl B g w ao n c l) : w.cell? ⟨g, 0, none⟩ = some (.slice ao n c) := by rw [cell_of_row w g 0 _ _ _ h.st]; rfl
theorem Wl.later (h : Wl B g w ao n c l) {w' : World} (hb : Below w.heap.size w w') : Wl B g w' ao n c l :=
  ⟨by rw [hb.block g h.lt]; exact h.st, h.own.later hb, h.ge⟩
/-- Bytes were put behind the row. -/
theorem Wl.app (h : Wl B g w ao n c l) {w1 : World} {ao1 : Option Addr} {n1 c1 : Nat} {l1 : List Int} (hm : Mine B w1 ao1 n1 c1 l1) (k : Kn w w1) (hb : Below B w w1) :
    w1.cell? ⟨g, 0, none⟩ = some (.slice ao n c) ∧ w1.frozen? ⟨g, 0, none⟩ = false ∧ OutW B g w l1 (w1.setCell ⟨g, 0, none⟩ (.slice ao1 n1 c1)) := by
  have hst : w1.heap[g]? = some (.cells #[.slice ao n c] 63 (0, 0)) := k g _ _ _ h.st (by decide)
  have hn : ¬ ob ao1 g := fun q => by
    obtain ⟨cs, m, h2⟩ := mine_row hm q
    rw [h2] at hst
    simp at hst
  refine ⟨by rw [cell_of_row w1 g 0 _ _ _ hst]; rfl, frozen_of_row w1 g 0 _ _ hst, ⟨_, _, _, ⟨by rw [heap_setCell_same w1 g 0 _ _ _ hst]; rfl, ?_, h.ge⟩⟩, hb.setCell h.ge _, ?_⟩
  · exact hm.keepB fun k hk => heap_setCell_other w1 ⟨g, 0, none⟩ k _ (fun e => hn (by simpa [e] using hk))
  · exact k.set 0 _
theorem OutW.trans {w1 w2 : World} {l1 l2 : List Int} (h : OutW B g w l1 w1) (k : OutW B g w1 l2 w2) : OutW B g w l2 w2 := ⟨k.1, h.2.1.trans k.2.1, h.2.2.trans k.2.2⟩
theorem OutW.ahead {w1 w2 : World} {l2 : List Int} (h : Below w.heap.size w w1) (hB : B ≤ w.heap.size) (k : OutW B g w1 l2 w2) : OutW B g w l2 w2 := ⟨k.1, (h.mono hB).trans k.2.1, (Kp.of h).trans k.2.2⟩
end

set_option maxHeartbeats 400000 in
theorem newWriter_any (bo : Option Addr) (bn bc : Nat) (b : List Int) (w : World) (h : Bs w bo bn bc b) (hn : bn ≤ 1099511627776) :
    Calls Tryd.prog 27 #[.slice bo bn bc] w fun e w' => ∃ g ao n c, e = .returned (.pointer (some ⟨g, 0, none⟩)) ∧ Wl w.heap.size g w' ao n c b ∧ Below w.heap.size w w' := by
  have hle := h.le
  have hmx := h.max
  have H := hide h
  clear h
  go_enter Tryd.func27, Tryd.ntmps27
  go_wp2_with (first
    | (at_make; refine wpList_mk rfl _ _ rfl _ _ _ bn rfl rfl rfl (by omega) ?_; intro w1 m1 b1 z1; have M1 := hide m1; have B1 := hide b1; have HX := hide ((unhide H).later b1); clear m1 b1)
    | (at_builtin; refine wpList_app rfl _ _ rfl w.heap.size _ _ _ _ rfl (unhide M1) _ _ _ _ rfl (unhide HX) (by omega) (by omega) ?_; intro ao2 c2 w2 m2 b2; rw [Nat.zero_add, List.nil_append] at m2; have M2 := hide m2; have B2 := hide ((unhide B1).trans b2); clear m2 b2))
  go_ret
  have hz := (unhide B2).size
  exact ⟨w2.heap.size, ao2, bn, c2, rfl, ⟨heap_alloc_new w2 _, (unhide M2).later (below_alloc w2 _), hz⟩, (unhide B2).trans ((below_alloc w2 _).mono hz)⟩

set_option maxHeartbeats 400000 in
theorem wmark_any (B g : Nat) (w : World) (ao : Option Addr) (n c : Nat) (l : List Int) (h : Wl B g w ao n c l) (hB : B ≤ w.heap.size) (x : Int) (hx0 : 0 ≤ x) (hx1 : x ≤ 255) (hn : n + 1 ≤ 1099511627776) :
    Calls Tryd.prog 28 #[.pointer (some ⟨g, 0, none⟩), .int .u8 x] w fun e w' => e = .returned (.tuple #[]) ∧ OutW B g w (l ++ [x]) w' := by
  have c0 := h.c0
  have b0 := below_alloc w (.cells #[.int .u8 x] 5)
  have H1 := hide (h.later b0)
  have HF := hide (Bs.one w x hx0 hx1)
  have hz : (w.alloc (.cells #[.int .u8 x] 5)).heap.size = w.heap.size + 1 := by simp
  have B0 := hide b0
  clear h b0
  go_enter Tryd.func28, Tryd.ntmps28
  go_wp2_with (at_builtin; refine wpList_appS rfl _ _ rfl B _ _ _ _ rfl (unhide H1).own _ _ _ _ rfl (unhide HF) (by omega) (by omega) ?_; intro ao1 c1 w1 m1 f1; have A := (unhide H1).app m1 (Kn.fs (unhide H1).own f1) (f1.below (by omega) (fun k hk => ((unhide H1).own.ob hk).1)); obtain ⟨k0, k1, k2⟩ := A; have K2 := hide k2; clear k2 f1 m1)
  refine bodyPost_end (results_none rfl _ _ _) rfl ?_
  exact ⟨rfl, OutW.ahead (unhide B0) hB (unhide K2)⟩

set_option maxHeartbeats 400000 in
theorem wfixed_any (B g : Nat) (w : World) (ao : Option Addr) (n c : Nat) (l : List Int) (h : Wl B g w ao n c l) (hB : B ≤ w.heap.size) (x : Int) (k : Nat) (K : Int) (hK : K = (k : Int)) (hx0 : 0 ≤ x) (hx1 : x < 18446744073709551616) (hk1 : 1 ≤ k) (hk8 : k ≤ 8) (hx : x < 2 ^ (8 * k)) (hn : n + k ≤ 1099511627776) :
    Calls Tryd.prog 40 #[.pointer (some ⟨g, 0, none⟩), .int .u64 x, .int .i64 K] w fun e w' => e = .returned (.tuple #[]) ∧ OutW B g w (l ++ le x k) w' := by
  subst hK
  have H := hide h
  have cA := hide (appendFixed_ok none 0 0 [] x (k : Int) w (Bs.nought w) hx0 hx1 (by omega) (by omega) (by omega) (by rw [Int.toNat_natCast]; exact hx))
  rw [Int.toNat_natCast] at cA
  clear h hx1 hx
  go_enter Tryd.func40, Tryd.ntmps40
  go_wp2_with fail
  refine (unhide cA).mono ?_
  rintro e w1 ⟨ao1, c1, rfl, m1, b1⟩
  rw [List.nil_append, Nat.zero_add] at m1
  rw [Nat.zero_add]
  have hB1 := Nat.le_trans hB b1.size
  have H1 := hide ((unhide H).later b1)
  have HF := hide m1.bs
  have k0 := (unhide H1).c0
  have B1 := hide b1
  clear m1 b1 cA H
  go_wp2_with (at_builtin; refine wpList_appS rfl _ _ rfl B _ _ _ _ rfl (unhide H1).own _ _ _ _ rfl (unhide HF) (by omega) (by omega) ?_; intro ao2 c2 w2 m2 f2; have A := (unhide H1).app m2 (Kn.fs (unhide H1).own f2) (f2.below (by omega) (fun k hk => ((unhide H1).own.ob hk).1)); obtain ⟨k0, k1, k2⟩ := A; have K2 := hide k2; clear k2 f2 m2)
  refine bodyPost_end (results_none rfl _ _ _) rfl ?_
  exact ⟨rfl, OutW.ahead (unhide B1) hB (unhide K2)⟩

set_option maxHeartbeats 2000000 in
set_option maxRecDepth 100000 in
theorem put_any (B g : Nat) (w : World) (ao : Option Addr) (n c : Nat) (l : List Int) (h : Wl B g w ao n c l) (hB : B ≤ w.heap.size) (C : Cm) (hC : C.ok) (xo : Option Addr) (xn xc : Nat) (hd : Bs w xo xn xc C.d) (F : Int) (hF : 0 ≤ F ∧ F ≤ 7)
    (hn : n + C.t.size + xn + 100 ≤ 1099511627776) :
    Calls Tryd.prog 29 #[.pointer (some ⟨g, 0, none⟩), .agg (C.cd xo xn xc).row, .int .i64 F] w fun e w' => e = .returned (.tuple #[]) ∧ OutW B g w (l ++ fb C F) w' := by
  obtain ⟨K, T, S, P, FF, N, O, D⟩ := C
  obtain ⟨⟨k0, k1⟩, ⟨s0, s1⟩, ⟨p0, p1⟩, ⟨f0, f1⟩, ⟨n0, n1⟩, ⟨o0, o1⟩, hby⟩ := hC
  simp only at k0 k1 s0 s1 p0 p1 f0 f1 n0 n1 o0 o1 hby hd hn
  simp only [Cm.cd, Cd.row]
  have b0 := below_alloc w (.cells #[.int .u8 K, .string T, .int .u32 S, .int .u16 P, .int .u8 FF, .int .u32 N, .int .u16 O, .slice xo xn xc] 26)
  have z0 : (w.alloc (.cells #[.int .u8 K, .string T, .int .u32 S, .int .u16 P, .int .u8 FF, .int .u32 N, .int .u16 O, .slice xo xn xc] 26)).heap.size = w.heap.size + 1 := by simp
  have h1 := h.later b0
  have c0 := h1.c0
  have d1 := hd.later b0
  have hc : F = 0 ∨ F = 1 ∨ F = 2 ∨ F = 3 ∨ F = 4 ∨ F = 5 ∨ F = 6 ∨ F = 7 := by omega
  clear hF
  rcases hc with rfl | rfl | rfl | rfl | rfl | rfl | rfl | rfl
  · have HM := hide (h1.later (below_drew _))
    have HD := hide (d1.later (below_drew _))
    have zd : ∀ wx : World, wx.drew.heap.size = wx.heap.size := fun _ => rfl
    have B0 := hide b0
    clear h h1 d1 hd b0 hby
    go_enter Tryd.func29, Tryd.ntmps29
    go_wp2_with fail
    go_region_law (refine step_appT rfl (.tmp 13) (.tmp 15) rfl B ao n c l (by simp [Act.eval, Act.put]) (unhide HM).own T (by simp [Act.eval, Act.put]) (by omega) (by rw [zd]; omega) ?_; intro ao2 c2 w2 m2 g2; have A := (unhide HM).app m2 (Kn.grown (unhide HM).own g2) (mine_grown (unhide HM).own (by rw [zd]; omega) g2); obtain ⟨k0, k1, k2⟩ := A; have K2 := hide k2; clear k2 g2 m2)
    all_goals go_wp2_with fail
    all_goals refine bodyPost_end (results_none rfl _ _ _) rfl ?_
    all_goals exact ⟨rfl, OutW.ahead (unhide B0).drew hB (unhide K2)⟩
  · have cc := hide (wfixed_any B g _ ao n c l h1 (by omega) S 4 4 rfl (by omega) (by omega) (by omega) (by omega) (by omega) (by omega))
    have B0 := hide b0
    clear h h1 d1 hd hn b0 hby
    go_enter Tryd.func29, Tryd.ntmps29
    go_wp2_with fail
    refine (unhide cc).mono ?_
    rintro e w2 ⟨rfl, ho⟩
    have HO := hide ho
    clear ho cc
    go_wp2_with fail
    refine bodyPost_end (results_none rfl _ _ _) rfl ?_
    exact ⟨rfl, OutW.ahead (unhide B0) hB (unhide HO)⟩
  · have cc := hide (wfixed_any B g _ ao n c l h1 (by omega) P 2 2 rfl (by omega) (by omega) (by omega) (by omega) (by omega) (by omega))
    have B0 := hide b0
    clear h h1 d1 hd hn b0 hby
    go_enter Tryd.func29, Tryd.ntmps29
    go_wp2_with fail
    refine (unhide cc).mono ?_
    rintro e w2 ⟨rfl, ho⟩
    have HO := hide ho
    clear ho cc
    go_wp2_with fail
    refine bodyPost_end (results_none rfl _ _ _) rfl ?_
    exact ⟨rfl, OutW.ahead (unhide B0) hB (unhide HO)⟩
  · have cc := hide (wmark_any B g _ ao n c l h1 (by omega) FF (by omega) (by omega) (by omega))
    have B0 := hide b0
    clear h h1 d1 hd hn b0 hby
    go_enter Tryd.func29, Tryd.ntmps29
    go_wp2_with fail
    refine (unhide cc).mono ?_
    rintro e w2 ⟨rfl, ho⟩
    have HO := hide ho
    clear ho cc
    go_wp2_with fail
    refine bodyPost_end (results_none rfl _ _ _) rfl ?_
    exact ⟨rfl, OutW.ahead (unhide B0) hB (unhide HO)⟩
  · have cc := hide (wfixed_any B g _ ao n c l h1 (by omega) 1 4 4 rfl (by omega) (by omega) (by omega) (by omega) (by omega) (by omega))
    have B0 := hide b0
    clear h h1 d1 hd hn b0 hby
    go_enter Tryd.func29, Tryd.ntmps29
    go_wp2_with fail
    refine (unhide cc).mono ?_
    rintro e w2 ⟨rfl, ho⟩
    have HO := hide ho
    clear ho cc
    go_wp2_with fail
    refine bodyPost_end (results_none rfl _ _ _) rfl ?_
    exact ⟨rfl, OutW.ahead (unhide B0) hB (unhide HO)⟩
  · have cc := hide (wfixed_any B g _ ao n c l h1 (by omega) N 4 4 rfl (by omega) (by omega) (by omega) (by omega) (by omega) (by omega))
    have B0 := hide b0
    clear h h1 d1 hd hn b0 hby
    go_enter Tryd.func29, Tryd.ntmps29
    go_wp2_with fail
    refine (unhide cc).mono ?_
    rintro e w2 ⟨rfl, ho⟩
    have HO := hide ho
    clear ho cc
    go_wp2_with fail
    refine bodyPost_end (results_none rfl _ _ _) rfl ?_
    exact ⟨rfl, OutW.ahead (unhide B0) hB (unhide HO)⟩
  · have cc := hide (wfixed_any B g _ ao n c l h1 (by omega) O 2 2 rfl (by omega) (by omega) (by omega) (by omega) (by omega) (by omega))
    have B0 := hide b0
    clear h h1 d1 hd hn b0 hby
    go_enter Tryd.func29, Tryd.ntmps29
    go_wp2_with fail
    refine (unhide cc).mono ?_
    rintro e w2 ⟨rfl, ho⟩
    have HO := hide ho
    clear ho cc
    go_wp2_with fail
    refine bodyPost_end (results_none rfl _ _ _) rfl ?_
    exact ⟨rfl, OutW.ahead (unhide B0) hB (unhide HO)⟩
  · have HM := hide (h1.later (below_drew _))
    have HD := hide (d1.later (below_drew _))
    have zd : ∀ wx : World, wx.drew.heap.size = wx.heap.size := fun _ => rfl
    have B0 := hide b0
    clear h h1 d1 hd b0 hby
    go_enter Tryd.func29, Tryd.ntmps29
    go_wp2_with fail
    go_region_law (refine step_appK rfl (.tmp 63) (.tmp 65) rfl B ao n c l (by simp [Act.eval, Act.put]) (unhide HM).own xo xn xc D (by simp [Act.eval, Act.put]) (unhide HD) (by omega) (by rw [zd]; omega) ?_; intro ao2 c2 w2 m2 g2; have A := (unhide HM).app m2 (Kn.grown (unhide HM).own g2) (mine_grown (unhide HM).own (by rw [zd]; omega) g2); obtain ⟨k0, k1, k2⟩ := A; have K2 := hide k2; clear k2 g2 m2)
    all_goals go_wp2_with fail
    all_goals refine bodyPost_end (results_none rfl _ _ _) rfl ?_
    all_goals exact ⟨rfl, OutW.ahead (unhide B0).drew hB (unhide K2)⟩

end Go.Proofs.YtpidlfifipgadaaDoor
