/-
  The writer of replies: in memory, and what newWriter, mark, raw, fixed, number and text of it leave. Conditions: the numbers fit; lengths below 2 to the 40.
-/
import Derived.Test.YtkijdkbkbelliaaRyMem
import Derived.Test.YtkijdkbkbelliaaRyPlain
import Derived.Deep.CutRange
import Derived.Deep.RegionLaw
import Derived.Deep.DeepCutAuto
namespace Go.Proofs.Ytkijdkbkbelliaa
open Go.RowKit Go.Shelf
set_option linter.unusedVariables false
set_option linter.unusedSimpArgs false

/-- Block g is a writer that has the bytes l, in a row of the call's own from block B on. -/
structure Wl (B g : Nat) (w : World) (ao : Option Addr) (n c : Nat) (l : List Int) : Prop where
  st : w.heap[g]? = some (.cells #[.slice ao n c] 102 (0, 0))
  own : Mine B w ao n c l
  ge : B ≤ g
/-- The writer in block g has the bytes l. -/
def WX (B g : Nat) (w : World) (l : List Int) : Prop := (∃ ao n c, Wl B g w ao n c l) ∧ B ≤ w.heap.size
/-- Behind a call: the writer has the bytes l; nothing below block B has changed. -/
def OutWX (B g : Nat) (w : World) (l : List Int) (w' : World) : Prop := WX B g w' l ∧ Below B w w'

section
variable {B g : Nat} {w : World} {ao : Option Addr} {n c : Nat} {l : List Int}
theorem Wl.lt (h : Wl B g w ao n c l) : g < w.heap.size := (Array.getElem?_eq_some_iff.1 h.st).1
theorem Wl.free (h : Wl B g w ao n c l) (i : Nat) : w.frozen? ⟨g, i, none⟩ = false := frozen_of_row w g i _ _ h.st
theorem Wl.c0 (h : Wl B g w ao n c l) : w.cell? ⟨g, 0, none⟩ = some (.slice ao n c) := by rw [cell_of_row w g 0 _ _ _ h.st]; rfl
theorem Wl.later (h : Wl B g w ao n c l) {w' : World} (hb : Below w.heap.size w w') : Wl B g w' ao n c l :=
  ⟨by rw [hb.block g h.lt]; exact h.st, h.own.later hb, h.ge⟩
/-- Bytes were put behind the row. -/
theorem Wl.app (h : Wl B g w ao n c l) {w1 : World} {ao1 : Option Addr} {n1 c1 : Nat} {l1 : List Int} (hB : B ≤ w.heap.size) (hm : Mine B w1 ao1 n1 c1 l1) (k : Kn w w1) (hb : Below B w w1) :
    w1.cell? ⟨g, 0, none⟩ = some (.slice ao n c) ∧ w1.frozen? ⟨g, 0, none⟩ = false ∧ OutWX B g w l1 (w1.setCell ⟨g, 0, none⟩ (.slice ao1 n1 c1)) := by
  have hst : w1.heap[g]? = some (.cells #[.slice ao n c] 102 (0, 0)) := k g _ _ _ h.st (by decide)
  have hn : ¬ ob ao1 g := fun q => by
    obtain ⟨cs, m, h2⟩ := mine_row hm q
    rw [h2] at hst
    simp at hst
  refine ⟨by rw [cell_of_row w1 g 0 _ _ _ hst]; rfl, frozen_of_row w1 g 0 _ _ hst, ⟨⟨_, _, _, ⟨by rw [heap_setCell_same w1 g 0 _ _ _ hst]; rfl, ?_, h.ge⟩⟩, ?_⟩, hb.setCell h.ge _⟩
  · exact hm.keepB fun k hk => heap_setCell_other w1 ⟨g, 0, none⟩ k _ (fun e => hn (by simpa [e] using hk))
  · have := hb.size
    simp
    omega
theorem OutWX.trans {w1 w2 : World} {l1 l2 : List Int} (h : OutWX B g w l1 w1) (k : OutWX B g w1 l2 w2) : OutWX B g w l2 w2 := ⟨k.1, h.2.trans k.2⟩
theorem OutWX.ahead {w1 w2 : World} {l2 : List Int} (h : Below w.heap.size w w1) (hB : B ≤ w.heap.size) (k : OutWX B g w1 l2 w2) : OutWX B g w l2 w2 := ⟨k.1, (h.mono hB).trans k.2⟩
theorem WX.cell (h : WX B g w l) : ∃ ao n c, w.cell? ⟨g, 0, none⟩ = some (.slice ao n c) ∧ Mine B w ao n c l := by
  obtain ⟨⟨ao, n, c, h1⟩, h2⟩ := h
  exact ⟨_, _, _, h1.c0, h1.own⟩
theorem WX.later {w' : World} (h : WX B g w l) (hb : Below w.heap.size w w') : WX B g w' l := by
  obtain ⟨⟨ao, n, c, h1⟩, h2⟩ := h
  exact ⟨⟨_, _, _, h1.later hb⟩, Nat.le_trans h2 hb.size⟩
end

set_option maxHeartbeats 400000 in
theorem newWriter_wx (bo : Option Addr) (bn bc : Nat) (b : List Int) (w : World) (h : Bs w bo bn bc b) (hn : bn ≤ 1099511627776) :
    Calls Try.prog 55 #[.slice bo bn bc] w fun e w' => ∃ g, e = .returned (.pointer (some ⟨g, 0, none⟩)) ∧ OutWX w.heap.size g w b w' := by
  have hle := h.le
  have hmx := h.max
  have H := hide h
  clear h
  go_enter Try.func55, Try.ntmps55
  go_wp2_with (first
    | (at_make; refine wpList_mk rfl _ _ rfl _ _ _ bn rfl rfl rfl (by omega) ?_; intro w1 m1 b1 z1; have M1 := hide m1; have B1 := hide b1; have HX := hide ((unhide H).later b1); clear m1 b1)
    | (at_builtin; refine wpList_app rfl _ _ rfl w.heap.size _ _ _ _ rfl (unhide M1) _ _ _ _ rfl (unhide HX) (by omega) (by omega) ?_; intro ao2 c2 w2 m2 b2; rw [Nat.zero_add, List.nil_append] at m2; have M2 := hide m2; have B2 := hide ((unhide B1).trans b2); clear m2 b2))
  go_ret
  have hz := (unhide B2).size
  have b3 := (unhide B2).trans ((below_alloc w2 (.cells #[.slice ao2 bn c2] 102)).mono hz)
  exact ⟨w2.heap.size, rfl, ⟨⟨_, _, _, ⟨heap_alloc_new w2 _, (unhide M2).later (below_alloc w2 _), hz⟩⟩, b3.size⟩, b3⟩

set_option maxHeartbeats 1000000 in
set_option maxRecDepth 100000 in
theorem wmark_wx (B g : Nat) (w : World) (l : List Int) (x : Int) (hx0 : 0 ≤ x) (hx1 : x ≤ 255) (hn : l.length + 1 ≤ 1099511627776) (h : WX B g w l) :
    Calls Try.prog 56 #[.pointer (some ⟨g, 0, none⟩), .int .u8 x] w fun e w' => e = .returned (.tuple #[]) ∧ OutWX B g w (l ++ [x]) w' := by
  obtain ⟨⟨ao, n, c, h⟩, hB⟩ := h
  have hnl := h.own.len
  rw [hnl] at hn
  have c0 := h.c0
  have b0 := below_alloc w (.cells #[.int .u8 x] 5)
  have H1 := hide (h.later b0)
  have HF := hide (Bs.one w x hx0 hx1)
  have hz : (w.alloc (.cells #[.int .u8 x] 5)).heap.size = w.heap.size + 1 := by simp
  have B0 := hide b0
  clear h b0 hnl
  go_enter Try.func56, Try.ntmps56
  go_wp2_with (at_builtin; refine wpList_appS rfl _ _ rfl B _ _ _ _ rfl (unhide H1).own _ _ _ _ rfl (unhide HF) (by omega) (by omega) ?_; intro ao1 c1 w1 m1 f1; have A := (unhide H1).app (by omega) m1 (Kn.fs (unhide H1).own f1) (f1.below (by omega) (fun k hk => ((unhide H1).own.ob hk).1)); obtain ⟨k0, k1, k2⟩ := A; have K2 := hide k2; clear k2 f1 m1)
  refine bodyPost_end (results_none rfl _ _ _) rfl ?_
  exact ⟨rfl, OutWX.ahead (unhide B0) hB (unhide K2)⟩

set_option maxHeartbeats 1000000 in
set_option maxRecDepth 100000 in
theorem wraw_wx (B g : Nat) (w : World) (l : List Int) (s : ByteArray) (hn : l.length + s.size ≤ 1099511627776) (h : WX B g w l) :
    Calls Try.prog 60 #[.pointer (some ⟨g, 0, none⟩), .string s] w fun e w' => e = .returned (.tuple #[]) ∧ OutWX B g w (l ++ nums s) w' := by
  obtain ⟨⟨ao, n, c, h⟩, hB⟩ := h
  have hnl := h.own.len
  rw [hnl] at hn
  have c0 := h.c0
  have H1 := hide h
  clear h hnl
  go_enter Try.func60, Try.ntmps60
  go_wp2_with (at_builtin; refine wpList_appTG rfl _ _ rfl B _ _ _ _ rfl (unhide H1).own s rfl (by omega) hB ?_; intro ao1 c1 w1 m1 g1; have A := (unhide H1).app hB m1 (Kn.grown (unhide H1).own g1) (mine_grown (unhide H1).own hB g1); obtain ⟨k0, k1, k2⟩ := A; have K2 := hide k2; clear k2 g1 m1)
  refine bodyPost_end (results_none rfl _ _ _) rfl ?_
  exact ⟨rfl, unhide K2⟩

set_option maxHeartbeats 1000000 in
set_option maxRecDepth 100000 in
theorem wfixed_wx (B g : Nat) (w : World) (l : List Int) (x : Int) (k : Nat) (K M : Int) (hK : K = (k : Int)) (hx0 : 0 ≤ x) (hk1 : 1 ≤ k) (hk8 : k ≤ 8) (hM : (2 : Int) ^ (8 * k) = M) (hx : x < M) (hM2 : M ≤ 18446744073709551616) (hn : l.length + k ≤ 1099511627776) (h : WX B g w l) :
    Calls Try.prog 59 #[.pointer (some ⟨g, 0, none⟩), .int .u64 x, .int .i64 K] w fun e w' => e = .returned (.tuple #[]) ∧ OutWX B g w (l ++ le x k) w' := by
  obtain ⟨⟨ao, n, c, h⟩, hB⟩ := h
  have hnl := h.own.len
  rw [hnl] at hn
  have c0 := h.c0
  subst hK
  have H := hide h
  have cA := hide (appendFixed_ok none 0 0 [] x (k : Int) w (Bs.nought w) hx0 (by omega) (by omega) (by omega) (by omega) (by rw [Int.toNat_natCast, hM]; exact hx))
  rw [Int.toNat_natCast] at cA
  clear h hx hM hM2 c0 hnl
  go_enter Try.func59, Try.ntmps59
  go_wp2_with fail
  refine (unhide cA).mono ?_
  rintro e w1 ⟨ao1, c1, rfl, m1, b1⟩
  rw [List.nil_append] at m1
  obtain ⟨kk, hkk⟩ : ∃ kk, kk = 0 + k := ⟨_, rfl⟩
  rw [← hkk] at m1 ⊢
  have H1 := hide ((unhide H).later b1)
  have c0 := (unhide H1).c0
  have HF := hide m1.bs
  have hz := b1.size
  have B1 := hide b1
  have hb2 : n + kk ≤ 1099511627776 := by omega
  clear hkk m1 b1 cA
  go_wp2_with (at_builtin; refine wpList_appS rfl _ _ rfl B _ _ _ _ rfl (unhide H1).own _ _ _ _ rfl (unhide HF) (by omega) (by omega) ?_; intro ao2 c2 w2 m2 f2; have A := (unhide H1).app (by omega) m2 (Kn.fs (unhide H1).own f2) (f2.below (by omega) (fun k hk => ((unhide H1).own.ob hk).1)); obtain ⟨k0, k1, k2⟩ := A; have K2 := hide k2; clear k2 f2 m2)
  refine bodyPost_end (results_none rfl _ _ _) rfl ?_
  exact ⟨rfl, OutWX.ahead (unhide B1) hB (unhide K2)⟩

set_option maxHeartbeats 1000000 in
set_option maxRecDepth 100000 in
theorem wnumber_wx (B g : Nat) (w : World) (l : List Int) (x : Int) (hx0 : 0 ≤ x) (hx1 : x < 18446744073709551616) (hn : l.length + 9 ≤ 1099511627776) (h : WX B g w l) :
    Calls Try.prog 58 #[.pointer (some ⟨g, 0, none⟩), .int .u64 x] w fun e w' => e = .returned (.tuple #[]) ∧ OutWX B g w (l ++ form x) w' := by
  obtain ⟨⟨ao, n, c, h⟩, hB⟩ := h
  have hnl := h.own.len
  rw [hnl] at hn
  have c0 := h.c0
  have HD := hide (h.later (below_drew w))
  have zd : w.drew.heap.size = w.heap.size := rfl
  have f0 := (unhide HD).free 0
  have hl := form_length_le x
  have cA := hide (appendInt_any none 0 0 [] x w.drew (Bs.nought _) hx0 hx1 (by omega))
  rw [List.nil_append] at cA
  obtain ⟨kk, hkk⟩ : ∃ kk, kk = 0 + (form x).length := ⟨_, rfl⟩
  rw [← hkk] at cA
  have hb2 : n + kk ≤ 1099511627776 := by omega
  clear h hkk hnl
  go_enter Try.func58, Try.ntmps58
  go_wp2_with fail
  go_region_law (first
    | (refine step_call2 rfl 117 _ _ _ _ rfl (enters_of Try.func117 (by kernel_rfl) rfl) (.slice none 0 0) (.int .u64 x) (by simp [Act.eval, Act.put]) (by simp [Act.eval, Act.put]) (unhide cA) ?_; rintro e w1 ⟨ao1, c1, rfl, m1, b1⟩; refine ⟨_, rfl, ?_⟩; have H1 := hide ((unhide HD).later b1); have d0 := (unhide H1).c0; have HF := hide m1.bs; have hz := b1.size; have B1 := hide b1; clear m1 b1)
    | (refine step_appK rfl (.tmp 8) (.tmp 10) rfl B ao n c l (by simp [Act.eval, Act.put]) (unhide H1).own ao1 kk c1 _ (by simp [Act.eval, Act.put]) (unhide HF) (by omega) (by omega) ?_; intro ao2 c2 w2 m2 g2; have A := (unhide H1).app (by omega) m2 (Kn.grown (unhide H1).own g2) (mine_grown (unhide H1).own (by omega) g2); obtain ⟨k0, k1, k2⟩ := A; have K2 := hide k2; clear k2 g2 m2))
  all_goals go_wp2_with fail
  all_goals refine bodyPost_end (results_none rfl _ _ _) rfl ?_
  all_goals exact ⟨rfl, OutWX.ahead ((below_drew w).trans (unhide B1)) hB (unhide K2)⟩

set_option maxHeartbeats 1000000 in
set_option maxRecDepth 100000 in
theorem wtext_wx (B g : Nat) (w : World) (l : List Int) (s : ByteArray) (hn : l.length + s.size + 9 ≤ 1099511627776) (h : WX B g w l) :
    Calls Try.prog 61 #[.pointer (some ⟨g, 0, none⟩), .string s] w fun e w' => e = .returned (.tuple #[]) ∧ OutWX B g w (l ++ txB s) w' := by
  obtain ⟨⟨ao, n, c, h⟩, hB⟩ := h
  have hnl := h.own.len
  rw [hnl] at hn
  have c0 := h.c0
  have HD := hide (h.later (below_drew w))
  have zd : w.drew.heap.size = w.heap.size := rfl
  have f0 := (unhide HD).free 0
  have hl := form_length_le (s.size : Int)
  have cA := hide (appendText_any none 0 0 [] s w.drew (Bs.nought _) (by omega))
  rw [List.nil_append] at cA
  obtain ⟨kk, hkk⟩ : ∃ kk, kk = 0 + (form s.size).length + s.size := ⟨_, rfl⟩
  rw [← hkk] at cA
  have hb2 : n + kk ≤ 1099511627776 := by omega
  clear h hkk hnl
  go_enter Try.func61, Try.ntmps61
  go_wp2_with fail
  go_region_law (first
    | (refine step_call2 rfl 119 _ _ _ _ rfl (enters_of Try.func119 (by kernel_rfl) rfl) (.slice none 0 0) (.string s) (by simp [Act.eval, Act.put]) (by simp [Act.eval, Act.put]) (unhide cA) ?_; rintro e w1 ⟨ao1, c1, rfl, m1, b1⟩; refine ⟨_, rfl, ?_⟩; have H1 := hide ((unhide HD).later b1); have d0 := (unhide H1).c0; have HF := hide m1.bs; have hz := b1.size; have B1 := hide b1; clear m1 b1)
    | (refine step_appK rfl (.tmp 8) (.tmp 10) rfl B ao n c l (by simp [Act.eval, Act.put]) (unhide H1).own ao1 kk c1 _ (by simp [Act.eval, Act.put]) (unhide HF) (by omega) (by omega) ?_; intro ao2 c2 w2 m2 g2; have A := (unhide H1).app (by omega) m2 (Kn.grown (unhide H1).own g2) (mine_grown (unhide H1).own (by omega) g2); obtain ⟨k0, k1, k2⟩ := A; have K2 := hide k2; clear k2 g2 m2))
  all_goals go_wp2_with fail
  all_goals refine bodyPost_end (results_none rfl _ _ _) rfl ?_
  all_goals exact ⟨rfl, OutWX.ahead ((below_drew w).trans (unhide B1)) hB (unhide K2)⟩

end Go.Proofs.Ytkijdkbkbelliaa
