/-
  What triple and alike, methods of package deflate's finder, answer. They write nothing that was there. Conditions: the places lie within the bytes.
-/
import Derived.Test.YtalkeooejobjhaaDoorDefMem
import Derived.BigRegion
namespace Go.Proofs.YtalkeooejobjhaaDoor
open Go.RowKit
set_option linter.unusedVariables false
set_option linter.unusedSimpArgs false

theorem results_tri {fn : Func} {p q : Tmp} (h : fn.results = #[.cell p 101, .tmp q]) (tmps : Array Value) (w : World) (g : Nat) (v : Array Value) (hv : v.size = 3)
    (hp : tmps.getD p undef = .pointer (some ⟨g, 0, none⟩)) (hg : w.heap[g]? = some (.cells v 101 (0, 0))) :
    (results fn tmps).run Tryd.prog w = .ok (.tuple #[.agg v, tmps.getD q undef]) w := by
  have hp' : tmps[p]?.getD undef = .pointer (some ⟨g, 0, none⟩) := by simpa using hp
  have hl' := run_loadVar_row (P := Tryd.prog) w g _ 101 v (0, 0) _ hg Tryd.underlying101 rfl (by rw [hv]; kernel_rfl)
  simp [results, h, hp', asAddr, hl']

set_option maxHeartbeats 2000000 in
set_option maxRecDepth 20000 in
theorem triple_any (g : Nat) (w : World) (bo : Option Addr) (bn bc : Nat) (bs : List Int) (p : Nat) (c0 : w.cell? ⟨g, 0, none⟩ = some (.slice bo bn bc)) (hb : Bs w bo bn bc bs) (hn : bn ≤ 32768) (hp : p ≤ bn) :
    Calls Tryd.prog 60 #[.pointer (some ⟨g, 0, none⟩), .int .i64 (p : Int)] w fun e w' => e = .returned (triQ bs p) ∧ Below w.heap.size w w' := by
  have hlen := hb.len
  have hle := hb.le
  have hmx := hb.max
  have hg : g < w.heap.size := by
    unfold World.cell? at c0
    simp at c0
    cases h : w.heap[g]? with
    | none => simp [h] at c0
    | some o => exact (Array.getElem?_eq_some_iff.1 h).1
  by_cases h3 : p + 3 ≤ bn
  · have hq := hide (show triQ bs p = .tuple #[triV (bs[p]?.getD 0) (bs[p + 1]?.getD 0) (bs[p + 2]?.getD 0), .bool true] by unfold triQ; rw [if_pos (by omega)])
    obtain ⟨b0, o0, i0, k0⟩ := hb.idx (show p < bn by omega) (p : Int) rfl
    obtain ⟨b1, o1, i1, k1⟩ := hb.idx (show p + 1 < bn by omega) ((p : Int) + 1) (by omega)
    obtain ⟨b2, o2, i2, k2⟩ := hb.idx (show p + 2 < bn by omega) ((p : Int) + 2) (by omega)
    generalize bs[p]?.getD 0 = x0 at *
    generalize bs[p + 1]?.getD 0 = x1 at *
    generalize bs[p + 2]?.getD 0 = x2 at *
    have d0 := (cell_later (below_alloc w (.cells #[.int .u8 0, .int .u8 0, .int .u8 0] 101)) c0)
    have l0 := (cell_later (below_alloc w (.cells #[.int .u8 0, .int .u8 0, .int .u8 0] 101)) k0)
    have l1 := (cell_later (below_alloc w (.cells #[.int .u8 0, .int .u8 0, .int .u8 0] 101)) k1)
    have l2 := (cell_later (below_alloc w (.cells #[.int .u8 0, .int .u8 0, .int .u8 0] 101)) k2)
    have hlt : (3 : Int) ≤ (bn : Int) - (p : Int) := by omega
    have bl := hide (below_alloc w (.cells #[.int .u8 0, .int .u8 0, .int .u8 0] 101))
    clear hb k0 k1 k2 c0
    go_enter Tryd.func60, Tryd.ntmps60
    go_wp2_with fail
    go_region
    all_goals go_wp2_with fail
    all_goals refine bodyPost_ret (results_tri rfl _ _ w.heap.size #[.int .u8 x0, .int .u8 x1, .int .u8 x2] rfl rfl (heap_alloc_new w _)) rfl ?_
    all_goals rw [unhide hq]
    all_goals exact ⟨rfl, (below_alloc w _).trans ⟨rfl, rfl, rfl, Nat.le_refl _, fun _ _ => rfl⟩⟩
  · have hq := hide (show triQ bs p = .tuple #[triV 0 0 0, .bool false] by unfold triQ; rw [if_neg (by omega)])
    have d0 := (cell_later (below_alloc w (.cells #[.int .u8 0, .int .u8 0, .int .u8 0] 101)) c0)
    have hlt : (bn : Int) - (p : Int) < 3 := by omega
    go_enter Tryd.func60, Tryd.ntmps60
    go_wp2_with fail
    refine bodyPost_ret (results_tri rfl _ _ w.heap.size #[.int .u8 0, .int .u8 0, .int .u8 0] rfl rfl (heap_alloc_new w _)) rfl ?_
    rw [unhide hq]
    exact ⟨rfl, below_alloc w _⟩

theorem eqb_is (bs : List Int) (q A n : Nat) : eqb bs q A n = (bs[q + n]?.getD 0 == bs[A + n]?.getD 0) := by unfold eqb; rfl

set_option maxHeartbeats 2000000 in
set_option maxRecDepth 20000 in
theorem alike_any (g : Nat) (w : World) (bo : Option Addr) (bn bc : Nat) (bs : List Int) (A q s m : Nat) (c0 : w.cell? ⟨g, 0, none⟩ = some (.slice bo bn bc)) (c1 : w.cell? ⟨g, 1, none⟩ = some (.int .i64 (A : Int))) (hb : Bs w bo bn bc bs) (hn : bn ≤ 32768) (hq : q < A) (hA : A + m ≤ bn) (hs : s < m) :
    Calls Tryd.prog 61 #[.pointer (some ⟨g, 0, none⟩), .int .i64 (q : Int), .int .i64 (s : Int), .int .i64 (m : Int)] w fun e w' => e = .returned (.int .i64 (likeQ bs q A s m : Int)) ∧ ∃ k, w' = w.drewN k := by
  obtain ⟨b0, o0, i0, k0⟩ := hb.idx (show q + s < bn by omega) ((q : Int) + (s : Int)) (by omega)
  obtain ⟨b1, o1, i1, k1⟩ := hb.idx (show A + s < bn by omega) ((A : Int) + (s : Int)) (by omega)
  have HB := hide hb
  clear hb
  by_cases he : eqb bs q A s = true
  · have hr := hide (show likeQ bs q A s m = mtU (eqb bs q A) m 0 from if_pos he)
    have hne : (bs[q + s]?.getD 0 != bs[A + s]?.getD 0) = false := by rw [eqb_is] at he; simpa using he
    clear he
    generalize likeQ bs q A s m = R at *
    generalize bs[q + s]?.getD 0 = x0 at *
    generalize bs[A + s]?.getD 0 = x1 at *
    go_enter Tryd.func61, Tryd.ntmps61
    go_wp2_with fail
    go_quiet (fail)
    go_wp2_with fail
    clear i0 i1 k0 k1
    go_loopw [9] (fun i wr => ∃ k j : Nat, k ≤ m ∧ i = .int .i64 (k : Int) ∧ R = mtU (eqb bs q A) (m - k) k ∧ wr = w.drewN j) (fun i _ => m - (intOf i).toNat)
    case atStart => exact ⟨0, _, by omega, rfl, unhide hr, rfl⟩
    case round =>
      obtain ⟨k, j, hk, rfl, hR, rfl⟩ := hrel
      have HR := hide hR
      clear hR hr
      by_cases hlt : k < m
      · have hlt' : (k : Int) < (m : Int) := by omega
        obtain ⟨b0, o0, i0, k0⟩ := (unhide HB).idx (show q + k < bn by omega) ((q : Int) + (k : Int)) (by omega)
        obtain ⟨b1, o1, i1, k1⟩ := (unhide HB).idx (show A + k < bn by omega) ((A : Int) + (k : Int)) (by omega)
        obtain ⟨f, hf⟩ : ∃ f, m - k = f + 1 := ⟨m - k - 1, by omega⟩
        by_cases he : eqb bs q A k = true
        · have hnx := hide (show R = mtU (eqb bs q A) (m - (k + 1)) (k + 1) by rw [unhide HR, hf, show m - (k + 1) = f by omega]; simp only [mtU]; rw [if_pos he])
          have heq : (bs[q + k]?.getD 0 == bs[A + k]?.getD 0) = true := by rw [eqb_is] at he; exact he
          clear he hf
          generalize bs[q + k]?.getD 0 = y0 at *
          generalize bs[A + k]?.getD 0 = y1 at *
          go_wp2_with fail
          go_quiet (fail)
          go_wp2_with fail
          go_roundw
          case rel => exact ⟨k + 1, _, by omega, by go_num, unhide hnx, rfl⟩
          case measure => simp [intOf]; omega
        · have hnx := hide (show R = k by rw [unhide HR, hf]; simp only [mtU]; rw [if_neg he])
          have heq : (bs[q + k]?.getD 0 == bs[A + k]?.getD 0) = false := by rw [eqb_is] at he; simpa using he
          clear he hf
          generalize bs[q + k]?.getD 0 = y0 at *
          generalize bs[A + k]?.getD 0 = y1 at *
          go_wp2_with fail
          go_quiet (fail)
          go_wp2_with fail
          go_ret
          rw [unhide hnx]
          exact ⟨rfl, _, World.drewN_drewN _ _ _⟩
      · have hd : decide ((k : Int) < (m : Int)) = false := by simp; omega
        have hnx := hide (show R = k by rw [unhide HR, show m - k = 0 by omega]; rfl)
        have HD := hide hd
        clear hd
        go_wp2_with fail
        have hd := unhide HD
        go_quiet (fail)
        go_wp2_with fail
        go_ret
        rw [unhide hnx]
        exact ⟨rfl, _, World.drewN_drewN _ _ _⟩
  · have hr := hide (show likeQ bs q A s m = 0 from if_neg he)
    have hne : (bs[q + s]?.getD 0 != bs[A + s]?.getD 0) = true := by rw [eqb_is] at he; simpa using he
    clear he
    generalize bs[q + s]?.getD 0 = x0 at *
    generalize bs[A + s]?.getD 0 = x1 at *
    go_enter Tryd.func61, Tryd.ntmps61
    go_wp2_with fail
    go_quiet (fail)
    go_wp2_with fail
    go_ret
    rw [unhide hr]
    exact ⟨rfl, _, rfl⟩
end Go.Proofs.YtalkeooejobjhaaDoor
