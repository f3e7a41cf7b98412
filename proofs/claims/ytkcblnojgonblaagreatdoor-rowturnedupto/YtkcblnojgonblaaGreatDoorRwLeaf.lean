/-
  The small functions of package row: isNull, textType, nullBytes, setNull. What they return, what they write. Conditions: bytes are there for the bit; at most 10 to the 5 columns.
-/
import Derived.Test.YtkcblnojgonblaaGreatDoorVaPv
import Derived.Test.YtkcblnojgonblaaGreatDoorBitR
import Derived.Test.YtkcblnojgonblaaGreatDoorMTm
import Derived.BigRegion
namespace Go.Proofs.YtkcblnojgonblaaGreatDoor
open Go.RowKit
set_option linter.unusedVariables false
set_option linter.unusedSimpArgs false

theorem textType_any (w : World) : Calls Tryz.prog 32 #[] w fun e w' => e = .returned (.agg #[.int .u8 253, .bool false]) ∧ Below w.heap.size w w' := by
  go_enter Tryz.func32, Tryz.ntmps32
  go_wp2_with fail
  refine bodyPost_ret (results_cell_row rfl _ _ w.heap.size _ _ _ _ rfl (heap_alloc_new w _) Tryz.underlying23 rfl (by kernel_rfl)) rfl ?_
  exact ⟨rfl, below_alloc w _⟩
theorem isNull_any (v : Va) (w : World) : Calls Tryz.prog 28 #[.agg (vaC v)] w fun e w' => e = .returned (.bool (v.k == 0)) ∧ Below w.heap.size w w' := by
  obtain ⟨k, i, b, tx, ⟨ng, y, mo, d, h, mi, s, mc⟩⟩ := v
  unfold vaC
  simp only
  have h0 := vrow_cell (heap_alloc_new w (.cells #[.int .i64 k, .int .i64 i, .int .u64 b, .string tx, .bool ng, .int .i64 y, .int .i64 mo, .int .i64 d, .int .i64 h, .int .i64 mi, .int .i64 s, .int .i64 mc] 38)) (j := 0) (v := .int .i64 k) rfl
  have hb := below_alloc w (.cells #[.int .i64 k, .int .i64 i, .int .u64 b, .string tx, .bool ng, .int .i64 y, .int .i64 mo, .int .i64 d, .int .i64 h, .int .i64 mi, .int .i64 s, .int .i64 mc] 38)
  go_enter Tryz.func28, Tryz.ntmps28
  go_wp2_with fail
  go_ret
  exact ⟨rfl, hb⟩
theorem nullBytes_any (n : Nat) (w : World) (hn : n ≤ 100000) : Calls Tryz.prog 45 #[.int .i64 (n : Int)] w fun e w' => e = .returned (.int .i64 (((n + 9) / 8 : Nat) : Int)) ∧ w' = w := by
  have e1 : (((n : Int) + 2 + 7).tdiv 8) = (((n + 9) / 8 : Nat) : Int) := by rw [Int.tdiv_eq_ediv_of_nonneg (by omega)]; omega
  have e2 : (((n : Int) + 2 + 7) / 8) = (((n + 9) / 8 : Nat) : Int) := by omega
  go_enter Tryz.func45, Tryz.ntmps45
  go_wp2_with fail
  go_ret
  refine ⟨?_, rfl⟩
  first | rfl | (rw [e1]) | (rw [e2]) | (congr 2; omega)
theorem run_idxOwn' (g n c : Nat) {i : Nat} (hi : i < n) (I : Int) (hI : I = i) (wx : World) : (Instr.indexAt 29 (.slice (some ⟨g, 0, none⟩) n c) (.int .i64 I)).run Tryz.prog wx = .ok (.pointer (some ⟨g, i, none⟩)) wx := by
  subst hI
  rw [run_indexAt_slice wx 29 _ n c .i64 (i : Int) Tryz.elemBytes]
  simp [Tryz.sizeByte, hi, Addr.add_lit, Result.andThen]
theorem mine_cell' {B : Nat} {w : World} {g n c : Nat} {bs : List Int} (h : Mine B w (some ⟨g, 0, none⟩) n c bs) {i : Nat} (hi : i < n) : w.cell? ⟨g, i, none⟩ = some (.int .u8 (bs[i]?.getD 0)) := by
  rcases h.bs.at' with q | ⟨b', o', e', c'⟩
  · omega
  · simp only [Option.some.injEq, Addr.mk.injEq, and_true] at e'
    obtain ⟨rfl, rfl⟩ := e'
    have := c' i hi
    rw [Nat.zero_add] at this
    simpa using this
theorem mine_drew' {B : Nat} {w : World} {ao : Option Addr} {n c : Nat} {bs : List Int} (h : Mine B w ao n c bs) : Mine B w.drew ao n c bs := ⟨h.len, h.own.drew, h.byt⟩

theorem mine_gb' {B g : Nat} {w w' : World} {ao : Option Addr} {n c : Nat} {bs : List Int} (h : Mine B w ao n c bs) (hg : g < B) (hb : Gb g w w') : Mine B w' ao n c bs := by
  refine ⟨h.len, ⟨h.own.1, ?_⟩, h.byt⟩
  rcases h.own.2 with hv | ⟨q, cap, cur, hv, hq, hh, r⟩
  · exact .inl hv
  · exact .inr ⟨q, cap, cur, hv, hq, by rw [hb.block q (Array.getElem?_eq_some_iff.1 hh).1 (by omega)]; exact hh, r⟩
theorem below_gb' {w0 w w' : World} {g : Nat} (hb : Below g w0 w) (h : Gb g w w') (hs : g ≤ w.heap.size) : Below g w0 w' :=
  hb.trans ⟨h.os, h.tape, h.output, h.size, fun k hk => h.block k (by omega) (by omega)⟩
theorem gb_one_drew {w : World} {g i : Nat} {v : Value} : Gb g w (w.setCell ⟨g, i, none⟩ v).drew := ⟨rfl, rfl, rfl, by simp, fun k _ hk => heap_setCell_other _ _ _ _ hk⟩
theorem w64_small {n : Nat} (h : n ≤ 100000) : wrap64 (n : Int) = n ∧ IntKind.i64.wrap (n : Int) = n := by
  constructor
  · unfold wrap64; omega
  · rw [IntKind.wrap_i64]; omega
theorem div8 (i : Nat) : (((i : Int) + 2).tdiv 8) = (((i + 2) / 8 : Nat) : Int) := by rw [Int.tdiv_eq_ediv_of_nonneg (by omega)]; omega
theorem mod8 (i : Nat) : (((i : Int) + 2).tmod 8) = (((i + 2) % 8 : Nat) : Int) := by rw [Int.tmod_eq_emod_of_nonneg (by omega)]; omega

set_option maxHeartbeats 2000000 in
theorem setNull_any (B g n c : Nat) (l : List Int) (i : Nat) (w : World) (hM : Mine B w (some ⟨g, 0, none⟩) n c l) (hi : (i + 2) / 8 < n) (hi2 : i ≤ 100000) :
    Calls Tryz.prog 47 #[.slice (some ⟨g, 0, none⟩) n c, .int .i64 (i : Int)] w fun e w' => e = .returned (.tuple #[]) ∧ ∃ l', Mine B w' (some ⟨g, 0, none⟩) n c l' ∧ (∀ j, bit l' j = (bit l j || decide (j = i + 2))) ∧ Gb g w w' := by
  obtain ⟨y, hy, y0, y1, hbit⟩ := bit_or hM.byt (i := i + 2) (by rw [hM.len]; exact hi)
  have hq : (i + 2) / 8 ≤ 100000 := by omega
  have hr : (i + 2) % 8 < 8 := Nat.mod_lt _ (by decide)
  have hio := run_idxOwn' g n c hi (((i + 2) / 8 : Nat) : Int) rfl
  have cc := mine_cell' hM hi
  have fr := hM.free ((i + 2) / 8)
  have gB := hM.block
  have HS := hide (hM.stored ((i + 2) / 8) y y0 y1)
  have HB := hide hbit
  have e1 := div8 i
  have e2 := mod8 i
  clear hM hbit y0 y1
  generalize (i + 2) / 8 = q at hi hq hio cc fr HS e1 hy HB
  generalize (i + 2) % 8 = r at hr e2 hy
  generalize l[q]?.getD 0 = X at cc hy
  obtain ⟨z1, z2⟩ := w64_small hq
  obtain ⟨R, hR⟩ : ∃ z : Int, z = (r : Int) := ⟨_, rfl⟩
  rw [← hR] at e2
  have hr' : (R = 0 ∧ r = 0) ∨ (R = 1 ∧ r = 1) ∨ (R = 2 ∧ r = 2) ∨ (R = 3 ∧ r = 3) ∨ (R = 4 ∧ r = 4) ∨ (R = 5 ∧ r = 5) ∨ (R = 6 ∧ r = 6) ∨ (R = 7 ∧ r = 7) := by
    clear e1 e2 z1 z2 hy hio cc fr gB
    omega
  clear hr hR
  rcases hr' with ⟨rfl, rfl⟩ | ⟨rfl, rfl⟩ | ⟨rfl, rfl⟩ | ⟨rfl, rfl⟩ | ⟨rfl, rfl⟩ | ⟨rfl, rfl⟩ | ⟨rfl, rfl⟩ | ⟨rfl, rfl⟩
  all_goals
    simp only [Int.reducePow] at hy
    go_enter Tryz.func47, Tryz.ntmps47
    go_wp2_with fail
    go_region
    all_goals go_wp2_with fail
    all_goals go_end0
    all_goals exact ⟨rfl, _, mine_drew' (unhide HS), unhide HB, gb_one_drew⟩

end Go.Proofs.YtkcblnojgonblaaGreatDoor
