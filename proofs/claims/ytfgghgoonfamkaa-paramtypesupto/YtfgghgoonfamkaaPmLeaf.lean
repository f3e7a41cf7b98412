/-
  The small functions of package param: isNull, nullBytes, setNull, the marks' isNull and isLong, ended. What they return, what they write. Conditions: bytes are there for the bit; at most 10 to the 5 parameters.
-/
import Derived.Test.YtfgghgoonfamkaaMPm
import Derived.Test.YtfgghgoonfamkaaVaPv
import Derived.Test.YtfgghgoonfamkaaBitR
import Derived.BigRegion
namespace Go.Proofs.Ytfgghgoonfamkaa
open Go.RowKit
set_option linter.unusedVariables false
set_option linter.unusedSimpArgs false

set_option maxHeartbeats 4000000 in
set_option maxRecDepth 100000 in
theorem pisNull_any (p : Pa) (w : World) : Calls Try.prog 38 #[.agg (paC p)] w fun e w' => e = .returned (.bool (p.v.k == 0)) ∧ Below w.heap.size w w' := by
  obtain ⟨⟨pt, pu⟩, lo, ⟨k, i, b, tx, ⟨ng, y, mo, d, h, mi, s, mc⟩⟩⟩ := p
  unfold paC
  simp only
  have h0 := vrow_cell (heap_alloc_new w (.cells #[.int .u8 pt, .bool pu, .bool lo, .int .i64 k, .int .i64 i, .int .u64 b, .string tx, .bool ng, .int .i64 y, .int .i64 mo, .int .i64 d, .int .i64 h, .int .i64 mi, .int .i64 s, .int .i64 mc] 34)) (j := 3) (v := .int .i64 k) rfl
  have hb := below_alloc w (.cells #[.int .u8 pt, .bool pu, .bool lo, .int .i64 k, .int .i64 i, .int .u64 b, .string tx, .bool ng, .int .i64 y, .int .i64 mo, .int .i64 d, .int .i64 h, .int .i64 mi, .int .i64 s, .int .i64 mc] 34)
  go_enter Try.func38, Try.ntmps38
  go_wp2_with fail
  go_ret
  exact ⟨rfl, hb⟩
theorem pnullBytes_any (n : Nat) (w : World) (hn : n ≤ 100000) : Calls Try.prog 43 #[.int .i64 (n : Int)] w fun e w' => e = .returned (.int .i64 (((n + 7) / 8 : Nat) : Int)) ∧ w' = w := by
  obtain ⟨Q, hQ⟩ : ∃ z : Nat, z = (n + 7) / 8 := ⟨_, rfl⟩
  rw [← hQ]
  have e1 : (((n : Int) + 7).tdiv 8) = (Q : Int) := by rw [Int.tdiv_eq_ediv_of_nonneg (by omega)]; omega
  have e2 : (((n : Int) + 7) / 8) = (Q : Int) := by omega
  clear hQ
  go_enter Try.func43, Try.ntmps43
  go_wp2_with fail
  go_ret
  refine ⟨?_, rfl⟩
  first | rfl | (rw [e1]) | (rw [e2]) | (simp [e1, e2])
theorem run_idxOwn' (g n c : Nat) {i : Nat} (hi : i < n) (I : Int) (hI : I = i) (wx : World) : (Instr.indexAt 22 (.slice (some ⟨g, 0, none⟩) n c) (.int .i64 I)).run Try.prog wx = .ok (.pointer (some ⟨g, i, none⟩)) wx := by
  subst hI
  rw [run_indexAt_slice wx 22 _ n c .i64 (i : Int) Try.elemBytes]
  simp [Try.sizeByte, hi, Addr.add_lit, Result.andThen]
theorem mine_cell' {B : Nat} {w : World} {g n c : Nat} {bs : List Int} (h : Mine B w (some ⟨g, 0, none⟩) n c bs) {i : Nat} (hi : i < n) : w.cell? ⟨g, i, none⟩ = some (.int .u8 (bs[i]?.getD 0)) := by
  rcases h.bs.at' with q | ⟨b', o', e', c'⟩
  · omega
  · simp only [Option.some.injEq, Addr.mk.injEq, and_true] at e'
    obtain ⟨rfl, rfl⟩ := e'
    have := c' i hi
    rw [Nat.zero_add] at this
    simpa using this
theorem mine_drew' {B : Nat} {w : World} {ao : Option Addr} {n c : Nat} {bs : List Int} (h : Mine B w ao n c bs) : Mine B w.drew ao n c bs := ⟨h.len, h.own.drew, h.byt⟩

theorem mine_gb' {B g : Nat} {w w' : World} {ao : Option Addr} {n c : Nat} {bs : List Int} (h : Mine B w ao n c bs) (hg : g < B) (hb : Gb g w w') : Mine B w' ao n c bs := by
  refine ⟨h.len, ⟨h.own.1, ?_⟩, h.byt⟩
  rcases h.own.2 with hv | ⟨q, cap, cur, hv, hq, hh, r⟩
  · exact .inl hv
  · exact .inr ⟨q, cap, cur, hv, hq, by rw [hb.block q (Array.getElem?_eq_some_iff.1 hh).1 (by omega)]; exact hh, r⟩
theorem below_gb' {w0 w w' : World} {g : Nat} (hb : Below g w0 w) (h : Gb g w w') (hs : g ≤ w.heap.size) : Below g w0 w' :=
  hb.trans ⟨h.os, h.tape, h.output, h.size, fun k hk => h.block k (by omega) (by omega)⟩
theorem gb_one_drew {w : World} {g i : Nat} {v : Value} : Gb g w (w.setCell ⟨g, i, none⟩ v).drew := ⟨rfl, rfl, rfl, by simp, fun k _ hk => heap_setCell_other _ _ _ _ hk⟩
theorem w64_small {n : Nat} (h : n ≤ 100000) : wrap64 (n : Int) = n ∧ IntKind.i64.wrap (n : Int) = n := by
  constructor
  · unfold wrap64; omega
  · rw [IntKind.wrap_i64]; omega
theorem pdiv8 (i : Nat) : ((i : Int).tdiv 8) = ((i / 8 : Nat) : Int) := by rw [Int.tdiv_eq_ediv_of_nonneg (by omega)]; omega
theorem pmod8 (i : Nat) : ((i : Int).tmod 8) = ((i % 8 : Nat) : Int) := by rw [Int.tmod_eq_emod_of_nonneg (by omega)]; omega

set_option maxHeartbeats 2000000 in
theorem psetNull_any (B g n c : Nat) (l : List Int) (i : Nat) (w : World) (hM : Mine B w (some ⟨g, 0, none⟩) n c l) (hi : i / 8 < n) (hi2 : i ≤ 100000) :
    Calls Try.prog 58 #[.slice (some ⟨g, 0, none⟩) n c, .int .i64 (i : Int)] w fun e w' => e = .returned (.tuple #[]) ∧ ∃ l', Mine B w' (some ⟨g, 0, none⟩) n c l' ∧ (∀ j, bit l' j = (bit l j || decide (j = i))) ∧ Gb g w w' := by
  obtain ⟨y, hy, y0, y1, hbit⟩ := bit_or hM.byt (i := i) (by rw [hM.len]; exact hi)
  have hq : i / 8 ≤ 100000 := by omega
  have hr : i % 8 < 8 := Nat.mod_lt _ (by decide)
  have hio := run_idxOwn' g n c hi ((i / 8 : Nat) : Int) rfl
  have cc := mine_cell' hM hi
  have fr := hM.free (i / 8)
  have gB := hM.block
  have HS := hide (hM.stored (i / 8) y y0 y1)
  have HB := hide hbit
  have e1 := pdiv8 i
  have e2 := pmod8 i
  clear hM hbit y0 y1
  generalize i / 8 = q at hi hq hio cc fr HS e1 hy HB
  generalize i % 8 = r at hr e2 hy
  generalize l[q]?.getD 0 = X at cc hy
  obtain ⟨z1, z2⟩ := w64_small hq
  obtain ⟨R, hR⟩ : ∃ z : Int, z = (r : Int) := ⟨_, rfl⟩
  rw [← hR] at e2
  have hr' : (R = 0 ∧ r = 0) ∨ (R = 1 ∧ r = 1) ∨ (R = 2 ∧ r = 2) ∨ (R = 3 ∧ r = 3) ∨ (R = 4 ∧ r = 4) ∨ (R = 5 ∧ r = 5) ∨ (R = 6 ∧ r = 6) ∨ (R = 7 ∧ r = 7) := by
    clear e1 e2 z1 z2 hy hio cc fr gB
    omega
  clear hr hR
  rcases hr' with ⟨rfl, rfl⟩ | ⟨rfl, rfl⟩ | ⟨rfl, rfl⟩ | ⟨rfl, rfl⟩ | ⟨rfl, rfl⟩ | ⟨rfl, rfl⟩ | ⟨rfl, rfl⟩ | ⟨rfl, rfl⟩
  all_goals
    simp only [Int.reducePow] at hy
    go_enter Try.func58, Try.ntmps58
    go_wp2_with fail
    go_region
    all_goals go_wp2_with fail
    all_goals go_end0
    all_goals exact ⟨rfl, _, mine_drew' (unhide HS), unhide HB, gb_one_drew⟩

set_option maxHeartbeats 4000000 in
set_option maxRecDepth 100000 in
theorem mkNull_any (lo : Option Addr) (ln lc : Nat) (ao : Option Addr) (n c : Nat) (l : List Int) (i : Nat) (w : World) (h : Bs w ao n c l) (hi : i / 8 < n) (hi2 : i ≤ 100000) :
    Calls Try.prog 44 #[.agg #[.slice ao n c, .slice lo ln lc], .int .i64 (i : Int)] w fun e w' => e = .returned (.bool (bit l i)) ∧ Below w.heap.size w w' := by
  have hq2 : i / 8 ≤ 100000 := by omega
  obtain ⟨z1, z2⟩ := w64_small hq2
  have b1 := below_alloc w (.cells #[.slice ao n c, .slice lo ln lc] 54)
  have r1 := heap_alloc_new w (.cells #[.slice ao n c, .slice lo ln lc] 54)
  have k0 := vrow_cell r1 (j := 0) (v := .slice ao n c) rfl
  have B1 := hide b1
  obtain ⟨b, o, hix, hcx⟩ := (h.later b1).idx hi ((i / 8 : Nat) : Int) rfl
  clear b1 r1
  have hg := bit_get h.byt i
  have hB := h.byt.at (i / 8)
  have e1 := pdiv8 i
  have e2 := pmod8 i
  have hr : i % 8 < 8 := Nat.mod_lt _ (by decide)
  generalize bit l i = BT at *
  have hle := h.le
  have hmx := h.max
  generalize i / 8 = q at *
  generalize i % 8 = r at hr e2 hg
  generalize l[q]?.getD 0 = X at *
  obtain ⟨R, hR⟩ : ∃ z : Int, z = (r : Int) := ⟨_, rfl⟩
  rw [← hR] at e2
  have hr' : (R = 0 ∧ r = 0) ∨ (R = 1 ∧ r = 1) ∨ (R = 2 ∧ r = 2) ∨ (R = 3 ∧ r = 3) ∨ (R = 4 ∧ r = 4) ∨ (R = 5 ∧ r = 5) ∨ (R = 6 ∧ r = 6) ∨ (R = 7 ∧ r = 7) := by
    clear e1 e2 z1 z2 hg hix hcx hB
    omega
  clear hr hR h
  rcases hr' with ⟨rfl, rfl⟩ | ⟨rfl, rfl⟩ | ⟨rfl, rfl⟩ | ⟨rfl, rfl⟩ | ⟨rfl, rfl⟩ | ⟨rfl, rfl⟩ | ⟨rfl, rfl⟩ | ⟨rfl, rfl⟩ <;> cases BT
  all_goals
    simp only [Int.reducePow, Int.ediv_one, if_true, Bool.false_eq_true, reduceIte] at hg
    go_enter Try.func44, Try.ntmps44
    go_wp2_with fail
    go_ret
    exact ⟨rfl, unhide B1⟩


set_option maxHeartbeats 4000000 in
set_option maxRecDepth 100000 in
theorem mkLong_any (lo : Option Addr) (ln lc : Nat) (l : List Bool) (no : Option Addr) (nn nc : Nat) (i : Nat) (w : World) (h : Bls w lo ln lc l) (hi : i ≤ 100000) :
    Calls Try.prog 45 #[.agg #[.slice no nn nc, .slice lo ln lc], .int .i64 (i : Int)] w fun e w' => e = .returned (.bool (l.getD i false)) ∧ Below w.heap.size w w' := by
  have b1 := below_alloc w (.cells #[.slice no nn nc, .slice lo ln lc] 54)
  have r1 := heap_alloc_new w (.cells #[.slice no nn nc, .slice lo ln lc] 54)
  have k0 := vrow_cell r1 (j := 1) (v := .slice lo ln lc) rfl
  have hle := h.le
  have hmx := h.max
  have hln := h.len
  have B1 := hide b1
  by_cases hlt : i < ln
  · have g1 : ((i : Nat) : Int) < (ln : Int) := by omega
    obtain ⟨p, hp⟩ : ∃ p, l[i]? = some p := ⟨_, List.getElem?_eq_getElem (by omega)⟩
    obtain ⟨b, o, hix, hat⟩ := (h.later b1).idx hp (i : Int) rfl
    have k1 : (w.alloc (.cells #[.slice no nn nc, .slice lo ln lc] 54)).cell? ⟨b, o, none⟩ = some (.bool p) := hat 0 (by decide)
    have HE := hide (show l.getD i false = p by rw [List.getD_eq_getElem?_getD, hp]; rfl)
    clear b1 r1 h hat hp
    go_enter Try.func45, Try.ntmps45
    go_wp2_with fail
    go_ret
    exact ⟨by first | rfl | (rw [unhide HE]; rfl), unhide B1⟩
  · have g1 : ¬ ((i : Nat) : Int) < (ln : Int) := by omega
    have HE := hide (show l.getD i false = false by rw [List.getD_eq_getElem?_getD, List.getElem?_eq_none (by omega)]; rfl)
    clear b1 r1 h
    go_enter Try.func45, Try.ntmps45
    go_wp2_with fail
    go_ret
    exact ⟨by first | rfl | (rw [unhide HE]; rfl), unhide B1⟩
theorem ended_any (bo : Option Addr) (bn bc : Nat) (b : List Int) (w : World) (h : Bs w bo bn bc b) : Calls Try.prog 22 #[.slice bo bn bc] w fun e w' => e = .returned (.int .i64 (if b.length = 0 then 0 else 5)) ∧ w' = w := by
  have hl := h.len
  have hle := h.le
  have hmx := h.max
  clear h
  by_cases hz : bn = 0
  · subst hz
    rw [if_pos hl]
    clear hl
    go_enter Try.func22, Try.ntmps22
    go_wp2_with fail
    go_ret
    exact ⟨rfl, rfl⟩
  · rw [if_neg (by omega)]
    have g : (0 : Int) < (bn : Int) := by omega
    clear hl
    go_enter Try.func22, Try.ntmps22
    go_wp2_with fail
    go_ret
    exact ⟨rfl, rfl⟩

end Go.Proofs.Ytfgghgoonfamkaa
