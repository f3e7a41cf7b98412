/-
  Arrays of sixteen ints in memory: a block of its own. Conditions: none.
  What behind, room, counted, firstCodes and Check of package huffman return for any lengths. They write nothing that was there. Conditions: the slice can be read.
  What firstCodes and Codes of package huffman return for any lengths. They write nothing that was there. Conditions: the slice can be read.
  What times and Fixed, of package inflate, answer. They write nothing that was there.
-/
import Derived.Test.YtnoabdafmgmenaaGreatDoorMMem
import Derived.Deep.WholeRow
import Derived.Test.YtnoabdafmgmenaaGreatDoorMPlain
import Derived.Deep.RegionWith
namespace Go.Proofs.YtnoabdafmgmenaaGreatDoor
open Go.RowKit
set_option linter.unusedVariables false
set_option linter.unusedSimpArgs false

/-- The values of a row of ints. -/
def vs (l : List Int) : Array Value := (l.map (Value.int .i64)).toArray

theorem vs_size (l : List Int) : (vs l).size = l.length := by simp [vs]
theorem vs_at (l : List Int) {i : Nat} (h : i < l.length) : (vs l)[i]? = some (.int .i64 (l[i]?.getD 0)) := by
  simp [vs, List.getElem?_eq_getElem h]
theorem vs_set (l : List Int) (i : Nat) (v : Int) : (vs l).setIfInBounds i (.int .i64 v) = vs (l.set i v) := by
  simp [vs]
theorem vs_one (l : List Int) : (vs l).all (·.oneCell') = true := by
  rw [Array.all_eq_true_iff_forall_mem]
  intro v hv
  simp [vs] at hv
  obtain ⟨x, _, rfl⟩ := hv
  rfl

/-- Block g is the array l. -/
def Arr (w : World) (g : Nat) (l : List Int) : Prop := w.heap[g]? = some (.cells (vs l) 166 (0, 0))

theorem Arr.lt {w : World} {g : Nat} {l : List Int} (h : Arr w g l) : g < w.heap.size := (Array.getElem?_eq_some_iff.1 h).1
theorem Arr.later {w w' : World} {g : Nat} {l : List Int} (h : Arr w g l) (hb : Below w.heap.size w w') : Arr w' g l := by
  unfold Arr
  rw [hb.block g h.lt]
  exact h
theorem Arr.cell {w : World} {g : Nat} {l : List Int} (h : Arr w g l) {i : Nat} (hi : i < l.length) : w.cell? ⟨g, i, none⟩ = some (.int .i64 (l[i]?.getD 0)) := by
  rw [cell_of_row w g i _ _ _ h, vs_at l hi]
theorem Arr.free {w : World} {g : Nat} {l : List Int} (h : Arr w g l) (i : Nat) : w.frozen? ⟨g, i, none⟩ = false := frozen_of_row w g i _ _ h
theorem Arr.stored {w : World} {g : Nat} {l : List Int} (h : Arr w g l) (i : Nat) (v : Int) : Arr (w.setCell ⟨g, i, none⟩ (.int .i64 v)) g (l.set i v) := by
  unfold Arr
  rw [heap_setCell_same w g i _ _ _ h, vs_set]
theorem Arr.other {w : World} {g : Nat} {l : List Int} (h : Arr w g l) (a : Addr) (v : Value) (hne : g ≠ a.block) : Arr (w.setCell a v) g l := by
  unfold Arr
  rw [heap_setCell_other w a g v hne]
  exact h

theorem Tryz.arr : Tryz.prog.underlying 166 = some (.array 16 3) := by kernel_rfl
theorem Tryz.arrSize : (Tryz.prog.info? 166).map (·.size) = some 16 := by kernel_rfl
theorem Tryz.arrZero : (Tryz.prog.info? 166).map (fun i => (i.zero, i.size)) = some (some (.agg (vs (List.replicate 16 0))), 16) := by kernel_rfl

def zero16 : List Int := List.replicate 16 0
theorem zero16_len : zero16.length = 16 := by simp [zero16]

/-- A new array. -/
theorem wpList_arrAlloc {ops : Array Oper} {rest : List Oper} {o : Oper} {a : Act} {w : World} {Q : Exit → Act → World → Prop} (hgd : o.guard = none) (ho : o.op = .alloc 166)
    (h : ∀ w1, Arr w1 w.heap.size zero16 → Below w.heap.size w w1 → w1.heap.size = w.heap.size + 1 → wpList Tryz.prog ops Q rest (a.put o.dst (.pointer (some ⟨w.heap.size, 0, none⟩))) w1) : wpList Tryz.prog ops Q (o :: rest) a w := by
  refine wpList_plain hgd fun K hK' => ?_
  have hz := (zero_of_info Tryz.arrZero).1
  unfold Oper.wp
  simp [execOp, ho, Instr.alloc, hz, Result.andThen]
  exact hK' _ _ (h _ (heap_alloc_new w _) (below_alloc w _) (by simp))

/-- A new array that holds a value. -/
theorem wpList_arrBox {ops : Array Oper} {rest : List Oper} {o : Oper} {a : Act} {w : World} {Q : Exit → Act → World → Prop} (hgd : o.guard = none) (x : Operand) (ho : o.op = .box 166 x)
    (l : List Int) (hx : a.eval x = .agg (vs l))
    (h : ∀ w1, Arr w1 w.heap.size l → Below w.heap.size w w1 → w1.heap.size = w.heap.size + 1 → wpList Tryz.prog ops Q rest (a.put o.dst (.pointer (some ⟨w.heap.size, 0, none⟩))) w1) : wpList Tryz.prog ops Q (o :: rest) a w := by
  refine wpList_plain hgd fun K hK' => ?_
  unfold Oper.wp
  simp [execOp, ho, Instr.box, hx, Result.andThen]
  exact hK' _ _ (h _ (heap_alloc_new w _) (below_alloc w _) (by simp))

/-- A whole array is read. -/
theorem wpList_arrLoad {ops : Array Oper} {rest : List Oper} {o : Oper} {a : Act} {w : World} {Q : Exit → Act → World → Prop} (hgd : o.guard = none) (x : Operand) (ho : o.op = .load 166 x)
    (g : Nat) (hx : a.eval x = .pointer (some ⟨g, 0, none⟩)) (l : List Int) (hg : Arr w g l) (hl : l.length = 16)
    (h : wpList Tryz.prog ops Q rest (a.put o.dst (.agg (vs l))) w) : wpList Tryz.prog ops Q (o :: rest) a w :=
  wpList_load_row hgd _ x ho g hx _ (vs l) (0, 0) _ hg Tryz.arr rfl (by rw [vs_size, hl]; exact Tryz.arrSize) h

/-- A whole array is written. -/
theorem wpList_arrStore {ops : Array Oper} {rest : List Oper} {o : Oper} {a : Act} {w : World} {Q : Exit → Act → World → Prop} (hgd : o.guard = none) (x y : Operand) (ho : o.op = .store 166 x y)
    (g : Nat) (l old : List Int) (hx : a.eval x = .pointer (some ⟨g, 0, none⟩)) (hy : a.eval y = .agg (vs l)) (hg : Arr w g old) (hl : l.length = 16) (hold : old.length = 16)
    (h : ∀ w1, Arr w1 g l → (∀ k, k ≠ g → w1.heap[k]? = w.heap[k]?) → w1.heap.size = w.heap.size → Below g w w1 → wpList Tryz.prog ops Q rest (a.put o.dst undef) w1) : wpList Tryz.prog ops Q (o :: rest) a w := by
  refine wpList_store_row hgd _ x y ho g (vs l) hx hy _ (vs old) hg (by rw [vs_size, hl]; exact Tryz.arrSize) (by rw [vs_size, vs_size, hl, hold]) (vs_one l) ?_
  refine h _ (setRow_heap w g _ _ _ _ hg) (fun k hk => setRow_other w g k _ hk) (by simp) ⟨rfl, rfl, rfl, by simp, fun k hk => setRow_other w g k _ (by omega)⟩

end Go.Proofs.YtnoabdafmgmenaaGreatDoor

namespace Go.Proofs.YtnoabdafmgmenaaGreatDoor
open Go.RowKit
set_option linter.unusedVariables false
set_option linter.unusedSimpArgs false

def cts (L : List Int) : List Int := (List.range 16).map (cz L)
theorem cts_len (L : List Int) : (cts L).length = 16 := by simp [cts]
theorem cts_at (L : List Int) {k : Nat} (h : k < 16) : (cts L)[k]?.getD 0 = cz L k := by simp [cts, h]
def sm (L : List Int) : Nat → Int
  | 0 => 0
  | k + 1 => sm L k + cz L k * 2 ^ (15 - k)
theorem sm_eq (L : List Int) : ∀ k : Nat, k ≤ 15 → sm L (k + 1) = 2 ^ (15 - k) * Fl L k
  | 0, _ => by simp [sm, Fl, cz]
  | k + 1, h => by
    have ih := sm_eq L k (by omega)
    rw [sm, ih, show (15 - k) = (15 - (k + 1)) + 1 by omega, Int.pow_succ, Fl]
    generalize (2 : Int) ^ (15 - (k + 1)) = p
    rw [Int.mul_add, Int.mul_assoc, Int.mul_comm (cz L (k + 1)) p]
theorem pow_le15 (k : Nat) : 1 ≤ (2 : Int) ^ (15 - k) ∧ (2 : Int) ^ (15 - k) ≤ 32768 := by
  have h1 : (15 - k) ≤ 15 := by omega
  constructor
  · exact Int.pow_pos (by omega)
  · have := Nat.pow_le_pow_right (show 0 < 2 by omega) h1
    have h2 : (2 : Int) ^ (15 - k) ≤ 2 ^ 15 := by exact_mod_cast this
    omega
theorem term_le (L : List Int) (h : L.length ≤ 320) (k : Nat) : 0 ≤ cz L k * 2 ^ (15 - k) ∧ cz L k * 2 ^ (15 - k) ≤ 10485760 := by
  have h1 := cz_nonneg L k
  have h2 := cz_le L k
  have h3 := pow_le15 k
  have h4 := Int.mul_nonneg h1 (show (0 : Int) ≤ 2 ^ (15 - k) by omega)
  have h5 := Int.mul_le_mul (show cz L k ≤ 320 by omega) h3.2 (by omega) (by omega)
  omega
theorem sm_bd (L : List Int) (h : L.length ≤ 320) : ∀ k, 0 ≤ sm L k ∧ sm L k ≤ 10485760 * k
  | 0 => by simp [sm]
  | k + 1 => by have := sm_bd L h k; have := term_le L h k; simp only [sm]; omega

theorem run_arrAt (l : List Int) (hl : l.length = 16) (k : Nat) (hk : k < 16) (w : World) : (Instr.index 166 (.agg (vs l)) (.int .i64 (k : Int))).run Tryz.prog w = .ok (.int .i64 (l[k]?.getD 0)) w := by
  have hs : ∀ w : World, (sizeOf 3).run Tryz.prog w = .ok 1 w := by intro w; kernel_rfl
  have ha : ∀ w : World, (isAgg 3).run Tryz.prog w = .ok false w := by intro w; kernel_rfl
  have hv := vs_at l (show k < l.length by omega)
  simp only [Instr.index, asIntOf, Sem.run_bind, Sem.run_pure, Result.andThen_ok, run_underlying Tryz.arr]
  rw [if_pos (by omega)]
  simp [hs, part, ha, hv]
set_option maxHeartbeats 400000 in
theorem room_any (L : List Int) (w : World) (hL : L.length ≤ 320) :
    Calls Tryz.prog 128 #[.agg (vs (cts L))] w fun e w' => e = .returned (.int .i64 (32768 - Fl L 15)) ∧ Below w.heap.size w w' := by
  have hA : Arr (w.alloc (.cells (vs (cts L)) 166)) w.heap.size (cts L) := heap_alloc_new w _
  have HA := hide hA
  have HL := hide hL
  clear hA hL
  go_enter Tryz.func128, Tryz.ntmps128
  go_wp2_with (with_reducible show wpList Tryz.prog _ _ (Oper.mk _ (Op.load 166 _) _ _ _ none :: _) _ _; refine wpList_arrLoad rfl (.tmp 1) rfl w.heap.size rfl (cts L) (unhide HA) (cts_len L) ?_)
  go_loop [3, 7] (fun s i => ∃ m : Nat, m ≤ 16 ∧ i = .int .i64 m ∧ s = .int .i64 (32768 - sm L m)) (fun _ i => 16 - (intOf i).toNat)
  case atStart => exact ⟨0, by omega, rfl, by simp [sm]⟩
  case round =>
    obtain ⟨m, hm, rfl, rfl⟩ := hrel
    have hb := sm_bd L (unhide HL) m
    by_cases hlt : m < 16
    · have ix := run_arrAt (cts L) (cts_len L) m hlt
      rw [cts_at L hlt] at ix
      have tl := term_le L (unhide HL) m
      have hs := hide (show sm L (m + 1) = sm L m + cz L m * 2 ^ (15 - m) from rfl)
      generalize hP : cz L m * 2 ^ (15 - m) = P at tl hs
      generalize sm L m = S at hb hs ⊢
      go_wp2
      go_round
      case rel => exact ⟨m + 1, by omega, by go_num, by rw [unhide hs]; congr 1; omega⟩
      case measure => simp [intOf]; omega
    · have he := hide (show sm L 16 = Fl L 15 by rw [sm_eq L 15 (by omega)]; simp)
      go_wp2_with fail
      go_ret
      exact ⟨by rw [show m = 16 by omega, unhide he]; rfl, below_alloc w _⟩

/-- Is a length out of its bounds? -/
def bad (L : List Int) : Bool := L.any fun x => decide (x < 0) || decide (15 < x)
/-- The error of lengths. -/
def cer (L : List Int) : Int := if 320 < L.length then 3 else if bad L = true then 2 else if 32768 < Fl L 15 then 7 else 0
/-- The counts that go with an error. -/
def ctd (L : List Int) : List Int := if cer L = 0 then cts L else zero16
theorem ctd_len (L : List Int) : (ctd L).length = 16 := by unfold ctd; split; exact cts_len L; exact zero16_len
def cfl (l : List Int) : List Int := (List.range 16).map fun k : Nat => (l.count (k : Int) : Int)

theorem not_bad {L : List Int} (h : ∀ i, i < L.length → 0 ≤ ln L i ∧ ln L i ≤ 15) : bad L = false := by
  unfold bad
  rw [List.any_eq_false]
  intro x hx
  obtain ⟨i, hi, rfl⟩ := List.getElem_of_mem hx
  have := h i hi
  simp [ln, List.getElem?_eq_getElem hi] at this
  simp
  omega
theorem is_bad {L : List Int} {i : Nat} (hi : i < L.length) (h : ln L i < 0 ∨ 15 < ln L i) : bad L = true := by
  unfold bad
  rw [List.any_eq_true]
  refine ⟨ln L i, ln_mem hi, ?_⟩
  simp
  omega
theorem good_of {L : List Int} (h : cer L = 0) : Good L := by
  unfold cer at h
  split at h
  · omega
  · split at h
    · omega
    · rename_i hb
      split at h
      · omega
      · refine ⟨by omega, fun x hx => ?_, by omega⟩
        have hb' : bad L = false := by simpa using hb
        unfold bad at hb'
        have := List.any_eq_false.1 hb' x hx
        simp at this
        omega
theorem cfl_len (l : List Int) : (cfl l).length = 16 := by simp [cfl]
theorem cfl_at (l : List Int) {k : Nat} (h : k < 16) : (cfl l)[k]?.getD 0 = (l.count (k : Int) : Int) := by simp [cfl, h]
theorem list_ext16 {a b : List Int} (ha : a.length = 16) (hb : b.length = 16) (h : ∀ k, k < 16 → a[k]?.getD 0 = b[k]?.getD 0) : a = b := by
  apply List.ext_getElem (by omega)
  intro k h1 h2
  have := h k (by omega)
  simpa [List.getElem?_eq_getElem h1, List.getElem?_eq_getElem h2] using this
theorem getD_set (l : List Int) (i : Nat) (v : Int) (k : Nat) (hi : i < l.length) : (l.set i v)[k]?.getD 0 = if k = i then v else l[k]?.getD 0 := by
  rw [List.getElem?_set]
  by_cases h : i = k
  · subst h
    simp [hi]
  · rw [if_neg h, if_neg (by omega)]
theorem cfl_step (l : List Int) (k : Nat) (hk : k < 16) (v : Int) (hv : v = (l.count (k : Int) : Int) + 1) : (cfl l).set k v = cfl (l ++ [(k : Int)]) := by
  refine list_ext16 (by simp [cfl_len]) (cfl_len _) fun j hj => ?_
  rw [getD_set _ _ _ _ (by rw [cfl_len]; exact hk), cfl_at _ hj, cfl_at _ hj, List.count_append, List.count_singleton]
  by_cases h : j = k
  · subst h; simp [hv]
  · rw [if_neg h]
    have : ((k : Int) == (j : Int)) = false := by simp; omega
    simp [this]
theorem cfl_end (L : List Int) : (cfl L).set 0 0 = cts L := by
  refine list_ext16 (by simp [cfl_len]) (cts_len _) fun j hj => ?_
  rw [getD_set _ _ _ _ (by rw [cfl_len]; omega), cfl_at _ hj, cts_at _ hj]
  unfold cz
  by_cases h : j = 0 <;> simp [h]
theorem cfl_nil : cfl [] = zero16 := by rfl

theorem results_arr2 {fn : Func} {p q : Tmp} (h : fn.results = #[.cell p 166, .tmp q]) (tmps : Array Value) (w : World) (g : Nat) (l : List Int) (hl : l.length = 16)
    (hp : tmps.getD p undef = .pointer (some ⟨g, 0, none⟩)) (hg : Arr w g l) :
    (results fn tmps).run Tryz.prog w = .ok (.tuple #[.agg (vs l), tmps.getD q undef]) w := by
  have hp' : tmps[p]?.getD undef = .pointer (some ⟨g, 0, none⟩) := by simpa using hp
  have hl' := run_loadVar_row (P := Tryz.prog) w g _ 166 (vs l) (0, 0) _ hg Tryz.arr rfl (by rw [vs_size, hl]; exact Tryz.arrSize)
  simp [results, h, hp', asAddr, hl']
theorem results_arr1 {fn : Func} {p : Tmp} (h : fn.results = #[.cell p 166]) (tmps : Array Value) (w : World) (g : Nat) (l : List Int) (hl : l.length = 16)
    (hp : tmps.getD p undef = .pointer (some ⟨g, 0, none⟩)) (hg : Arr w g l) :
    (results fn tmps).run Tryz.prog w = .ok (.agg (vs l)) w :=
  results_cell_row h tmps w g _ (vs l) (0, 0) _ hp hg Tryz.arr rfl (by rw [vs_size, hl]; exact Tryz.arrSize)

set_option maxHeartbeats 400000 in
theorem behind_any (f k : Int) (w : World) (h0 : 0 ≤ f) (h1 : f ≤ 100000000) (k0 : 0 ≤ k) (k1 : k ≤ 100000000) :
    Calls Tryz.prog 129 #[.int .i64 f, .int .i64 k] w fun e w' => e = .returned (.int .i64 ((f + k) * 2)) ∧ w' = w := by
  go_enter Tryz.func129, Tryz.ntmps129
  go_wp2_with fail
  go_ret
  exact ⟨rfl, rfl⟩

set_option maxHeartbeats 1000000 in
theorem counted_any (ao : Option Addr) (n c : Nat) (L : List Int) (w : World) (h : Is w ao n c L) :
    Calls Tryz.prog 122 #[.slice ao n c] w fun e w' => e = .returned (.tuple #[.agg (vs (ctd L)), .int .i64 (cer L)]) ∧ Below w.heap.size w w' := by
  have hlen := hide h.len
  have hmax := h.max
  have hle := h.le
  have H := hide h
  clear h
  by_cases hbig : (320 : Int) < (n : Int)
  · have he := hide (show cer L = 3 by unfold cer; rw [if_pos (by rw [unhide hlen]; omega)])
    have hc := hide (show ctd L = zero16 by unfold ctd; rw [unhide he]; rfl)
    rw [unhide he, unhide hc]
    go_enter Tryz.func122, Tryz.ntmps122
    go_wp2_with (first
      | (with_reducible show wpList Tryz.prog _ _ (Oper.mk _ (Op.store 166 _ _) _ _ _ none :: _) _ _; refine wpList_arrStore rfl (.tmp 2) (.tmp 10) rfl w.heap.size zero16 zero16 rfl rfl (a1.later b2) zero16_len zero16_len ?_; intro w3 a3 o3 s3 b3)
      | (with_reducible show wpList Tryz.prog _ _ (Oper.mk _ (Op.alloc 166) _ _ _ none :: _) _ _; refine wpList_arrAlloc rfl rfl ?_; first | (intro w2 a2 b2 s2; have a1' := a1; clear a2) | (intro w1 a1 b1 s1)))
    refine bodyPost_ret (results_arr2 rfl _ _ w.heap.size zero16 zero16_len rfl a3) rfl ?_
    exact ⟨rfl, (b1.trans (b2.mono (by omega))).trans b3⟩
  · go_enter Tryz.func122, Tryz.ntmps122
    go_wp2_with (with_reducible show wpList Tryz.prog _ _ (Oper.mk _ (Op.alloc 166) _ _ _ none :: _) _ _; refine wpList_arrAlloc rfl rfl ?_; first | (intro w2 a2 b2 s2; have a1' := a1; clear a1) | (intro w1 a1 b1 s1))
    rw [s1] at a2
    have a2' : Arr w2 (w.heap.size + 1) (cfl (L.take 0)) := by rw [List.take_zero, cfl_nil]; exact a2
    have a1'' := a1'.later b2
    have b12 : Below w.heap.size w w2 := b1.trans (b2.mono (by omega))
    have s12 : w2.heap.size = w.heap.size + 2 := by omega
    clear a1' a2 b1 b2 s1 s2
    clear w1
    go_loopw [13] (fun i wr => ∃ m : Nat, m ≤ n ∧ i = .int .i64 m ∧ (∀ j, j < m → 0 ≤ ln L j ∧ ln L j ≤ 15) ∧ Arr wr (w.heap.size + 1) (cfl (L.take m)) ∧ Arr wr w.heap.size zero16 ∧ Below w.heap.size w wr ∧ wr.heap.size = w.heap.size + 2) (fun i _ => n - (intOf i).toNat)
    case atStart => exact ⟨0, by omega, rfl, fun j hj => by omega, a2', a1'', b12, s12⟩
    case round =>
      clear a2' a1'' b12 s12
      obtain ⟨m, hm, rfl, hgood, ha, hz, hbel, hsz⟩ := hrel
      have HG := hide hgood
      clear hgood
      by_cases hlt : m < n
      · obtain ⟨b, o, hix, hcx⟩ := ((unhide H).later hbel).idx hlt (m : Int) rfl
        have hmL := hide (show m < L.length by rw [unhide hlen]; exact hlt)
        obtain ⟨x, hx⟩ : ∃ x, x = ln L m := ⟨_, rfl⟩
        have hx2 := hide (show x = L[m]?.getD 0 from hx)
        have HX := hide hx
        clear hx
        rw [← unhide hx2] at hcx
        by_cases hout : x < 0 ∨ 15 < x
        · have he := hide (show cer L = 2 by unfold cer; rw [if_neg (by rw [unhide hlen]; omega), if_pos (is_bad (unhide hmL) (by rw [← unhide HX]; exact hout))])
          have hc := hide (show ctd L = zero16 by unfold ctd; rw [unhide he]; rfl)
          rcases hout with hout | hout
          · go_wp2_with (with_reducible show wpList Tryz.prog _ _ (Oper.mk _ (Op.store 166 _ _) _ _ _ none :: _) _ _; refine wpList_arrStore rfl (.tmp 2) (.tmp 23) rfl w.heap.size zero16 zero16 rfl rfl hz zero16_len zero16_len ?_; intro w3 a3 o3 s3 b3)
            refine bodyPost_ret (results_arr2 rfl _ _ w.heap.size zero16 zero16_len rfl a3) rfl ?_
            exact ⟨by rw [unhide he, unhide hc]; rfl, hbel.trans b3⟩
          · go_wp2_with (with_reducible show wpList Tryz.prog _ _ (Oper.mk _ (Op.store 166 _ _) _ _ _ none :: _) _ _; refine wpList_arrStore rfl (.tmp 2) (.tmp 23) rfl w.heap.size zero16 zero16 rfl rfl hz zero16_len zero16_len ?_; intro w3 a3 o3 s3 b3)
            refine bodyPost_ret (results_arr2 rfl _ _ w.heap.size zero16 zero16_len rfl a3) rfl ?_
            exact ⟨by rw [unhide he, unhide hc]; rfl, hbel.trans b3⟩
        · obtain ⟨k, hk⟩ : ∃ k : Nat, x = (k : Int) := ⟨x.toNat, by omega⟩
          have hk16 : k < 16 := by omega
          subst hk
          have hcc := ha.cell (i := k) (by rw [cfl_len]; exact hk16)
          rw [cfl_at _ hk16] at hcc
          have hfr := ha.free k
          have hcount : (L.take m).count (k : Int) ≤ 320 := Nat.le_trans List.count_le_length (by simp; omega)
          have hst := hide (cfl_step (L.take m) k hk16 _ rfl)
          generalize hV : ((L.take m).count (k : Int) : Int) = V at hcc hst
          have hV0 : 0 ≤ V := by omega
          have hV1 : V ≤ 320 := by omega
          clear hV
          have HA := hide ha
          have HZ := hide hz
          clear ha hz
          go_wp2_with fail
          go_roundw
          case rel =>
            refine ⟨m + 1, by omega, by go_num, fun j hj => ?_, ?_, (unhide HZ).other _ _ (by simp), hbel.setCell (by simp) _, by simpa using hsz⟩
            · by_cases hjm : j = m
              · rw [hjm, ← unhide HX]; omega
              · exact unhide HG j (by omega)
            · rw [take_snoc (unhide hmL), ← unhide HX, ← unhide hst]
              exact (unhide HA).stored k _
          case measure => simp [intOf]; omega
      · have hmn : m = n := by omega
        have hL : L.length ≤ 320 := by rw [unhide hlen]; omega
        have hT : L.take m = L := List.take_of_length_le (by rw [unhide hlen]; omega)
        rw [hT] at ha
        have hcc := ha.cell (i := 0) (by rw [cfl_len]; omega)
        have hfr := ha.free 0
        have ha2 := ha.stored 0 0
        rw [cfl_end] at ha2
        have HA := hide ha2
        have HZ := hide (hz.other ⟨w.heap.size + 1, 0, none⟩ (.int .i64 0) (by simp))
        have HB := hide (hbel.setCell (p := ⟨w.heap.size + 1, 0, none⟩) (by simp) (.int .i64 0))
        have hb2 := hide (show bad L = false from not_bad fun j hj => unhide HG j (by rw [unhide hlen] at hj; omega))
        have HL := hide hL
        clear ha ha2 hz hT hL
        go_wp2_with (with_reducible show wpList Tryz.prog _ _ (Oper.mk _ (Op.load 166 _) _ _ _ none :: _) _ _; refine wpList_arrLoad rfl (.tmp 4) rfl (w.heap.size + 1) rfl (cts L) (unhide HA) (cts_len L) ?_)
        refine (room_any L _ (unhide HL)).mono ?_
        rintro e w4 ⟨rfl, hb4⟩
        have a4 := hide ((unhide HA).later hb4)
        have z4 := hide ((unhide HZ).later hb4)
        have s4 : w.heap.size + 2 ≤ w4.heap.size := by have := hb4.size; simp at this; omega
        have b4 : Below w.heap.size w w4 := (unhide HB).trans (hb4.mono (by simp; omega))
        clear hb4
        by_cases hfull : 32768 < Fl L 15
        · have he := hide (show cer L = 7 by unfold cer; rw [if_neg (by have := unhide HL; omega), unhide hb2, if_neg (by simp), if_pos hfull])
          have hc := hide (show ctd L = zero16 by unfold ctd; rw [unhide he]; rfl)
          go_wp2_with (with_reducible show wpList Tryz.prog _ _ (Oper.mk _ (Op.store 166 _ _) _ _ _ none :: _) _ _; refine wpList_arrStore rfl (.tmp 2) (.tmp 34) rfl w.heap.size zero16 zero16 rfl rfl (unhide z4) zero16_len zero16_len ?_; intro w5 a5 o5 s5 b5)
          refine bodyPost_ret (results_arr2 rfl _ _ w.heap.size zero16 zero16_len rfl a5) rfl ?_
          exact ⟨by rw [unhide he, unhide hc]; rfl, b4.trans b5⟩
        · have he := hide (show cer L = 0 by unfold cer; rw [if_neg (by have := unhide HL; omega), unhide hb2, if_neg (by simp), if_neg hfull])
          have hc := hide (show ctd L = cts L by unfold ctd; rw [unhide he]; rfl)
          go_wp2_with (first
            | (with_reducible show wpList Tryz.prog _ _ (Oper.mk _ (Op.load 166 _) _ _ _ none :: _) _ _; refine wpList_arrLoad rfl (.tmp 4) rfl (w.heap.size + 1) rfl (cts L) (unhide a4) (cts_len L) ?_)
            | (with_reducible show wpList Tryz.prog _ _ (Oper.mk _ (Op.store 166 _ _) _ _ _ none :: _) _ _; refine wpList_arrStore rfl (.tmp 2) (.tmp 35) rfl w.heap.size (cts L) zero16 rfl rfl (unhide z4) (cts_len L) zero16_len ?_; intro w5 a5 o5 s5 b5))
          refine bodyPost_ret (results_arr2 rfl _ _ w.heap.size (cts L) (cts_len L) rfl a5) rfl ?_
          exact ⟨by rw [unhide he, unhide hc]; rfl, b4.trans b5⟩

/-- What Check answers. -/
def whole (L : List Int) : Bool := decide (cer L = 0) && decide (Fl L 15 = 32768)

set_option maxHeartbeats 1000000 in
theorem check_any (ao : Option Addr) (n c : Nat) (L : List Int) (w : World) (h : Is w ao n c L) :
    Calls Tryz.prog 127 #[.slice ao n c] w fun e w' => e = .returned (.tuple #[.bool (whole L), .int .i64 (cer L)]) ∧ Below w.heap.size w w' := by
  have H := hide h
  clear h
  go_enter Tryz.func127, Tryz.ntmps127
  go_wp2_with fail
  refine (counted_any _ _ _ _ _ (unhide H)).mono ?_
  rintro e w1 ⟨rfl, b1⟩
  by_cases he : cer L = 0
  · have hc := hide (show ctd L = cts L by unfold ctd; rw [he]; rfl)
    have hg := hide (good_of he)
    have hw := hide (show whole L = (32768 - Fl L 15 == 0) by unfold whole; rw [he]; by_cases q : Fl L 15 = 32768 <;> simp [q] <;> omega)
    rw [unhide hc]
    go_wp2_with (first
      | (with_reducible show wpList Tryz.prog _ _ (Oper.mk _ (Op.store 166 _ _) _ _ _ none :: _) _ _; refine wpList_arrStore rfl (.tmp 4) (.tmp 8) rfl w1.heap.size (cts L) zero16 rfl rfl a2 (cts_len L) zero16_len ?_; intro w3 a3 o3 s3 b3)
      | (with_reducible show wpList Tryz.prog _ _ (Oper.mk _ (Op.alloc 166) _ _ _ none :: _) _ _; refine wpList_arrAlloc rfl rfl ?_; intro w2 a2 b2 s2)
      | (with_reducible show wpList Tryz.prog _ _ (Oper.mk _ (Op.load 166 _) _ _ _ none :: _) _ _; refine wpList_arrLoad rfl (.tmp 4) rfl w1.heap.size rfl (cts L) a3 (cts_len L) ?_))
    refine (room_any L _ (unhide hg).len).mono ?_
    rintro e w4 ⟨rfl, hb4⟩
    go_wp2_with fail
    go_ret2
    refine ⟨by rw [unhide hw, he]; rfl, ((b1.trans (b2.mono b1.size)).trans (b3.mono b1.size)).trans (hb4.mono ?_)⟩
    have := b1.size
    omega
  · have he' : (cer L != 0) = true := by simpa using he
    have hw := hide (show whole L = false by unfold whole; simp [he])
    go_wp2_with (first
      | (with_reducible show wpList Tryz.prog _ _ (Oper.mk _ (Op.store 166 _ _) _ _ _ none :: _) _ _; refine wpList_arrStore rfl (.tmp 4) (.tmp 8) rfl w1.heap.size (ctd L) zero16 rfl rfl a2 (ctd_len L) zero16_len ?_; intro w3 a3 o3 s3 b3)
      | (with_reducible show wpList Tryz.prog _ _ (Oper.mk _ (Op.alloc 166) _ _ _ none :: _) _ _; refine wpList_arrAlloc rfl rfl ?_; intro w2 a2 b2 s2))
    go_ret2
    exact ⟨by rw [unhide hw]; rfl, (b1.trans (b2.mono b1.size)).trans (b3.mono b1.size)⟩
end Go.Proofs.YtnoabdafmgmenaaGreatDoor

namespace Go.Proofs.YtnoabdafmgmenaaGreatDoor
open Go.RowKit
set_option linter.unusedVariables false
set_option linter.unusedSimpArgs false

/-- The first codes of the lengths below m. -/
def fcl (L : List Int) (m : Nat) : List Int := (List.range 16).map fun k => if k < m then fc L k else 0
theorem fcl_len (L : List Int) (m : Nat) : (fcl L m).length = 16 := by simp [fcl]
theorem fcl_at (L : List Int) (m : Nat) {k : Nat} (h : k < 16) : (fcl L m)[k]?.getD 0 = if k < m then fc L k else 0 := by simp [fcl, h]
theorem fcl_one (L : List Int) : fcl L 1 = zero16 := by
  refine list_ext16 (fcl_len _ _) zero16_len fun k hk => ?_
  rw [fcl_at L 1 hk]
  by_cases h : k < 1
  · rw [if_pos h, show k = 0 by omega]; rfl
  · rw [if_neg h]; unfold zero16; rw [List.getElem?_replicate]; simp [hk]
theorem fcl_step (L : List Int) (m : Nat) (hm : m < 16) : (fcl L m).set m (fc L m) = fcl L (m + 1) := by
  refine list_ext16 (by simp [fcl_len]) (fcl_len _ _) fun k hk => ?_
  rw [getD_set _ _ _ _ (by rw [fcl_len]; exact hm), fcl_at L m hk, fcl_at L _ hk]
  by_cases h : k = m
  · subst h; simp
  · rw [if_neg h]
    by_cases h2 : k < m
    · rw [if_pos h2, if_pos (by omega)]
    · rw [if_neg h2, if_neg (by omega)]

set_option maxHeartbeats 1000000 in
theorem firstCodes_any (L : List Int) (w : World) (hG : Good L) :
    Calls Tryz.prog 123 #[.agg (vs (cts L))] w fun e w' => e = .returned (.agg (vs (fcl L 16))) ∧ Below w.heap.size w w' := by
  have HG := hide hG
  clear hG
  go_enter Tryz.func123, Tryz.ntmps123
  go_wp2_with (first
    | (with_reducible show wpList Tryz.prog _ _ (Oper.mk _ (Op.box 166 _) _ _ _ none :: _) _ _; refine wpList_arrBox rfl (.tmp 0) rfl (cts L) rfl ?_; intro w1 a1 b1 s1)
    | (with_reducible show wpList Tryz.prog _ _ (Oper.mk _ (Op.alloc 166) _ _ _ none :: _) _ _; refine wpList_arrAlloc rfl rfl ?_; first | (intro w3 a3 b3 s3; have a2' := a2; clear a2) | (intro w2 a2 b2 s2; have a1' := a1; clear a1)))
  rw [s1] at a2'
  rw [s2, s1] at a3
  have A1 : Arr w3 w.heap.size (cts L) := (a1'.later b2).later b3
  have A2 : Arr w3 (w.heap.size + 1) zero16 := a2'.later b3
  have A3 : Arr w3 (w.heap.size + 2) (fcl L 1) := by rw [fcl_one]; exact a3
  have bb : Below w.heap.size w w3 := (b1.trans (b2.mono (by omega))).trans (b3.mono (by omega))
  have ss : w3.heap.size = w.heap.size + 3 := by omega
  clear a1' a2' a3 b1 b2 b3 s1 s2 s3
  clear w1 w2
  go_loopw [4] (fun i wr => ∃ m : Nat, 1 ≤ m ∧ m ≤ 16 ∧ i = .int .i64 m ∧ Arr wr w.heap.size (cts L) ∧ Arr wr (w.heap.size + 1) zero16 ∧ Arr wr (w.heap.size + 2) (fcl L m) ∧ Below w.heap.size w wr ∧ wr.heap.size = w.heap.size + 3) (fun i _ => 16 - (intOf i).toNat)
  case atStart => exact ⟨1, by omega, by omega, rfl, A1, A2, A3, bb, ss⟩
  case round =>
    clear A1 A2 A3 bb ss
    obtain ⟨m, hm1, hm, rfl, ha, hz, hf, hbel, hsz⟩ := hrel
    by_cases hlt : m < 16
    · obtain ⟨k, rfl⟩ : ∃ k, m = k + 1 := ⟨m - 1, by omega⟩
      have c1 := ha.cell (i := k) (by rw [cts_len]; omega)
      rw [cts_at L (by omega)] at c1
      have c2 := hf.cell (i := k) (by rw [fcl_len]; omega)
      rw [fcl_at L (k + 1) (by omega), if_pos (by omega)] at c2
      have c3 := hf.cell (i := k + 1) (by rw [fcl_len]; omega)
      have fr := hf.free (k + 1)
      have b1 := fc_nonneg L k
      have b2 := cz_nonneg L k
      have b3 := (unhide HG).small (show k ≤ 15 by omega)
      have hst := hide (fc_step L k)
      rw [Fl_eq] at b3
      have HA := hide ha
      have HZ := hide hz
      have HF := hide hf
      clear ha hz hf
      have hk16 : (k : Int) < 15 := by omega
      generalize hX : fc L k = X at *
      generalize hY : cz L k = Y at *
      have cb := hide (fun w => behind_any X Y w b1 (by omega) b2 (by omega))
      have e1 : wrap64 (k : Int) = (k : Int) := IntWalk.wrap64_in _ (by omega)
      have e2 : IntKind.i64.wrap (k : Int) = (k : Int) := by rw [IntWalk.i64_left]; exact e1
      have i1 : 0 ≤ (k : Int) ∧ (k : Int) < 16 := by omega
      have i2 : 0 ≤ (k : Int) + 1 ∧ (k : Int) + 1 < 16 := by omega
      clear hlt hm hm1
      go_wp2_with fail
      go_region_with (go_at_call 129; refine same_world (unhide cb _) ?_)
      all_goals go_wp2_with fail
      all_goals go_roundw
      all_goals first
        | (refine ⟨k + 1 + 1, by omega, by omega, by go_num, (unhide HA).other _ _ (by simp <;> omega), (unhide HZ).other _ _ (by simp), ?_, (hbel.setCell (by simp <;> omega) _).drew, by simpa using hsz⟩
           rw [← fcl_step L (k + 1) (by omega), unhide hst]
           exact (unhide HF).stored (k + 1) _)
        | (simp [intOf]; omega)
    · have hm16 : m = 16 := by omega
      have HF := hide (show Arr wr (w.heap.size + 2) (fcl L 16) by rw [← hm16]; exact hf)
      have HZ := hide hz
      clear hf hz ha
      go_wp2_with (first
        | (with_reducible show wpList Tryz.prog _ _ (Oper.mk _ (Op.load 166 _) _ _ _ none :: _) _ _; refine wpList_arrLoad rfl (.tmp 3) rfl (w.heap.size + 2) rfl (fcl L 16) (unhide HF) (fcl_len L 16) ?_)
        | (with_reducible show wpList Tryz.prog _ _ (Oper.mk _ (Op.store 166 _ _) _ _ _ none :: _) _ _; refine wpList_arrStore rfl (.tmp 2) (.tmp 20) rfl (w.heap.size + 1) (fcl L 16) zero16 rfl rfl (unhide HZ) (fcl_len L 16) zero16_len ?_; intro w5 a5 o5 s5 b5))
      refine bodyPost_ret (results_arr1 rfl _ _ (w.heap.size + 1) (fcl L 16) (fcl_len L 16) rfl a5) rfl ?_
      exact ⟨rfl, hbel.trans (b5.mono (by omega))⟩

/-- The next code of each length, behind m symbols. -/
def nxt (L : List Int) (m : Nat) : List Int := (List.range 16).map fun k => if k = 0 then 0 else fc L k + ((L.take m).count (k : Int) : Int)
theorem nxt_len (L : List Int) (m : Nat) : (nxt L m).length = 16 := by simp [nxt]
theorem nxt_at (L : List Int) (m : Nat) {k : Nat} (h : k < 16) (h0 : k ≠ 0) : (nxt L m)[k]?.getD 0 = fc L k + ((L.take m).count (k : Int) : Int) := by simp [nxt, h, h0]
theorem nxt_at' (L : List Int) (m : Nat) {k : Nat} (h : k < 16) : (nxt L m)[k]?.getD 0 = if k = 0 then 0 else fc L k + ((L.take m).count (k : Int) : Int) := by simp [nxt, h]
theorem nxt_zero (L : List Int) : fcl L 16 = nxt L 0 := by
  refine list_ext16 (fcl_len _ _) (nxt_len _ _) fun k hk => ?_
  rw [fcl_at L 16 hk, nxt_at' L 0 hk, if_pos hk]
  by_cases h : k = 0
  · subst h; rfl
  · simp [h]
theorem nxt_step (L : List Int) {m : Nat} (hm : m < L.length) (k : Nat) (hk : k < 16) (h0 : k ≠ 0) (hl : ln L m = (k : Int)) (v : Int) (hv : v = fc L k + ((L.take m).count (k : Int) : Int) + 1) : (nxt L m).set k v = nxt L (m + 1) := by
  refine list_ext16 (by simp [nxt_len]) (nxt_len _ _) fun j hj => ?_
  rw [getD_set _ _ _ _ (by rw [nxt_len]; exact hk), nxt_at' L m hj, nxt_at' L (m + 1) hj, count_take_succ L hm, hl]
  by_cases h : j = k
  · subst h; simp [hv, h0]; omega
  · rw [if_neg h, if_neg (show ¬ (k : Int) = (j : Int) by omega)]
    simp
theorem nxt_skip (L : List Int) {m : Nat} (hm : m < L.length) (hl : ln L m = 0) : nxt L (m + 1) = nxt L m := by
  refine list_ext16 (nxt_len _ _) (nxt_len _ _) fun j hj => ?_
  rw [nxt_at' L m hj, nxt_at' L (m + 1) hj, count_take_succ L hm, hl]
  by_cases h : j = 0
  · simp [h]
  · rw [if_neg h, if_neg h, if_neg (show ¬ (0 : Int) = (j : Int) by omega)]
    simp

/-- The codes of all symbols. -/
def cds (L : List Int) : List Int := (List.range L.length).map (code L)
def cdu (L : List Int) (m : Nat) : List Int := (List.range L.length).map fun i => if i < m then code L i else 0
theorem cdu_zero (L : List Int) : cdu L 0 = List.replicate L.length 0 := by
  apply List.ext_getElem (by simp [cdu])
  intro i h1 h2
  simp [cdu]
theorem cdu_end (L : List Int) : cdu L L.length = cds L := by
  apply List.ext_getElem (by simp [cdu, cds])
  intro i h1 h2
  have hi : i < L.length := by simpa [cds] using h2
  simp [cdu, cds, hi]
theorem cdu_step (L : List Int) {m : Nat} (hm : m < L.length) : (cdu L m).set m (code L m) = cdu L (m + 1) := by
  apply List.ext_getElem (by simp [cdu])
  intro i h1 h2
  simp [cdu] at h2
  rw [List.getElem_set]
  by_cases h : m = i
  · subst h; simp [cdu]
  · rw [if_neg h]
    simp only [cdu, List.getElem_map, List.getElem_range]
    by_cases h3 : i < m
    · rw [if_pos h3, if_pos (by omega)]
    · rw [if_neg h3, if_neg (by omega)]
theorem cds_len (L : List Int) : (cds L).length = L.length := by simp [cds]
theorem cds_at (L : List Int) {i : Nat} (h : i < L.length) : (cds L)[i]?.getD 0 = code L i := by simp [cds, h]
theorem code_bd {L : List Int} (hG : Good L) {i : Nat} (hi : i < L.length) : -1 ≤ code L i ∧ code L i < 32768 := by
  have hf := hG.fit _ (ln_mem hi)
  by_cases h0 : ln L i = 0
  · unfold code; rw [if_pos h0]; omega
  · obtain ⟨k, hk⟩ : ∃ k : Nat, ln L i = (k : Int) := ⟨(ln L i).toNat, by omega⟩
    have h1 := code_lt L hi k hk (by omega)
    have h2 := fc_nonneg L k
    have h3 := hG.small (k := k) (by omega)
    omega

/-- What Codes answers. -/
def cdd (L : List Int) : List Int := if cer L = 0 then cds L else []

set_option maxHeartbeats 2000000 in
theorem codes_any (ao : Option Addr) (n c : Nat) (L : List Int) (w : World) (h : Is w ao n c L) :
    Calls Tryz.prog 109 #[.slice ao n c] w fun e w' => (∃ ao1 n1 c1, e = .returned (.tuple #[.slice ao1 n1 c1, .int .i64 (cer L)]) ∧ IMine w.heap.size w' ao1 n1 c1 (cdd L)) ∧ Below w.heap.size w w' := by
  have hlen := hide h.len
  have hmax := h.max
  have hle := h.le
  have H := hide h
  clear h
  go_enter Tryz.func109, Tryz.ntmps109
  go_wp2_with fail
  refine (counted_any _ _ _ _ _ (unhide H)).mono ?_
  rintro e w1 ⟨rfl, b1⟩
  have z1 := b1.size
  by_cases he : cer L = 0
  · have hc := hide (show ctd L = cts L by unfold ctd; rw [he]; rfl)
    have hg := hide (good_of he)
    have hn : n ≤ 320 := by have := (unhide hg).len; rw [unhide hlen] at this; exact this
    rw [unhide hc]
    go_wp2_with (first
      | (with_reducible show wpList Tryz.prog _ _ (Oper.mk _ (Op.store 166 _ _) _ _ _ none :: _) _ _; refine wpList_arrStore rfl (.tmp 4) (.tmp 13) rfl w1.heap.size (cts L) zero16 rfl rfl a2 (cts_len L) zero16_len ?_; intro w3 a3 o3 s3 b3)
      | (with_reducible show wpList Tryz.prog _ _ (Oper.mk _ (Op.alloc 166) _ _ _ none :: _) _ _; refine wpList_arrAlloc rfl rfl ?_; intro w2 a2 b2 s2)
      | (with_reducible show wpList Tryz.prog _ _ (Oper.mk _ (Op.load 166 _) _ _ _ none :: _) _ _; refine wpList_arrLoad rfl (.tmp 4) rfl w1.heap.size rfl (cts L) a3 (cts_len L) ?_))
    refine (firstCodes_any L _ (unhide hg)).mono ?_
    rintro e w4 ⟨rfl, b4⟩
    have z4 := b4.size
    have bb4 : Below w.heap.size w w4 := ((b1.trans (b2.mono z1)).trans (b3.mono z1)).trans (b4.mono (by omega))
    have zz4 := bb4.size
    clear a2 a3 o3 b2 b3 b4 s2 s3 z4 b1 z1
    go_wp2_with (first
      | (with_reducible show wpList Tryz.prog _ _ (Oper.mk _ (Op.store 166 _ _) _ _ _ none :: _) _ _; refine wpList_arrStore rfl (.tmp 6) (.tmp 19) rfl w4.heap.size (fcl L 16) zero16 rfl rfl a5 (fcl_len L 16) zero16_len ?_; intro w6 a6 o6 s6 b6)
      | (with_reducible show wpList Tryz.prog _ _ (Oper.mk _ (Op.alloc 166) _ _ _ none :: _) _ _; refine wpList_arrAlloc rfl rfl ?_; intro w5 a5 b5 s5)
      | (at_make; refine wpList_imkFull rfl _ _ rfl _ _ _ _ n rfl rfl rfl rfl (by omega) ?_; intro w7 m7 b7 z7))
    have bb7 : Below w.heap.size w w7 := ((bb4.trans (b5.mono zz4)).trans (b6.mono zz4)).trans (b7.mono (by omega))
    have a7 : Arr w7 w4.heap.size (nxt L 0) := by rw [← nxt_zero]; exact a6.later b7
    have hN : w4.heap.size < w6.heap.size := by omega
    have m7' : IMine w6.heap.size w7 (some ⟨w6.heap.size, 0, none⟩) n n (cdu L 0) := by rw [cdu_zero, unhide hlen]; exact m7
    have e6 : w6.heap.size = w4.heap.size + 1 := by omega
    rw [e6] at m7' hN z7
    clear a5 a6 o6 b5 b6 b7 m7 s5 s6 e6
    go_loopw [25] (fun i wr => ∃ m : Nat, m ≤ n ∧ i = .int .i64 m ∧ Arr wr w4.heap.size (nxt L m) ∧ IMine (w4.heap.size + 1) wr (some ⟨w4.heap.size + 1, 0, none⟩) n n (cdu L m) ∧ Below w.heap.size w wr) (fun i _ => n - (intOf i).toNat)
    case atStart => exact ⟨0, by omega, rfl, a7, m7', bb7⟩
    case round =>
      clear a7 m7' bb7
      obtain ⟨m, hm, rfl, ha, hm2, hbel⟩ := hrel
      by_cases hlt : m < n
      · obtain ⟨b, o, hix, hcx⟩ := ((unhide H).later hbel).idx hlt (m : Int) rfl
        have hmL := hide (show m < L.length by rw [unhide hlen]; exact hlt)
        obtain ⟨x, hx⟩ : ∃ x, x = ln L m := ⟨_, rfl⟩
        have hx2 := hide (show x = L[m]?.getD 0 from hx)
        have hxf := (unhide hg).fit _ (ln_mem (unhide hmL))
        rw [← hx] at hxf
        have HX := hide hx
        clear hx
        rw [← unhide hx2] at hcx
        obtain ⟨k, hk⟩ : ∃ k : Nat, x = (k : Int) := ⟨x.toNat, by omega⟩
        have hk16 : k < 16 := by omega
        subst hk
        have cf := hm2.free m
        have HM := hide hm2
        have HA := hide ha
        have hcl := hm2.is
        have hcc : wr.cell? ⟨w4.heap.size + 1, m, none⟩ = some (.int .i64 ((cdu L m)[m]?.getD 0)) := by
          rcases hcl.at' with q | ⟨b', o', e', c'⟩
          · omega
          · simp only [Option.some.injEq, Addr.mk.injEq, and_true] at e'
            obtain ⟨rfl, rfl⟩ := e'
            have := c' m hlt
            rwa [Nat.zero_add] at this
        have fa := ha.free k
        by_cases h0 : k = 0
        · subst h0
          have hcode := hide (show code L m = -1 by unfold code; rw [← unhide HX]; rfl)
          clear ha hm2 hcl
          go_wp2_with fail
          go_roundw
          case rel =>
            refine ⟨m + 1, by omega, by go_num, ?_, ?_, hbel.setCell (by simp <;> omega) _⟩
            · rw [nxt_skip L (unhide hmL) (unhide HX).symm]
              exact (unhide HA).other _ _ (by simp <;> omega)
            · rw [← cdu_step L (unhide hmL), unhide hcode]
              exact (unhide HM).stored m (-1) (by omega) (by omega)
          case measure => simp [intOf]; omega
        · have cn := ha.cell (i := k) (by rw [nxt_len]; exact hk16)
          rw [nxt_at L m hk16 h0] at cn
          have hcode := hide (show code L m = fc L k + ((L.take m).count (k : Int) : Int) by
            rw [code_eq L m k (unhide HX).symm h0]
            unfold rk
            rw [← unhide HX])
          have hstep := hide (nxt_step L (unhide hmL) k hk16 h0 (unhide HX).symm _ rfl)
          have f1 := fc_nonneg L k
          have f2 := (unhide hg).small (show k ≤ 15 by omega)
          rw [Fl_eq] at f2
          have f3 := cz_nonneg L k
          have f4 : (L.take m).count (k : Int) ≤ 320 := Nat.le_trans List.count_le_length (by simp <;> omega)
          generalize hV : fc L k + ((L.take m).count (k : Int) : Int) = V at cn hcode hstep
          have v0 : 0 ≤ V := by omega
          have v1 : V ≤ 40000 := by omega
          clear hV f1 f2 f3 f4 ha hm2 hcl
          have k0 : 0 < (k : Int) := by omega
          go_wp2_with fail
          go_roundw
          case rel =>
            refine ⟨m + 1, by omega, by go_num, ?_, ?_, (hbel.setCell (by simp <;> omega) _).setCell (by simp <;> omega) _⟩
            · rw [← unhide hstep]
              exact ((unhide HA).other _ _ (by simp <;> omega)).stored k _
            · rw [← cdu_step L (unhide hmL), unhide hcode]
              exact ((unhide HM).stored m V (by omega) (by omega)).below (by simp <;> omega) _
          case measure => simp [intOf]; omega
      · have hmn := hide (show m = L.length by rw [unhide hlen]; omega)
        have HM := hide (hm2.mono (show w.heap.size ≤ w4.heap.size + 1 by omega))
        clear hm2 ha
        have hE := hide he
        clear he
        go_wp2_with fail
        go_ret2
        refine ⟨⟨_, _, _, by rw [unhide hE]; rfl, ?_⟩, hbel⟩
        have := unhide HM
        rw [unhide hmn, cdu_end] at this
        unfold cdd
        rw [unhide hE]
        exact this
  · have he' : (cer L != 0) = true := by simpa using he
    have hE := hide he
    clear he
    go_wp2_with (first
      | (with_reducible show wpList Tryz.prog _ _ (Oper.mk _ (Op.store 166 _ _) _ _ _ none :: _) _ _; refine wpList_arrStore rfl (.tmp 4) (.tmp 13) rfl w1.heap.size (ctd L) zero16 rfl rfl a2 (ctd_len L) zero16_len ?_; intro w3 a3 o3 s3 b3)
      | (with_reducible show wpList Tryz.prog _ _ (Oper.mk _ (Op.alloc 166) _ _ _ none :: _) _ _; refine wpList_arrAlloc rfl rfl ?_; intro w2 a2 b2 s2))
    go_ret2
    exact ⟨⟨none, 0, 0, rfl, by unfold cdd; rw [if_neg (unhide hE)]; exact IMine.nought _ _⟩, (b1.trans (b2.mono z1)).trans (b3.mono z1)⟩

end Go.Proofs.YtnoabdafmgmenaaGreatDoor

namespace Go.Proofs.YtnoabdafmgmenaaGreatDoor
open Go.RowKit
set_option linter.unusedVariables false
set_option linter.unusedSimpArgs false

set_option maxHeartbeats 1000000 in
theorem times_any (B : Nat) (ao : Option Addr) (n c : Nat) (a : List Int) (x : Int) (k : Nat) (w : World) (hB : B ≤ w.heap.size) (hm : IMine B w ao n c a) (hn : n ≤ 1000000) (hk : k ≤ 1000) (x0 : 0 ≤ x) (x1 : x ≤ 1000) (K : Int) (hK : K = (k : Int)) :
    Calls Tryz.prog 102 #[.slice ao n c, .int .i64 x, .int .i64 K] w fun e w' => ∃ ao' c', e = .returned (.slice ao' (n + k) c') ∧ IMine B w' ao' (n + k) c' (a ++ List.replicate k x) ∧ Below B w w' := by
  subst hK
  have HM := hide hm
  clear hm
  go_enter Tryz.func102, Tryz.ntmps102
  go_wp2_with fail
  go_loopw [0, 8] (fun v i wr => ∃ (j : Nat) (ao' : Option Addr) (c' : Nat), j ≤ k ∧ i = .int .i64 (j : Int) ∧ v = .slice ao' (n + j) c' ∧ IMine B wr ao' (n + j) c' (a ++ List.replicate j x) ∧ Below B w wr) (fun _ i _ => k - (intOf i).toNat)
  case atStart => exact ⟨0, ao, c, by omega, rfl, rfl, by simpa using unhide HM, Below.refl _ _⟩
  case round =>
    obtain ⟨j, ao', c', hj, rfl, rfl, hm, hb⟩ := hrel
    by_cases hlt : j < k
    · have hlt' : (j : Int) < (k : Int) := by omega
      have hsz := hb.size
      have hB2 : B ≤ (wr.alloc (.cells #[.int .i64 x] 3)).heap.size := by simp; omega
      have hm2 := hide (hm.later (below_alloc wr (.cells #[.int .i64 x] 3)))
      have hone := hide (Is.one wr x (by omega) (by omega))
      clear hm
      go_wp2_with (at_builtin; refine wpList_iapp rfl (.tmp 10) (.tmp 12) rfl B _ _ _ _ rfl (unhide hm2) _ 1 1 [x] rfl (unhide hone) (by omega) hB2 ?_; intro ao1 c1 w1 hm1 hb1)
      go_roundw
      case rel =>
        refine ⟨j + 1, ao1, c1, by omega, by go_num, rfl, ?_, ?_⟩
        · rw [List.replicate_succ', ← List.append_assoc]
          exact hm1
        · exact (hb.trans ((below_alloc wr _).mono (by omega))).trans hb1
      case measure => simp [intOf]; omega
    · have hkn : j = k := by omega
      subst hkn
      go_wp2_with fail
      go_ret
      exact ⟨ao', c', rfl, hm, hb⟩

set_option maxHeartbeats 1000000 in
theorem fixed_any (w : World) :
    Calls Tryz.prog 71 #[] w fun e w' => ∃ lo lc d dc B, e = .returned (.tuple #[.slice lo 288 lc, .slice d 32 dc]) ∧ w.heap.size ≤ B ∧ IMine w.heap.size w' lo 288 lc fixL ∧ IMine B w' d 32 dc fixD ∧ Below w.heap.size w w' := by
  go_enter Tryz.func71, Tryz.ntmps71
  go_wp2_with fail
  refine (times_any w.heap.size .none 0 0 [] 8 144 w (Nat.le_refl _) (IMine.nought _ _) (by omega) (by omega) (by omega) (by omega) 144 rfl).mono ?_
  rintro e w1 ⟨a1, c1, rfl, m1, b1⟩
  have t2 := hide (times_any w.heap.size a1 144 c1 (List.replicate 144 8) 9 112 w1 b1.size m1 (by omega) (by omega) (by omega) (by omega) 112 rfl)
  clear m1
  go_wp2_with fail
  refine (unhide t2).mono ?_
  rintro e w2 ⟨a2, c2, rfl, m2, b2⟩
  have bb2 := b1.trans b2
  have t3 := hide (times_any w.heap.size a2 256 c2 (List.replicate 144 8 ++ List.replicate 112 9) 7 24 w2 bb2.size m2 (by omega) (by omega) (by omega) (by omega) 24 rfl)
  clear m2
  go_wp2_with fail
  refine (unhide t3).mono ?_
  rintro e w3 ⟨a3, c3, rfl, m3, b3⟩
  have bb3 := bb2.trans b3
  have t4 := hide (times_any w.heap.size a3 280 c3 (List.replicate 144 8 ++ List.replicate 112 9 ++ List.replicate 24 7) 8 8 w3 bb3.size m3 (by omega) (by omega) (by omega) (by omega) 8 rfl)
  clear m3
  go_wp2_with fail
  refine (unhide t4).mono ?_
  rintro e w4 ⟨a4, c4, rfl, m4, b4⟩
  have bb4 := bb3.trans b4
  have M4 := hide (show IMine w.heap.size w4 a4 288 c4 fixL from m4)
  have t5 := hide (times_any w4.heap.size .none 0 0 [] 5 32 w4 (Nat.le_refl _) (IMine.nought _ _) (by omega) (by omega) (by omega) (by omega) 32 rfl)
  clear m4
  go_wp2_with fail
  refine (unhide t5).mono ?_
  rintro e w5 ⟨a5, c5, rfl, m5, b5⟩
  have M5 := hide (show IMine w4.heap.size w5 a5 32 c5 fixD from m5)
  clear m5
  go_wp2_with fail
  go_ret2
  exact ⟨a4, c4, a5, c5, w4.heap.size, rfl, bb4.size, (unhide M4).later b5, unhide M5, bb4.trans (b5.mono bb4.size)⟩

end Go.Proofs.YtnoabdafmgmenaaGreatDoor
