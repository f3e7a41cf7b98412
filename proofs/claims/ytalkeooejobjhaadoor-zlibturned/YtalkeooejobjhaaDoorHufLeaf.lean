/-
  What behind, room, counted, firstCodes and Check of package huffman return for any lengths. They write nothing that was there. Conditions: the slice can be read.
-/
import Derived.Test.YtalkeooejobjhaaDoorHufArr
import Derived.Test.YtalkeooejobjhaaDoorMPlain
namespace Go.Proofs.YtalkeooejobjhaaDoor
open Go.RowKit
set_option linter.unusedVariables false
set_option linter.unusedSimpArgs false

def cts (L : List Int) : List Int := (List.range 16).map (cz L)
theorem cts_len (L : List Int) : (cts L).length = 16 := by simp [cts]
theorem cts_at (L : List Int) {k : Nat} (h : k < 16) : (cts L)[k]?.getD 0 = cz L k := by simp [cts, h]
def sm (L : List Int) : Nat → Int
  | 0 => 0
  | k + 1 => sm L k + cz L k * 2 ^ (15 - k)
theorem sm_eq (L : List Int) : ∀ k : Nat, k ≤ 15 → sm L (k + 1) = 2 ^ (15 - k) * Fl L k
  | 0, _ => by simp [sm, Fl, cz]
  | k + 1, h => by
    have ih := sm_eq L k (by omega)
    rw [sm, ih, show (15 - k) = (15 - (k + 1)) + 1 by omega, Int.pow_succ, Fl]
    generalize (2 : Int) ^ (15 - (k + 1)) = p
    rw [Int.mul_add, Int.mul_assoc, Int.mul_comm (cz L (k + 1)) p]
theorem pow_le15 (k : Nat) : 1 ≤ (2 : Int) ^ (15 - k) ∧ (2 : Int) ^ (15 - k) ≤ 32768 := by
  have h1 : (15 - k) ≤ 15 := by omega
  constructor
  · exact Int.pow_pos (by omega)
  · have := Nat.pow_le_pow_right (show 0 < 2 by omega) h1
    have h2 : (2 : Int) ^ (15 - k) ≤ 2 ^ 15 := by exact_mod_cast this
    omega
theorem term_le (L : List Int) (h : L.length ≤ 320) (k : Nat) : 0 ≤ cz L k * 2 ^ (15 - k) ∧ cz L k * 2 ^ (15 - k) ≤ 10485760 := by
  have h1 := cz_nonneg L k
  have h2 := cz_le L k
  have h3 := pow_le15 k
  have h4 := Int.mul_nonneg h1 (show (0 : Int) ≤ 2 ^ (15 - k) by omega)
  have h5 := Int.mul_le_mul (show cz L k ≤ 320 by omega) h3.2 (by omega) (by omega)
  omega
theorem sm_bd (L : List Int) (h : L.length ≤ 320) : ∀ k, 0 ≤ sm L k ∧ sm L k ≤ 10485760 * k
  | 0 => by simp [sm]
  | k + 1 => by have := sm_bd L h k; have := term_le L h k; simp only [sm]; omega

theorem run_arrAt (l : List Int) (hl : l.length = 16) (k : Nat) (hk : k < 16) (w : World) : (Instr.index 111 (.agg (vs l)) (.int .i64 (k : Int))).run Tryd.prog w = .ok (.int .i64 (l[k]?.getD 0)) w := by
  have hs : ∀ w : World, (sizeOf 3).run Tryd.prog w = .ok 1 w := by intro w; kernel_rfl
  have ha : ∀ w : World, (isAgg 3).run Tryd.prog w = .ok false w := by intro w; kernel_rfl
  have hv := vs_at l (show k < l.length by omega)
  simp only [Instr.index, asIntOf, Sem.run_bind, Sem.run_pure, Result.andThen_ok, run_underlying Tryd.arr]
  rw [if_pos (by omega)]
  simp [hs, part, ha, hv]
set_option maxHeartbeats 400000 in
theorem room_any (L : List Int) (w : World) (hL : L.length ≤ 320) :
    Calls Tryd.prog 75 #[.agg (vs (cts L))] w fun e w' => e = .returned (.int .i64 (32768 - Fl L 15)) ∧ Below w.heap.size w w' := by
  have hA : Arr (w.alloc (.cells (vs (cts L)) 111)) w.heap.size (cts L) := heap_alloc_new w _
  have HA := hide hA
  have HL := hide hL
  clear hA hL
  go_enter Tryd.func75, Tryd.ntmps75
  go_wp2_with (with_reducible show wpList Tryd.prog _ _ (Oper.mk _ (Op.load 111 _) _ _ _ none :: _) _ _; refine wpList_arrLoad rfl (.tmp 1) rfl w.heap.size rfl (cts L) (unhide HA) (cts_len L) ?_)
  go_loop [3, 7] (fun s i => ∃ m : Nat, m ≤ 16 ∧ i = .int .i64 m ∧ s = .int .i64 (32768 - sm L m)) (fun _ i => 16 - (intOf i).toNat)
  case atStart => exact ⟨0, by omega, rfl, by simp [sm]⟩
  case round =>
    obtain ⟨m, hm, rfl, rfl⟩ := hrel
    have hb := sm_bd L (unhide HL) m
    by_cases hlt : m < 16
    · have ix := run_arrAt (cts L) (cts_len L) m hlt
      rw [cts_at L hlt] at ix
      have tl := term_le L (unhide HL) m
      have hs := hide (show sm L (m + 1) = sm L m + cz L m * 2 ^ (15 - m) from rfl)
      generalize hP : cz L m * 2 ^ (15 - m) = P at tl hs
      generalize sm L m = S at hb hs ⊢
      go_wp2
      go_round
      case rel => exact ⟨m + 1, by omega, by go_num, by rw [unhide hs]; congr 1; omega⟩
      case measure => simp [intOf]; omega
    · have he := hide (show sm L 16 = Fl L 15 by rw [sm_eq L 15 (by omega)]; simp)
      go_wp2_with fail
      go_ret
      exact ⟨by rw [show m = 16 by omega, unhide he]; rfl, below_alloc w _⟩

/-- Is a length out of its bounds? -/
def bad (L : List Int) : Bool := L.any fun x => decide (x < 0) || decide (15 < x)
/-- The error of lengths. -/
def cer (L : List Int) : Int := if 320 < L.length then 3 else if bad L = true then 2 else if 32768 < Fl L 15 then 7 else 0
/-- The counts that go with an error. -/
def ctd (L : List Int) : List Int := if cer L = 0 then cts L else zero16
theorem ctd_len (L : List Int) : (ctd L).length = 16 := by unfold ctd; split; exact cts_len L; exact zero16_len
def cfl (l : List Int) : List Int := (List.range 16).map fun k : Nat => (l.count (k : Int) : Int)

theorem not_bad {L : List Int} (h : ∀ i, i < L.length → 0 ≤ ln L i ∧ ln L i ≤ 15) : bad L = false := by
  unfold bad
  rw [List.any_eq_false]
  intro x hx
  obtain ⟨i, hi, rfl⟩ := List.getElem_of_mem hx
  have := h i hi
  simp [ln, List.getElem?_eq_getElem hi] at this
  simp
  omega
theorem is_bad {L : List Int} {i : Nat} (hi : i < L.length) (h : ln L i < 0 ∨ 15 < ln L i) : bad L = true := by
  unfold bad
  rw [List.any_eq_true]
  refine ⟨ln L i, ln_mem hi, ?_⟩
  simp
  omega
theorem good_of {L : List Int} (h : cer L = 0) : Good L := by
  unfold cer at h
  split at h
  · omega
  · split at h
    · omega
    · rename_i hb
      split at h
      · omega
      · refine ⟨by omega, fun x hx => ?_, by omega⟩
        have hb' : bad L = false := by simpa using hb
        unfold bad at hb'
        have := List.any_eq_false.1 hb' x hx
        simp at this
        omega
theorem cfl_len (l : List Int) : (cfl l).length = 16 := by simp [cfl]
theorem cfl_at (l : List Int) {k : Nat} (h : k < 16) : (cfl l)[k]?.getD 0 = (l.count (k : Int) : Int) := by simp [cfl, h]
theorem list_ext16 {a b : List Int} (ha : a.length = 16) (hb : b.length = 16) (h : ∀ k, k < 16 → a[k]?.getD 0 = b[k]?.getD 0) : a = b := by
  apply List.ext_getElem (by omega)
  intro k h1 h2
  have := h k (by omega)
  simpa [List.getElem?_eq_getElem h1, List.getElem?_eq_getElem h2] using this
theorem getD_set (l : List Int) (i : Nat) (v : Int) (k : Nat) (hi : i < l.length) : (l.set i v)[k]?.getD 0 = if k = i then v else l[k]?.getD 0 := by
  rw [List.getElem?_set]
  by_cases h : i = k
  · subst h
    simp [hi]
  · rw [if_neg h, if_neg (by omega)]
theorem cfl_step (l : List Int) (k : Nat) (hk : k < 16) (v : Int) (hv : v = (l.count (k : Int) : Int) + 1) : (cfl l).set k v = cfl (l ++ [(k : Int)]) := by
  refine list_ext16 (by simp [cfl_len]) (cfl_len _) fun j hj => ?_
  rw [getD_set _ _ _ _ (by rw [cfl_len]; exact hk), cfl_at _ hj, cfl_at _ hj, List.count_append, List.count_singleton]
  by_cases h : j = k
  · subst h; simp [hv]
  · rw [if_neg h]
    have : ((k : Int) == (j : Int)) = false := by simp; omega
    simp [this]
theorem cfl_end (L : List Int) : (cfl L).set 0 0 = cts L := by
  refine list_ext16 (by simp [cfl_len]) (cts_len _) fun j hj => ?_
  rw [getD_set _ _ _ _ (by rw [cfl_len]; omega), cfl_at _ hj, cts_at _ hj]
  unfold cz
  by_cases h : j = 0 <;> simp [h]
theorem cfl_nil : cfl [] = zero16 := by rfl

theorem results_arr2 {fn : Func} {p q : Tmp} (h : fn.results = #[.cell p 111, .tmp q]) (tmps : Array Value) (w : World) (g : Nat) (l : List Int) (hl : l.length = 16)
    (hp : tmps.getD p undef = .pointer (some ⟨g, 0, none⟩)) (hg : Arr w g l) :
    (results fn tmps).run Tryd.prog w = .ok (.tuple #[.agg (vs l), tmps.getD q undef]) w := by
  have hp' : tmps[p]?.getD undef = .pointer (some ⟨g, 0, none⟩) := by simpa using hp
  have hl' := run_loadVar_row (P := Tryd.prog) w g _ 111 (vs l) (0, 0) _ hg Tryd.arr rfl (by rw [vs_size, hl]; exact Tryd.arrSize)
  simp [results, h, hp', asAddr, hl']
theorem results_arr1 {fn : Func} {p : Tmp} (h : fn.results = #[.cell p 111]) (tmps : Array Value) (w : World) (g : Nat) (l : List Int) (hl : l.length = 16)
    (hp : tmps.getD p undef = .pointer (some ⟨g, 0, none⟩)) (hg : Arr w g l) :
    (results fn tmps).run Tryd.prog w = .ok (.agg (vs l)) w :=
  results_cell_row h tmps w g _ (vs l) (0, 0) _ hp hg Tryd.arr rfl (by rw [vs_size, hl]; exact Tryd.arrSize)

set_option maxHeartbeats 400000 in
theorem behind_any (f k : Int) (w : World) (h0 : 0 ≤ f) (h1 : f ≤ 100000000) (k0 : 0 ≤ k) (k1 : k ≤ 100000000) :
    Calls Tryd.prog 76 #[.int .i64 f, .int .i64 k] w fun e w' => e = .returned (.int .i64 ((f + k) * 2)) ∧ w' = w := by
  go_enter Tryd.func76, Tryd.ntmps76
  go_wp2_with fail
  go_ret
  exact ⟨rfl, rfl⟩

set_option maxHeartbeats 1000000 in
theorem counted_any (ao : Option Addr) (n c : Nat) (L : List Int) (w : World) (h : Is w ao n c L) :
    Calls Tryd.prog 69 #[.slice ao n c] w fun e w' => e = .returned (.tuple #[.agg (vs (ctd L)), .int .i64 (cer L)]) ∧ Below w.heap.size w w' := by
  have hlen := hide h.len
  have hmax := h.max
  have hle := h.le
  have H := hide h
  clear h
  by_cases hbig : (320 : Int) < (n : Int)
  · have he := hide (show cer L = 3 by unfold cer; rw [if_pos (by rw [unhide hlen]; omega)])
    have hc := hide (show ctd L = zero16 by unfold ctd; rw [unhide he]; rfl)
    rw [unhide he, unhide hc]
    go_enter Tryd.func69, Tryd.ntmps69
    go_wp2_with (first
      | (with_reducible show wpList Tryd.prog _ _ (Oper.mk _ (Op.store 111 _ _) _ _ _ none :: _) _ _; refine wpList_arrStore rfl (.tmp 2) (.tmp 10) rfl w.heap.size zero16 zero16 rfl rfl (a1.later b2) zero16_len zero16_len ?_; intro w3 a3 o3 s3 b3)
      | (with_reducible show wpList Tryd.prog _ _ (Oper.mk _ (Op.alloc 111) _ _ _ none :: _) _ _; refine wpList_arrAlloc rfl rfl ?_; first | (intro w2 a2 b2 s2; have a1' := a1; clear a2) | (intro w1 a1 b1 s1)))
    refine bodyPost_ret (results_arr2 rfl _ _ w.heap.size zero16 zero16_len rfl a3) rfl ?_
    exact ⟨rfl, (b1.trans (b2.mono (by omega))).trans b3⟩
  · go_enter Tryd.func69, Tryd.ntmps69
    go_wp2_with (with_reducible show wpList Tryd.prog _ _ (Oper.mk _ (Op.alloc 111) _ _ _ none :: _) _ _; refine wpList_arrAlloc rfl rfl ?_; first | (intro w2 a2 b2 s2; have a1' := a1; clear a1) | (intro w1 a1 b1 s1))
    rw [s1] at a2
    have a2' : Arr w2 (w.heap.size + 1) (cfl (L.take 0)) := by rw [List.take_zero, cfl_nil]; exact a2
    have a1'' := a1'.later b2
    have b12 : Below w.heap.size w w2 := b1.trans (b2.mono (by omega))
    have s12 : w2.heap.size = w.heap.size + 2 := by omega
    clear a1' a2 b1 b2 s1 s2
    clear w1
    go_loopw [13] (fun i wr => ∃ m : Nat, m ≤ n ∧ i = .int .i64 m ∧ (∀ j, j < m → 0 ≤ ln L j ∧ ln L j ≤ 15) ∧ Arr wr (w.heap.size + 1) (cfl (L.take m)) ∧ Arr wr w.heap.size zero16 ∧ Below w.heap.size w wr ∧ wr.heap.size = w.heap.size + 2) (fun i _ => n - (intOf i).toNat)
    case atStart => exact ⟨0, by omega, rfl, fun j hj => by omega, a2', a1'', b12, s12⟩
    case round =>
      clear a2' a1'' b12 s12
      obtain ⟨m, hm, rfl, hgood, ha, hz, hbel, hsz⟩ := hrel
      have HG := hide hgood
      clear hgood
      by_cases hlt : m < n
      · obtain ⟨b, o, hix, hcx⟩ := ((unhide H).later hbel).idx hlt (m : Int) rfl
        have hmL := hide (show m < L.length by rw [unhide hlen]; exact hlt)
        obtain ⟨x, hx⟩ : ∃ x, x = ln L m := ⟨_, rfl⟩
        have hx2 := hide (show x = L[m]?.getD 0 from hx)
        have HX := hide hx
        clear hx
        rw [← unhide hx2] at hcx
        by_cases hout : x < 0 ∨ 15 < x
        · have he := hide (show cer L = 2 by unfold cer; rw [if_neg (by rw [unhide hlen]; omega), if_pos (is_bad (unhide hmL) (by rw [← unhide HX]; exact hout))])
          have hc := hide (show ctd L = zero16 by unfold ctd; rw [unhide he]; rfl)
          rcases hout with hout | hout
          · go_wp2_with (with_reducible show wpList Tryd.prog _ _ (Oper.mk _ (Op.store 111 _ _) _ _ _ none :: _) _ _; refine wpList_arrStore rfl (.tmp 2) (.tmp 23) rfl w.heap.size zero16 zero16 rfl rfl hz zero16_len zero16_len ?_; intro w3 a3 o3 s3 b3)
            refine bodyPost_ret (results_arr2 rfl _ _ w.heap.size zero16 zero16_len rfl a3) rfl ?_
            exact ⟨by rw [unhide he, unhide hc]; rfl, hbel.trans b3⟩
          · go_wp2_with (with_reducible show wpList Tryd.prog _ _ (Oper.mk _ (Op.store 111 _ _) _ _ _ none :: _) _ _; refine wpList_arrStore rfl (.tmp 2) (.tmp 23) rfl w.heap.size zero16 zero16 rfl rfl hz zero16_len zero16_len ?_; intro w3 a3 o3 s3 b3)
            refine bodyPost_ret (results_arr2 rfl _ _ w.heap.size zero16 zero16_len rfl a3) rfl ?_
            exact ⟨by rw [unhide he, unhide hc]; rfl, hbel.trans b3⟩
        · obtain ⟨k, hk⟩ : ∃ k : Nat, x = (k : Int) := ⟨x.toNat, by omega⟩
          have hk16 : k < 16 := by omega
          subst hk
          have hcc := ha.cell (i := k) (by rw [cfl_len]; exact hk16)
          rw [cfl_at _ hk16] at hcc
          have hfr := ha.free k
          have hcount : (L.take m).count (k : Int) ≤ 320 := Nat.le_trans List.count_le_length (by simp; omega)
          have hst := hide (cfl_step (L.take m) k hk16 _ rfl)
          generalize hV : ((L.take m).count (k : Int) : Int) = V at hcc hst
          have hV0 : 0 ≤ V := by omega
          have hV1 : V ≤ 320 := by omega
          clear hV
          have HA := hide ha
          have HZ := hide hz
          clear ha hz
          go_wp2_with fail
          go_roundw
          case rel =>
            refine ⟨m + 1, by omega, by go_num, fun j hj => ?_, ?_, (unhide HZ).other _ _ (by simp), hbel.setCell (by simp) _, by simpa using hsz⟩
            · by_cases hjm : j = m
              · rw [hjm, ← unhide HX]; omega
              · exact unhide HG j (by omega)
            · rw [take_snoc (unhide hmL), ← unhide HX, ← unhide hst]
              exact (unhide HA).stored k _
          case measure => simp [intOf]; omega
      · have hmn : m = n := by omega
        have hL : L.length ≤ 320 := by rw [unhide hlen]; omega
        have hT : L.take m = L := List.take_of_length_le (by rw [unhide hlen]; omega)
        rw [hT] at ha
        have hcc := ha.cell (i := 0) (by rw [cfl_len]; omega)
        have hfr := ha.free 0
        have ha2 := ha.stored 0 0
        rw [cfl_end] at ha2
        have HA := hide ha2
        have HZ := hide (hz.other ⟨w.heap.size + 1, 0, none⟩ (.int .i64 0) (by simp))
        have HB := hide (hbel.setCell (p := ⟨w.heap.size + 1, 0, none⟩) (by simp) (.int .i64 0))
        have hb2 := hide (show bad L = false from not_bad fun j hj => unhide HG j (by rw [unhide hlen] at hj; omega))
        have HL := hide hL
        clear ha ha2 hz hT hL
        go_wp2_with (with_reducible show wpList Tryd.prog _ _ (Oper.mk _ (Op.load 111 _) _ _ _ none :: _) _ _; refine wpList_arrLoad rfl (.tmp 4) rfl (w.heap.size + 1) rfl (cts L) (unhide HA) (cts_len L) ?_)
        refine (room_any L _ (unhide HL)).mono ?_
        rintro e w4 ⟨rfl, hb4⟩
        have a4 := hide ((unhide HA).later hb4)
        have z4 := hide ((unhide HZ).later hb4)
        have s4 : w.heap.size + 2 ≤ w4.heap.size := by have := hb4.size; simp at this; omega
        have b4 : Below w.heap.size w w4 := (unhide HB).trans (hb4.mono (by simp; omega))
        clear hb4
        by_cases hfull : 32768 < Fl L 15
        · have he := hide (show cer L = 7 by unfold cer; rw [if_neg (by have := unhide HL; omega), unhide hb2, if_neg (by simp), if_pos hfull])
          have hc := hide (show ctd L = zero16 by unfold ctd; rw [unhide he]; rfl)
          go_wp2_with (with_reducible show wpList Tryd.prog _ _ (Oper.mk _ (Op.store 111 _ _) _ _ _ none :: _) _ _; refine wpList_arrStore rfl (.tmp 2) (.tmp 34) rfl w.heap.size zero16 zero16 rfl rfl (unhide z4) zero16_len zero16_len ?_; intro w5 a5 o5 s5 b5)
          refine bodyPost_ret (results_arr2 rfl _ _ w.heap.size zero16 zero16_len rfl a5) rfl ?_
          exact ⟨by rw [unhide he, unhide hc]; rfl, b4.trans b5⟩
        · have he := hide (show cer L = 0 by unfold cer; rw [if_neg (by have := unhide HL; omega), unhide hb2, if_neg (by simp), if_neg hfull])
          have hc := hide (show ctd L = cts L by unfold ctd; rw [unhide he]; rfl)
          go_wp2_with (first
            | (with_reducible show wpList Tryd.prog _ _ (Oper.mk _ (Op.load 111 _) _ _ _ none :: _) _ _; refine wpList_arrLoad rfl (.tmp 4) rfl (w.heap.size + 1) rfl (cts L) (unhide a4) (cts_len L) ?_)
            | (with_reducible show wpList Tryd.prog _ _ (Oper.mk _ (Op.store 111 _ _) _ _ _ none :: _) _ _; refine wpList_arrStore rfl (.tmp 2) (.tmp 35) rfl w.heap.size (cts L) zero16 rfl rfl (unhide z4) (cts_len L) zero16_len ?_; intro w5 a5 o5 s5 b5))
          refine bodyPost_ret (results_arr2 rfl _ _ w.heap.size (cts L) (cts_len L) rfl a5) rfl ?_
          exact ⟨by rw [unhide he, unhide hc]; rfl, b4.trans b5⟩

/-- What Check answers. -/
def whole (L : List Int) : Bool := decide (cer L = 0) && decide (Fl L 15 = 32768)

set_option maxHeartbeats 1000000 in
theorem check_any (ao : Option Addr) (n c : Nat) (L : List Int) (w : World) (h : Is w ao n c L) :
    Calls Tryd.prog 74 #[.slice ao n c] w fun e w' => e = .returned (.tuple #[.bool (whole L), .int .i64 (cer L)]) ∧ Below w.heap.size w w' := by
  have H := hide h
  clear h
  go_enter Tryd.func74, Tryd.ntmps74
  go_wp2_with fail
  refine (counted_any _ _ _ _ _ (unhide H)).mono ?_
  rintro e w1 ⟨rfl, b1⟩
  by_cases he : cer L = 0
  · have hc := hide (show ctd L = cts L by unfold ctd; rw [he]; rfl)
    have hg := hide (good_of he)
    have hw := hide (show whole L = (32768 - Fl L 15 == 0) by unfold whole; rw [he]; by_cases q : Fl L 15 = 32768 <;> simp [q] <;> omega)
    rw [unhide hc]
    go_wp2_with (first
      | (with_reducible show wpList Tryd.prog _ _ (Oper.mk _ (Op.store 111 _ _) _ _ _ none :: _) _ _; refine wpList_arrStore rfl (.tmp 4) (.tmp 8) rfl w1.heap.size (cts L) zero16 rfl rfl a2 (cts_len L) zero16_len ?_; intro w3 a3 o3 s3 b3)
      | (with_reducible show wpList Tryd.prog _ _ (Oper.mk _ (Op.alloc 111) _ _ _ none :: _) _ _; refine wpList_arrAlloc rfl rfl ?_; intro w2 a2 b2 s2)
      | (with_reducible show wpList Tryd.prog _ _ (Oper.mk _ (Op.load 111 _) _ _ _ none :: _) _ _; refine wpList_arrLoad rfl (.tmp 4) rfl w1.heap.size rfl (cts L) a3 (cts_len L) ?_))
    refine (room_any L _ (unhide hg).len).mono ?_
    rintro e w4 ⟨rfl, hb4⟩
    go_wp2_with fail
    go_ret2
    refine ⟨by rw [unhide hw, he]; rfl, ((b1.trans (b2.mono b1.size)).trans (b3.mono b1.size)).trans (hb4.mono ?_)⟩
    have := b1.size
    omega
  · have he' : (cer L != 0) = true := by simpa using he
    have hw := hide (show whole L = false by unfold whole; simp [he])
    go_wp2_with (first
      | (with_reducible show wpList Tryd.prog _ _ (Oper.mk _ (Op.store 111 _ _) _ _ _ none :: _) _ _; refine wpList_arrStore rfl (.tmp 4) (.tmp 8) rfl w1.heap.size (ctd L) zero16 rfl rfl a2 (ctd_len L) zero16_len ?_; intro w3 a3 o3 s3 b3)
      | (with_reducible show wpList Tryd.prog _ _ (Oper.mk _ (Op.alloc 111) _ _ _ none :: _) _ _; refine wpList_arrAlloc rfl rfl ?_; intro w2 a2 b2 s2))
    go_ret2
    exact ⟨by rw [unhide hw]; rfl, (b1.trans (b2.mono b1.size)).trans (b3.mono b1.size)⟩
end Go.Proofs.YtalkeooejobjhaaDoor
