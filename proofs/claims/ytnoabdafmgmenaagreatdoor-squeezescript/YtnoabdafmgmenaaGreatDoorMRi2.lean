/-
  What order, single, none and made of the document's answer return. They change nothing that was there. Conditions: the slices can be read; lengths from 0 to 15.
  What made of the document's answer returns: the lengths, and the codes that belong to them. It changes nothing that was there. Conditions: the lengths can be read.
  What Length and Distance of the document's own answer return: the spans of lengths and distances. They write nothing. Conditions: symbols that may be.
-/
import Derived.Test.YtnoabdafmgmenaaGreatDoorMRi1
import Derived.Test.YtnoabdafmgmenaaGreatDoorHufRefCodes2
import Derived.Deep.WholeRow
import Derived.Laws.Rows
import Derived.Test.YtnoabdafmgmenaaGreatDoorMBit
import Derived.Test.YtnoabdafmgmenaaGreatDoorMMem
namespace Go.Proofs.YtnoabdafmgmenaaGreatDoor
open Go.RowKit
set_option linter.unusedVariables false
set_option linter.unusedSimpArgs false

def ordI : List Int := [16, 17, 18, 0, 8, 7, 9, 6, 10, 5, 11, 4, 12, 3, 13, 2, 14, 1, 15]
theorem ordI_at : ∀ i : Nat, i < 19 → ordI[i]?.getD 0 = ((ordL[i]?.getD 0 : Nat) : Int) := by decide

set_option maxHeartbeats 1000000 in
theorem order_rd (w : World) (i : Nat) (hi : i < 19) :
    Calls Tryz.prog 82 #[.int .i64 (i : Int)] w fun e w' => e = .returned (.int .i64 ((ordL[i]?.getD 0 : Nat) : Int)) ∧ Below w.heap.size w w' := by
  have hl := Is.lit w ordI (by intro x hx; simp [ordI] at hx; omega) (by decide)
  obtain ⟨b, o, hix, hcx⟩ := hl.idx (show i < ordI.length from hi) (i : Int) rfl
  rw [ordI_at i hi] at hcx
  have BL := hide (below_alloc w (.cells (ordI.map (Value.int .i64)).toArray 3))
  generalize ((ordL[i]?.getD 0 : Nat) : Int) = V at *
  simp only [ordI, List.map_cons, List.map_nil, List.length_cons, List.length_nil, Nat.zero_add, Nat.reduceAdd] at hix hcx BL
  clear hl
  go_enter Tryz.func82, Tryz.ntmps82
  go_wp2_with fail
  go_ret
  exact ⟨rfl, unhide BL⟩

theorem sum_nonneg : ∀ l : List Int, (∀ x ∈ l, 0 ≤ x) → 0 ≤ l.sum
  | [], _ => by simp
  | a :: l, h => by
    have := sum_nonneg l (fun x hx => h x (List.mem_cons_of_mem _ hx))
    have := h a (by simp)
    rw [List.sum_cons]
    omega

set_option maxHeartbeats 1000000 in
theorem none_rd (w : World) (ao : Option Addr) (n c : Nat) (L : List Int) (h : Is w ao n c L) (hR : ∀ x ∈ L, 0 ≤ x ∧ x ≤ 15) :
    Calls Tryz.prog 86 #[.slice ao n c] w fun e w' => e = .returned (.bool (decide (L.sum = 0))) ∧ w' = w := by
  have hlen := h.len
  have hle := h.le
  have hmx := h.max
  have H := hide h
  clear h
  obtain ⟨R, hRR⟩ : ∃ R, R = decide (L.sum = 0) := ⟨_, rfl⟩
  rw [← hRR]
  have HR := hide hRR
  have HL := hide hlen
  have HF := hide hR
  clear hRR hlen hR
  go_enter Tryz.func86, Tryz.ntmps86
  go_wp2_with fail
  go_loopw [3] (fun iv ws => ∃ i : Nat, i ≤ n ∧ iv = .int .i64 (i : Int) ∧ R = decide ((L.drop i).sum = 0) ∧ ws = w) (fun iv _ => n - (intOf iv).toNat)
  case atStart => exact ⟨0, by omega, rfl, unhide HR, rfl⟩
  case round =>
    clear HR
    obtain ⟨i, hi, rfl, hR, hw⟩ := hrel
    subst hw
    by_cases ai : i < n
    · have ai' : (i : Int) < (n : Int) := by omega
      obtain ⟨b, o, hix, hcx⟩ := (unhide H).idx ai (i : Int) rfl
      have hil : i < L.length := by rw [unhide HL]; exact ai
      have hd : L.drop i = (L[i]?.getD 0) :: L.drop (i + 1) := by rw [List.drop_eq_getElem_cons hil, List.getElem?_eq_getElem hil]; rfl
      have hx := unhide HF (L[i]?.getD 0) (by rw [List.getElem?_eq_getElem hil]; exact List.getElem_mem hil)
      have hsum : 0 ≤ (L.drop (i + 1)).sum := sum_nonneg _ (fun x hx => (unhide HF x (List.mem_of_mem_drop hx)).1)
      rw [hd, List.sum_cons] at hR
      clear hd hil
      generalize L[i]?.getD 0 = v at *
      by_cases hv : 0 < v
      · have hfin := hide (show R = false by rw [hR, decide_eq_false_iff_not]; omega)
        clear hR hsum
        go_wp2_with fail
        go_ret
        rw [unhide hfin]
        exact ⟨rfl, rfl⟩
      · have hv0 : v = 0 := by omega
        have hnx := hide (show R = decide ((L.drop (i + 1)).sum = 0) by rw [hR, hv0, Int.zero_add])
        clear hR hsum
        go_wp2_with fail
        go_roundw
        case rel => exact ⟨i + 1, by omega, by go_num, unhide hnx, by first | rfl | trivial⟩
        case measure => simp [intOf]; omega
    · have ai' : ¬ (i : Int) < (n : Int) := by omega
      have hfin := hide (show R = true by rw [hR, List.drop_eq_nil_of_le (by rw [unhide HL]; omega)]; rfl)
      clear hR
      go_wp2_with fail
      go_ret
      rw [unhide hfin]
      exact ⟨rfl, rfl⟩

/-- How many are above 0. -/
def cpos : List Int → Nat
  | [] => 0
  | a :: l => (if 0 < a then 1 else 0) + cpos l
theorem cpos_le : ∀ l : List Int, cpos l ≤ l.length
  | [] => by simp [cpos]
  | a :: l => by
    have := cpos_le l
    simp only [cpos, List.length_cons]
    split <;> omega
theorem cpos_none : ∀ l : List Int, (∀ x ∈ l, 0 ≤ x) → l.sum = 0 → cpos l = 0
  | [], _, _ => rfl
  | a :: l, h, hs => by
    have h0 := h a (by simp)
    have h1 := sum_nonneg l (fun x hx => h x (List.mem_cons_of_mem _ hx))
    rw [List.sum_cons] at hs
    simp only [cpos]
    rw [if_neg (by omega), cpos_none l (fun x hx => h x (List.mem_cons_of_mem _ hx)) (by omega)]
theorem cpos_one : ∀ l : List Int, (∀ x ∈ l, 0 ≤ x) → l.sum = 1 → cpos l = 1
  | [], _, hs => by simp at hs
  | a :: l, h, hs => by
    have h0 := h a (by simp)
    have h1 := sum_nonneg l (fun x hx => h x (List.mem_cons_of_mem _ hx))
    rw [List.sum_cons] at hs
    simp only [cpos]
    by_cases ha : 0 < a
    · rw [if_pos ha, cpos_none l (fun x hx => h x (List.mem_cons_of_mem _ hx)) (by omega)]
    · rw [if_neg ha, cpos_one l (fun x hx => h x (List.mem_cons_of_mem _ hx)) (by omega)]
theorem cpos_app : ∀ (l : List Int) (x : Int), cpos (l ++ [x]) = cpos l + (if 0 < x then 1 else 0)
  | [], x => by simp [cpos]
  | a :: l, x => by simp only [List.cons_append, cpos, cpos_app l x]; omega
theorem sum_le15 : ∀ l : List Int, (∀ x ∈ l, 0 ≤ x ∧ x ≤ 15) → 0 ≤ l.sum ∧ l.sum ≤ 15 * (l.length : Int)
  | [], _ => by simp
  | a :: l, h => by
    have h1 := sum_le15 l (fun x hx => h x (List.mem_cons_of_mem _ hx))
    have h2 := h a (by simp)
    simp only [List.sum_cons, List.length_cons]
    omega

set_option maxHeartbeats 1000000 in
theorem single_rd (w : World) (ao : Option Addr) (n c : Nat) (L : List Int) (h : Is w ao n c L) (hR : ∀ x ∈ L, 0 ≤ x ∧ x ≤ 15) (hn : n ≤ 1000) :
    Calls Tryz.prog 85 #[.slice ao n c] w fun e w' => e = .returned (.bool (decide (L.sum = 1))) ∧ w' = w := by
  have hle := h.le
  have hmx := h.max
  have HL := hide h.len
  have H := hide h
  have HF := hide hR
  clear h hR
  go_enter Tryz.func85, Tryz.ntmps85
  go_wp2_with fail
  go_loopw [3, 4, 5] (fun nv sv iv ws => ∃ (i N : Nat) (S : Int), i ≤ n ∧ iv = .int .i64 (i : Int) ∧ nv = .int .i64 (N : Int) ∧ sv = .int .i64 S ∧ N = cpos (L.take i) ∧ S = (L.take i).sum ∧ ws = w) (fun _ _ iv _ => n - (intOf iv).toNat)
  case atStart => exact ⟨0, 0, 0, by omega, rfl, rfl, rfl, by simp [cpos], by simp, rfl⟩
  case round =>
    obtain ⟨i, N, S, hi, rfl, rfl, rfl, hN, hS, hw⟩ := hrel
    subst hw
    have hil : (L.take i).length = i := by rw [List.length_take, unhide HL]; omega
    have b1 := cpos_le (L.take i)
    have b2 := sum_le15 (L.take i) (fun x hx => unhide HF x (List.mem_of_mem_take hx))
    rw [← hN, hil] at b1
    rw [← hS, hil] at b2
    by_cases ai : i < n
    · have ai' : (i : Int) < (n : Int) := by omega
      obtain ⟨b, o, hix, hcx⟩ := (unhide H).idx ai (i : Int) rfl
      have hl : i < L.length := by rw [unhide HL]; exact ai
      have hd : L.take (i + 1) = L.take i ++ [L[i]?.getD 0] := by rw [List.take_add_one, List.getElem?_eq_getElem hl]; rfl
      have hx := unhide HF (L[i]?.getD 0) (by rw [List.getElem?_eq_getElem hl]; exact List.getElem_mem hl)
      have hnx := hide (show cpos (L.take (i + 1)) = N + (if 0 < L[i]?.getD 0 then 1 else 0) ∧ (L.take (i + 1)).sum = S + L[i]?.getD 0 by rw [hd, cpos_app, ← hN, List.sum_append, ← hS]; simp)
      clear hd hl hil hN hS
      generalize L[i]?.getD 0 = v at *
      by_cases hv : 0 < v
      · go_wp2_with fail
        go_roundw
        case rel => exact ⟨i + 1, N + 1, S + v, by omega, by go_num, by go_num, by go_num, by rw [(unhide hnx).1, if_pos hv], (unhide hnx).2.symm, by first | rfl | trivial⟩
        case measure => simp [intOf]; omega
      · go_wp2_with fail
        go_roundw
        case rel => exact ⟨i + 1, N, S + v, by omega, by go_num, by go_num, by go_num, by rw [(unhide hnx).1, if_neg hv]; rfl, (unhide hnx).2.symm, by first | rfl | trivial⟩
        case measure => simp [intOf]; omega
    · have ai' : ¬ (i : Int) < (n : Int) := by omega
      have hall : L.take i = L := List.take_of_length_le (by rw [unhide HL]; omega)
      rw [hall] at hN hS
      have h11 : S = 1 → (N : Int) = 1 := fun h1 => by
        have := cpos_one L (fun x hx => (unhide HF x hx).1) (by omega)
        omega
      have HSS := hide hS
      clear hN hS hall hil
      by_cases hS1 : S = 1
      · have e1 : ((N : Int) == 1) = true := by rw [beq_iff_eq]; exact h11 hS1
        have e2 : (S == 1) = true := by rw [beq_iff_eq]; exact hS1
        have hfin := hide (show decide (L.sum = 1) = true by rw [← unhide HSS]; simpa using hS1)
        clear h11 hS1
        go_wp2_with fail
        go_ret
        rw [unhide hfin]
        exact ⟨rfl, rfl⟩
      · have e2 : (S == 1) = false := by rw [beq_eq_false_iff_ne]; exact hS1
        have hfin := hide (show decide (L.sum = 1) = false by rw [← unhide HSS]; simpa using hS1)
        clear h11 hS1
        by_cases hN1 : (N : Int) = 1
        · have e1 : ((N : Int) == 1) = true := by rw [beq_iff_eq]; exact hN1
          clear hN1
          go_wp2_with fail
          go_ret
          rw [unhide hfin]
          exact ⟨rfl, rfl⟩
        · have e1 : ((N : Int) == 1) = false := by rw [beq_eq_false_iff_ne]; exact hN1
          clear hN1
          go_wp2_with fail
          go_ret
          rw [unhide hfin]
          exact ⟨rfl, rfl⟩

end Go.Proofs.YtnoabdafmgmenaaGreatDoor

namespace Go.Proofs.YtnoabdafmgmenaaGreatDoor
open Go.RowKit
set_option linter.unusedVariables false
set_option linter.unusedSimpArgs false

theorem Tryz.codeSize : (Tryz.prog.info? 101).map (·.size) = some 2 := by kernel_rfl

theorem wpList_cdStore {ops : Array Oper} {rest : List Oper} {o : Oper} {a : Act} {w : World} {Q : Exit → Act → World → Prop} (hgd : o.guard = none) (x y : Operand) (ho : o.op = .store 101 x y)
    (q : Nat) (v1 v2 u1 u2 : Value) (h1 : v1.oneCell' = true) (h2 : v2.oneCell' = true) (hx : a.eval x = .pointer (some ⟨q, 0, none⟩)) (hy : a.eval y = .agg #[v1, v2]) (hg : w.heap[q]? = some (.cells #[u1, u2] 101 (0, 0)))
    (h : ∀ w1, w1.heap[q]? = some (.cells #[v1, v2] 101 (0, 0)) → Gb q w w1 → w1.heap.size = w.heap.size → wpList Tryz.prog ops Q rest (a.put o.dst undef) w1) : wpList Tryz.prog ops Q (o :: rest) a w := by
  refine wpList_store_row hgd _ x y ho q #[v1, v2] hx hy _ #[u1, u2] hg Tryz.codeSize rfl (by simp [h1, h2]) ?_
  refine h _ (setRow_heap w q _ _ _ _ hg) ⟨rfl, rfl, rfl, by simp, fun k _ hk => setRow_other w q k _ hk⟩ (by simp)
theorem results_cd {fn : Func} {p : Tmp} (h : fn.results = #[.cell p 101]) (tmps : Array Value) (w : World) (q : Nat) (v1 v2 : Value)
    (hp : tmps.getD p undef = .pointer (some ⟨q, 0, none⟩)) (hq : w.heap[q]? = some (.cells #[v1, v2] 101 (0, 0))) : (results fn tmps).run Tryz.prog w = .ok (.agg #[v1, v2]) w :=
  results_cell_row h tmps w q _ #[v1, v2] (0, 0) _ hp hq Tryz.underlying101 rfl Tryz.codeSize

theorem IMine.keepN {B : Nat} {w w' : World} {ao : Option Addr} {n c : Nat} {xs : List Int} (h : IMine B w ao n c xs) (hk : ∀ k, B ≤ k ∧ k < w.heap.size → w'.heap[k]? = w.heap[k]?) : IMine B w' ao n c xs := by
  refine ⟨h.len, ⟨h.own.1, ?_⟩, h.fit⟩
  rcases h.own.2 with hv | ⟨g, cap, cur, hv, hg, hh, r⟩
  · exact .inl hv
  · exact .inr ⟨g, cap, cur, hv, hg, by rw [hk g ⟨hg, (Array.getElem?_eq_some_iff.1 hh).1⟩]; exact hh, r⟩

set_option maxHeartbeats 1000000 in
theorem made_rd (w : World) (ao : Option Addr) (n c : Nat) (L : List Int) (h : Is w ao n c L) :
    Calls Tryz.prog 62 #[.slice ao n c] w fun e w' => (∃ ao1 n1 c1, e = .returned (.agg #[.slice ao n c, .slice ao1 n1 c1]) ∧ IMine (w.heap.size + 1) w' ao1 n1 c1 (cdd L)) ∧ Below w.heap.size w w' := by
  have bl := below_alloc w (.cells #[Value.slice none 0 0, Value.slice none 0 0] 101)
  have cc := hide (codes_own ao n c L _ (h.later bl))
  have BL := hide bl
  have hst := heap_alloc_new w (.cells #[Value.slice none 0 0, Value.slice none 0 0] 101)
  have hsz : w.heap.size < (w.alloc (.cells #[Value.slice none 0 0, Value.slice none 0 0] 101)).heap.size := by simp
  have HSZ := hide hsz
  have HST := hide hst
  clear h bl hsz hst
  generalize cer L = CE at *
  go_enter Tryz.func62, Tryz.ntmps62
  go_wp2_with fail
  refine (unhide cc).mono ?_
  generalize w.alloc (.cells #[Value.slice none 0 0, Value.slice none 0 0] 101) = wa at *
  rintro e w1 ⟨⟨ao1, n1, c1, rfl, i1⟩, b1⟩
  have st1 : w1.heap[w.heap.size]? = some (.cells #[Value.slice none 0 0, Value.slice none 0 0] 101 (0, 0)) := by rw [b1.block _ (unhide HSZ)]; exact unhide HST
  have z1 := b1.size
  have hsz := unhide HSZ
  have I1 := hide i1
  have B1 := hide (((unhide BL).mono (Nat.le_refl _)).trans (b1.mono (by omega)))
  have hob := hide (show Below wa.heap.size wa w1 from b1)
  clear i1 b1
  go_wp2_with (first
    | (with_reducible show wpList Tryz.prog _ _ (Oper.mk _ (Op.store 101 _ _) _ _ _ none :: _) _ _; refine wpList_cdStore rfl (.tmp 2) (.tmp 12) rfl w.heap.size (.slice ao n c) (.slice ao1 n1 c1) _ _ rfl rfl rfl rfl st1 ?_; intro w2 st2 g2 z2))
  refine bodyPost_ret (results_cd rfl _ _ w.heap.size _ _ rfl st2) rfl ?_
  refine ⟨⟨ao1, n1, c1, rfl, ?_⟩, (unhide B1).trans ⟨g2.os, g2.tape, g2.output, g2.size, fun k hk => g2.block k (by omega) (by omega)⟩⟩
  exact ((unhide I1).mono (by omega)).keepN fun k hk => g2.block k hk.2 (by omega)

end Go.Proofs.YtnoabdafmgmenaaGreatDoor

namespace Go.Proofs.YtnoabdafmgmenaaGreatDoor
open Go.RowKit
set_option linter.unusedVariables false
set_option linter.unusedSimpArgs false

theorem len_ref_is : ∀ k : Nat, k < 28 → 8 ≤ k → lb k = 3 + (4 + (k - 4) % 4) * 2 ^ ((k - 4) / 4) ∧ lx k = (k - 4) / 4 := by decide
theorem lb_le : ∀ k : Nat, k < 28 → lb k ≤ 258 := by decide
theorem db_le : ∀ k : Nat, k < 30 → db k ≤ 30000 := by decide
theorem len_ref_low : ∀ k : Nat, k < 8 → lb k = k + 3 ∧ lx k = 0 := by decide
theorem dst_ref_is : ∀ k : Nat, k < 30 → 4 ≤ k → db k = 1 + (2 + k % 2) * 2 ^ ((k - 2) / 2) ∧ dx k = (k - 2) / 2 := by decide
theorem dst_ref_low : ∀ k : Nat, k < 4 → db k = k + 1 ∧ dx k = 0 := by decide

set_option maxHeartbeats 1000000 in
theorem length_ref (w : World) (k : Nat) (hk : k ≤ 28) (S : Int) (hS : S = 257 + (k : Int)) :
    Calls Tryz.prog 79 #[.int .i64 S] w fun e w' => e = .returned (.tuple #[.int .i64 (lb k : Int), .int .i64 (lx k : Int)]) ∧ w' = w := by
  by_cases h28 : k = 28
  · subst h28
    have e := hide (show lb 28 = 258 ∧ lx 28 = 0 by decide)
    have hS' : S = 285 := by omega
    subst hS'
    go_enter Tryz.func79, Tryz.ntmps79
    go_wp2_with fail
    go_ret2
    rw [(unhide e).1, (unhide e).2]
    exact ⟨rfl, rfl⟩
  · by_cases hlow : k < 8
    · have e := hide (len_ref_low k hlow)
      have hne : (S == 285) = false := by simp; omega
      have hlt : S < 265 := by omega
      have hS0 : 257 ≤ S := by omega
      have HS := hide hS
      clear hS
      go_enter Tryz.func79, Tryz.ntmps79
      go_wp2_with fail
      go_ret2
      rw [(unhide e).1, (unhide e).2]
      refine ⟨?_, rfl⟩
      rw [show S - 254 = ((k + 3 : Nat) : Int) by have := unhide HS; omega]
      rfl
    · have e := hide (len_ref_is k (by omega) (by omega))
      have hne : (S == 285) = false := by simp; omega
      have hlt : ¬ S < 265 := by omega
      obtain ⟨d, hd⟩ : ∃ d : Nat, d = k - 4 := ⟨_, rfl⟩
      rw [← hd] at e
      have hsd : S - 261 = (d : Int) := by omega
      have hd2 : 4 ≤ d ∧ d ≤ 23 := by omega
      have hS2 : 265 ≤ S ∧ S ≤ 284 := by omega
      obtain ⟨P, hP⟩ : ∃ P, P = (4 + d % 4) * 2 ^ (d / 4) := ⟨_, rfl⟩
      have hP1 : (4 + (d : Int) % 4) * 2 ^ (d / 4) = (P : Int) := by rw [hP]; simp
      have hP2 : P ≤ 255 := by have := lb_le k (by omega); have q := (unhide e).1; rw [← hP] at q; omega
      rw [← hP] at e
      clear hS hd h28 hlow hP
      go_enter Tryz.func79, Tryz.ntmps79
      go_wp2_with fail
      go_ret2
      rw [(unhide e).1, (unhide e).2]
      exact ⟨by simp, rfl⟩

set_option maxHeartbeats 1000000 in
theorem distance_ref (w : World) (k : Nat) (hk : k ≤ 29) (S : Int) (hS : S = (k : Int)) :
    Calls Tryz.prog 80 #[.int .i64 S] w fun e w' => e = .returned (.tuple #[.int .i64 (db k : Int), .int .i64 (dx k : Int)]) ∧ w' = w := by
  subst hS
  by_cases hlow : k < 4
  · have e := hide (dst_ref_low k hlow)
    have hlt : (k : Int) < 4 := by omega
    go_enter Tryz.func80, Tryz.ntmps80
    go_wp2_with fail
    go_ret2
    rw [(unhide e).1, (unhide e).2]
    exact ⟨by simp, rfl⟩
  · have e := hide (dst_ref_is k (by omega) (by omega))
    have hlt : ¬ (k : Int) < 4 := by omega
    obtain ⟨d, hd⟩ : ∃ d : Nat, d = k - 2 := ⟨_, rfl⟩
    rw [← hd] at e
    have hsd : (k : Int) - 2 = (d : Int) := by omega
    have hd2 : 2 ≤ d ∧ d ≤ 27 := by omega
    obtain ⟨P, hP⟩ : ∃ P, P = (2 + k % 2) * 2 ^ (d / 2) := ⟨_, rfl⟩
    have hP1 : (2 + (k : Int) % 2) * 2 ^ (d / 2) = (P : Int) := by rw [hP]; simp
    have hP2 : P ≤ 30000 := by have := db_le k (by omega); have q := (unhide e).1; rw [← hP] at q; omega
    rw [← hP] at e
    clear hd hlow hP
    go_enter Tryz.func80, Tryz.ntmps80
    go_wp2_with fail
    go_ret2
    rw [(unhide e).1, (unhide e).2]
    exact ⟨by simp, rfl⟩

end Go.Proofs.YtnoabdafmgmenaaGreatDoor
