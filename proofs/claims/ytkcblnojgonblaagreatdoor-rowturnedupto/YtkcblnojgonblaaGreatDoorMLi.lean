/-
  What the statements' helpers lives and small return: lives true; small only where there are at most 60 values and types, and texts of at most 3,000 bytes. They write nothing that was there. Conditions: texts of at most 2 to the 40 bytes.
  What the statements' helper SameValues returns of two slices that hold the same values: true. It changes no memory. Conditions: none.
-/
import Derived.Test.YtkcblnojgonblaaGreatDoorRwApp
import Derived.Test.YtkcblnojgonblaaGreatDoorRwBin
import Derived.Test.YtkcblnojgonblaaGreatDoorMA
import Derived.Test.YtkcblnojgonblaaGreatDoorMTm
import Derived.Test.YtkcblnojgonblaaGreatDoorVaEq
import Derived.BigQuiet
namespace Go.Proofs.YtkcblnojgonblaaGreatDoor
open Go.RowKit
set_option linter.unusedVariables false
set_option linter.unusedSimpArgs false

def lv1 : List Va := [⟨7, 0, 0, ⟨#[97]⟩, wh0⟩, ⟨0, 0, 0, ⟨#[]⟩, wh0⟩, ⟨7, 0, 0, ⟨#[]⟩, wh0⟩]
def lv2 : List Va := [⟨1, 1, 0, ⟨#[]⟩, wh0⟩, ⟨0, 0, 0, ⟨#[]⟩, wh0⟩]
def lt2 : List Ty := [⟨3, false⟩, ⟨1, false⟩]
theorem lv1_flat : (flatV lv1).toArray = #[.int .i64 7, .int .i64 0, .int .u64 0, .string ⟨#[97]⟩, .bool false, .int .i64 0, .int .i64 0, .int .i64 0, .int .i64 0, .int .i64 0, .int .i64 0, .int .i64 0, .int .i64 0, .int .i64 0, .int .u64 0, .string ⟨#[]⟩, .bool false, .int .i64 0, .int .i64 0, .int .i64 0, .int .i64 0, .int .i64 0, .int .i64 0, .int .i64 0, .int .i64 7, .int .i64 0, .int .u64 0, .string ⟨#[]⟩, .bool false, .int .i64 0, .int .i64 0, .int .i64 0, .int .i64 0, .int .i64 0, .int .i64 0, .int .i64 0] := rfl
theorem lv2_flat : (flatV lv2).toArray = #[.int .i64 1, .int .i64 1, .int .u64 0, .string ⟨#[]⟩, .bool false, .int .i64 0, .int .i64 0, .int .i64 0, .int .i64 0, .int .i64 0, .int .i64 0, .int .i64 0, .int .i64 0, .int .i64 0, .int .u64 0, .string ⟨#[]⟩, .bool false, .int .i64 0, .int .i64 0, .int .i64 0, .int .i64 0, .int .i64 0, .int .i64 0, .int .i64 0] := rfl
theorem lt2_flat : (flatT lt2).toArray = #[.int .u8 3, .bool false, .int .u8 1, .bool false] := rfl
theorem wh0K' : WhK wh0 := ⟨⟨by decide, by decide⟩, ⟨by decide, by decide⟩, ⟨by decide, by decide⟩, ⟨by decide, by decide⟩, ⟨by decide, by decide⟩, ⟨by decide, by decide⟩, ⟨by decide, by decide⟩⟩
theorem lv1_K : ∀ v ∈ lv1, VaK v ∧ v.t.size ≤ 3000 := by
  intro v hv
  simp only [lv1, List.mem_cons, List.not_mem_nil, or_false] at hv
  rcases hv with rfl | rfl | rfl
  all_goals exact ⟨⟨⟨by decide, by decide⟩, ⟨by decide, by decide⟩, ⟨by decide, by decide⟩, wh0K'⟩, by decide⟩
theorem lv2_K : ∀ v ∈ lv2, VaK v ∧ v.t.size ≤ 3000 := by
  intro v hv
  simp only [lv2, List.mem_cons, List.not_mem_nil, or_false] at hv
  rcases hv with rfl | rfl
  all_goals exact ⟨⟨⟨by decide, by decide⟩, ⟨by decide, by decide⟩, ⟨by decide, by decide⟩, wh0K'⟩, by decide⟩
theorem lt2_K : ∀ p ∈ lt2, 0 ≤ p.t ∧ p.t < 256 := by
  intro v hv
  simp only [lt2, List.mem_cons, List.not_mem_nil, or_false] at hv
  rcases hv with rfl | rfl
  all_goals exact ⟨by decide, by decide⟩
theorem lv1_ok : rtOk lv1 = true := by kernel_rfl
theorem lv1_by : rtB lv1 = [1, 97, 251, 0] := by kernel_rfl
theorem lv2_ok : (decide (lv2.length = lt2.length) && rbOk (lv2.zip lt2)) = true := by kernel_rfl
theorem lv2_by : rbB (lv2.zip lt2) = [1, 0, 0, 0] := by kernel_rfl
theorem lv2_is : Isn lv2 [8] := by
  refine ⟨rfl, Byt.one (by decide) (by decide), fun j => ?_⟩
  by_cases hj : j < 8
  · rcases (show j = 0 ∨ j = 1 ∨ j = 2 ∨ j = 3 ∨ j = 4 ∨ j = 5 ∨ j = 6 ∨ j = 7 by omega) with rfl | rfl | rfl | rfl | rfl | rfl | rfl | rfl <;> kernel_rfl
  · rw [bit_out (by simp; omega)]
    unfold nb
    rw [List.getElem?_eq_none (by simp [lv2]; omega)]
    simp

set_option maxHeartbeats 4000000 in
set_option maxRecDepth 100000 in
theorem rwLives_any (w : World) : Calls Tryz.prog 8 #[] w fun e w' => e = .returned (.bool true) ∧ Below w.heap.size w w' := by
  have q1 := below_alloc w (.cells #[.int .i64 7, .int .i64 0, .int .u64 0, .string ⟨#[97]⟩, .bool false, .int .i64 0, .int .i64 0, .int .i64 0, .int .i64 0, .int .i64 0, .int .i64 0, .int .i64 0, .int .i64 0, .int .i64 0, .int .u64 0, .string ⟨#[]⟩, .bool false, .int .i64 0, .int .i64 0, .int .i64 0, .int .i64 0, .int .i64 0, .int .i64 0, .int .i64 0, .int .i64 7, .int .i64 0, .int .u64 0, .string ⟨#[]⟩, .bool false, .int .i64 0, .int .i64 0, .int .i64 0, .int .i64 0, .int .i64 0, .int .i64 0, .int .i64 0] 38)
  have hv1 := Vs.lit w lv1 (by decide)
  rw [lv1_flat] at hv1
  have c1 := hide (appText_any none 0 0 [] (some ⟨w.heap.size, 0, none⟩) 3 3 lv1 (w.alloc (.cells #[.int .i64 7, .int .i64 0, .int .u64 0, .string ⟨#[97]⟩, .bool false, .int .i64 0, .int .i64 0, .int .i64 0, .int .i64 0, .int .i64 0, .int .i64 0, .int .i64 0, .int .i64 0, .int .i64 0, .int .u64 0, .string ⟨#[]⟩, .bool false, .int .i64 0, .int .i64 0, .int .i64 0, .int .i64 0, .int .i64 0, .int .i64 0, .int .i64 0, .int .i64 7, .int .i64 0, .int .u64 0, .string ⟨#[]⟩, .bool false, .int .i64 0, .int .i64 0, .int .i64 0, .int .i64 0, .int .i64 0, .int .i64 0, .int .i64 0] 38)) (Bs.nought _) hv1 lv1_K (by decide) (by decide))
  rw [lv1_ok, if_pos rfl, lv1_by, List.nil_append] at c1
  unfold OutP at c1
  simp only at c1
  have Q1 := hide q1
  clear q1 hv1
  go_enter Tryz.func8, Tryz.ntmps8
  go_wp2_with fail
  refine (unhide c1).mono ?_
  rintro e w2 ⟨a2, n2, c2, rfl, m2, b2⟩
  have M2 := hide m2.bs
  have B2 := hide ((unhide Q1).trans (b2.mono (unhide Q1).size))
  clear m2 b2 c1 Q1
  have q2 := below_alloc w2 (.cells #[.int .i64 1, .int .i64 1, .int .u64 0, .string ⟨#[]⟩, .bool false, .int .i64 0, .int .i64 0, .int .i64 0, .int .i64 0, .int .i64 0, .int .i64 0, .int .i64 0, .int .i64 0, .int .i64 0, .int .u64 0, .string ⟨#[]⟩, .bool false, .int .i64 0, .int .i64 0, .int .i64 0, .int .i64 0, .int .i64 0, .int .i64 0, .int .i64 0] 38)
  have q3 := below_alloc (w2.alloc (.cells #[.int .i64 1, .int .i64 1, .int .u64 0, .string ⟨#[]⟩, .bool false, .int .i64 0, .int .i64 0, .int .i64 0, .int .i64 0, .int .i64 0, .int .i64 0, .int .i64 0, .int .i64 0, .int .i64 0, .int .u64 0, .string ⟨#[]⟩, .bool false, .int .i64 0, .int .i64 0, .int .i64 0, .int .i64 0, .int .i64 0, .int .i64 0, .int .i64 0] 38)) (.cells #[.int .u8 3, .bool false, .int .u8 1, .bool false] 23)
  have hs : (w2.alloc (.cells #[.int .i64 1, .int .i64 1, .int .u64 0, .string ⟨#[]⟩, .bool false, .int .i64 0, .int .i64 0, .int .i64 0, .int .i64 0, .int .i64 0, .int .i64 0, .int .i64 0, .int .i64 0, .int .i64 0, .int .u64 0, .string ⟨#[]⟩, .bool false, .int .i64 0, .int .i64 0, .int .i64 0, .int .i64 0, .int .i64 0, .int .i64 0, .int .i64 0] 38)).heap.size = w2.heap.size + 1 := by simp
  have hv2 := Vs.lit w2 lv2 (by decide)
  rw [lv2_flat] at hv2
  have hv3 := hv2.later q3
  have ht3 := Tys.lit (w2.alloc (.cells #[.int .i64 1, .int .i64 1, .int .u64 0, .string ⟨#[]⟩, .bool false, .int .i64 0, .int .i64 0, .int .i64 0, .int .i64 0, .int .i64 0, .int .i64 0, .int .i64 0, .int .i64 0, .int .i64 0, .int .u64 0, .string ⟨#[]⟩, .bool false, .int .i64 0, .int .i64 0, .int .i64 0, .int .i64 0, .int .i64 0, .int .i64 0, .int .i64 0] 38)) lt2 (by decide)
  rw [lt2_flat, hs] at ht3
  have c3 := hide (appBin_any none 0 0 [] (some ⟨w2.heap.size, 0, none⟩) 2 2 lv2 (some ⟨w2.heap.size + 1, 0, none⟩) 2 2 lt2 ((w2.alloc (.cells #[.int .i64 1, .int .i64 1, .int .u64 0, .string ⟨#[]⟩, .bool false, .int .i64 0, .int .i64 0, .int .i64 0, .int .i64 0, .int .i64 0, .int .i64 0, .int .i64 0, .int .i64 0, .int .i64 0, .int .u64 0, .string ⟨#[]⟩, .bool false, .int .i64 0, .int .i64 0, .int .i64 0, .int .i64 0, .int .i64 0, .int .i64 0, .int .i64 0] 38)).alloc (.cells #[.int .u8 3, .bool false, .int .u8 1, .bool false] 23)) (Bs.nought _) hv3 ht3 lv2_K lt2_K (by decide) (by decide) (by decide))
  unfold OutN at c3
  rw [lv2_ok] at c3
  simp only [if_pos (show true = true from rfl), List.nil_append] at c3
  have Q3 := hide (q2.trans (q3.mono q2.size))
  clear q2 q3 hv2 hv3 ht3 hs
  go_wp2_with fail
  refine (unhide c3).mono ?_
  rintro e w4 ⟨nl, a4, n4, c4, hI, rfl, m4, b4⟩
  have hnl := hI.one lv2_is
  subst hnl
  rw [lv2_by] at m4
  have M4 := hide m4.bs
  have B4 := hide ((unhide Q3).trans (b4.mono (unhide Q3).size))
  have HB4 := hide ((unhide B2).trans ((unhide B4).mono (unhide B2).size))
  have MM := hide ((unhide M2).later (unhide B4))
  clear m4 b4 c3 Q3 B2 M2 hI
  have d1 := below_alloc w4 (.cells #[.int .u8 1, .int .u8 97, .int .u8 251, .int .u8 0] 5)
  have cS := hide (sameBytes_any a2 n2 c2 [1, 97, 251, 0] (some ⟨w4.heap.size, 0, none⟩) 4 4 [1, 97, 251, 0] (w4.alloc (.cells #[.int .u8 1, .int .u8 97, .int .u8 251, .int .u8 0] 5)) ((unhide MM).later d1) (Bs.lit w4 [1, 97, 251, 0] (by intro x hx; simp at hx; omega) (by simp)))
  rw [decide_eq_true rfl] at cS
  have d2 := below_alloc (w4.alloc (.cells #[.int .u8 1, .int .u8 97, .int .u8 251, .int .u8 0] 5)) (.cells #[.int .u8 0, .int .u8 8, .int .u8 1, .int .u8 0, .int .u8 0, .int .u8 0] 5)
  have hl2 := Bs.lit (w4.alloc (.cells #[.int .u8 1, .int .u8 97, .int .u8 251, .int .u8 0] 5)) [0, 8, 1, 0, 0, 0] (by intro x hx; simp at hx; omega) (by simp)
  have hz : (w4.alloc (.cells #[.int .u8 1, .int .u8 97, .int .u8 251, .int .u8 0] 5)).heap.size = w4.heap.size + 1 := by simp
  rw [hz] at hl2
  have cR := hide (sameBytes_any a4 n4 c4 [0, 8, 1, 0, 0, 0] (some ⟨w4.heap.size + 1, 0, none⟩) 6 6 [0, 8, 1, 0, 0, 0] ((w4.alloc (.cells #[.int .u8 1, .int .u8 97, .int .u8 251, .int .u8 0] 5)).alloc (.cells #[.int .u8 0, .int .u8 8, .int .u8 1, .int .u8 0, .int .u8 0, .int .u8 0] 5)) (((unhide M4).later d1).later d2) hl2)
  rw [decide_eq_true rfl] at cR
  have D2 := hide (d1.trans (d2.mono d1.size))
  clear d1 d2 hl2 hz
  go_wp2_with (first | (go_at_call 10; (with_reducible refine same_world (unhide cS) ?_)) | (go_at_call 10; (with_reducible refine same_world (unhide cR) ?_)))
  go_ret
  exact ⟨rfl, (unhide HB4).trans ((unhide D2).mono (unhide HB4).size)⟩

def sm (l : List Va) : Nat := (l.map fun v => v.t.size).sum
theorem sm_le : ∀ {l : List Va}, (∀ v ∈ l, v.t.size ≤ 1099511627776) → sm l ≤ 1099511627776 * l.length
  | [], _ => by simp [sm]
  | v :: l, h => by
    have h1 := h v (by simp)
    have ih := sm_le (l := l) (fun x hx => h x (by simp [hx]))
    show v.t.size + sm l ≤ _
    rw [List.length_cons]
    omega
theorem sm_in : ∀ {l : List Va} {v : Va}, v ∈ l → v.t.size ≤ sm l
  | [], v, h => by cases h
  | a :: l, v, h => by
    show _ ≤ a.t.size + sm l
    rcases List.mem_cons.1 h with h | h
    · subst h; omega
    · have := sm_in h; omega
theorem sm_next {l : List Va} {j : Nat} {v : Va} (h : l[j]? = some v) : sm (l.take (j + 1)) = sm (l.take j) + v.t.size := by
  rw [take_one h]
  unfold sm
  simp
/-- What small tells. -/
def SmP (n m : Nat) (l : List Va) (e : Ending) : Prop := ∃ b : Bool, e = .returned (.bool b) ∧ (b = true → n ≤ 60 ∧ m ≤ 60 ∧ (∀ v ∈ l, v.t.size ≤ 3000) ∧ sm l ≤ 3000)
theorem SmP.no {n m : Nat} {l : List Va} : SmP n m l (.returned (.bool false)) := ⟨false, rfl, fun h => by cases h⟩
theorem SmP.yes {n m : Nat} {l : List Va} {b : Bool} (h : b = true → n ≤ 60 ∧ m ≤ 60 ∧ (∀ v ∈ l, v.t.size ≤ 3000) ∧ sm l ≤ 3000) : SmP n m l (.returned (.bool b)) := ⟨b, rfl, h⟩

set_option maxHeartbeats 4000000 in
set_option maxRecDepth 100000 in
theorem rwSmall_any (ao : Option Addr) (n c : Nat) (l : List Va) (tyo : Option Addr) (m tc : Nat) (ts : List Ty) (w : World) (hl : Vs w ao n c l) (ht : Tys w tyo m tc ts) (hs : ∀ v ∈ l, v.t.size ≤ 1099511627776) :
    Calls Tryz.prog 17 #[.slice ao n c, .slice tyo m tc] w fun e w' => SmP n m l e ∧ w' = w := by
  have hln := hl.len
  have hle := hl.le
  have hmx := hl.max
  have htl := ht.le
  have htx := ht.max
  have HL := hide hl
  have HS := hide (fun j => sm_le (l := l.take j) (fun v hv => hs v (List.mem_of_mem_take hv)))
  have HSV := hide hs
  clear hl ht hs
  go_enter Tryz.func17, Tryz.ntmps17
  go_wp2_with fail
  go_loop [6, 5] (fun iv sv => ∃ (j : Nat), j ≤ n ∧ j ≤ 61 ∧ iv = .int .i64 (j : Int) ∧ sv = .int .i64 (sm (l.take j) : Nat)) (fun iv _ => n - (intOf iv).toNat)
  case atStart => exact ⟨0, by omega, by omega, rfl, rfl⟩
  case round =>
    obtain ⟨j, hj, hj2, rfl, rfl⟩ := hrel
    have hsj := unhide HS j
    rw [List.length_take] at hsj
    have hsj2 : sm (l.take j) ≤ 70368744177664 := by omega
    by_cases hlt : j < n
    · have g1 : ((j : Nat) : Int) < (n : Int) := by omega
      by_cases h60 : j ≤ 60
      · have g2 : ((j : Nat) : Int) ≤ 60 := by omega
        obtain ⟨v, hv⟩ : ∃ v, l[j]? = some v := ⟨_, List.getElem?_eq_getElem (by omega)⟩
        obtain ⟨pb, po, hix, hat⟩ := (unhide HL).idx hv (j : Int) rfl
        have k3 : w.cell? ⟨pb, po + 3, none⟩ = some (.string v.t) := hat 3 (by decide)
        have HN := hide (sm_next hv)
        have hvs := unhide HSV v (List.mem_of_getElem? hv)
        generalize v.t = tx at *
        generalize sm (l.take j) = SJ at *
        clear hat hv hsj
        go_wp2_with fail
        go_round
        case rel => exact ⟨j + 1, by omega, by omega, by go_num, by rw [unhide HN]; go_num⟩
        case measure => simp [intOf]; omega
      · have g2 : ¬ ((j : Nat) : Int) ≤ 60 := by omega
        have g3 : ¬ (n : Int) ≤ 60 := by omega
        generalize sm (l.take j) = SJ at *
        go_wp2_with fail
        go_ret
        exact ⟨SmP.no, rfl⟩
    · have hjn : j = n := by omega
      subst hjn
      have g1 : ¬ ((j : Nat) : Int) < (j : Int) := by omega
      have HJ := hide (show ∀ v ∈ l, v.t.size ≤ sm (l.take j) from fun v hv => by rw [List.take_of_length_le (by omega)]; exact sm_in hv)
      have HJ2 := hide (show sm l = sm (l.take j) by rw [List.take_of_length_le (by omega)])
      generalize sm (l.take j) = SJ at *
      by_cases h1 : j ≤ 60
      · have g2 : ((j : Nat) : Int) ≤ 60 := by omega
        by_cases h2 : m ≤ 60
        · have g3 : ((m : Nat) : Int) ≤ 60 := by omega
          go_wp2_with fail
          go_ret
          refine ⟨SmP.yes (b := decide ((SJ : Int) ≤ 3000)) (fun h => ⟨h1, h2, fun v hv => ?_, ?_⟩), rfl⟩
          · have := unhide HJ v hv
            simp at h
            omega
          · have := unhide HJ2
            simp at h
            omega
        · have g3 : ¬ ((m : Nat) : Int) ≤ 60 := by omega
          go_wp2_with fail
          go_ret
          exact ⟨SmP.no, rfl⟩
      · have g2 : ¬ ((j : Nat) : Int) ≤ 60 := by omega
        go_wp2_with fail
        go_ret
        exact ⟨SmP.no, rfl⟩


end Go.Proofs.YtkcblnojgonblaaGreatDoor

namespace Go.Proofs.YtkcblnojgonblaaGreatDoor
open Go.RowKit
set_option linter.unusedVariables false
set_option linter.unusedSimpArgs false

theorem below_sv (w : World) (n : Nat) : Below w.heap.size w (w.drewN n) := ⟨rfl, rfl, rfl, Nat.le_refl _, fun _ _ => rfl⟩
theorem neqv_self (p : Va) (w : World) : (binOp .neq 38 (.agg (vaC p)) (.agg (vaC p))).run Tryz.prog w = .ok (.bool false) w := by
  have h := eqv p p w
  rw [run_eql_struct] at h
  rw [run_neq_struct]
  cases hq : (Op.equalIn 10000 38 (.agg (vaC p)) (.agg (vaC p))).run Tryz.prog w with
  | ok b w' =>
    rw [hq] at h
    simp [Result.andThen] at h ⊢
    obtain ⟨h1, h2⟩ := h
    subst h1 h2
    simp
  | _ => rw [hq] at h; simp [Result.andThen] at h

set_option maxHeartbeats 1000000 in
set_option maxRecDepth 100000 in
theorem sameValues_self (ao : Option Addr) (n c : Nat) (bo : Option Addr) (m d : Nat) (l : List Va) (w : World) (h : Vs w ao n c l) (k : Vs w bo m d l) :
    Calls Tryz.prog 9 #[.slice ao n c, .slice bo m d] w fun e w' => e = .returned (.bool true) ∧ Below w.heap.size w w' := by
  have hl := h.len
  have kl := k.len
  have hle := h.le
  have kle := k.le
  have hmx := h.max
  have kmx := k.max
  have H := hide h
  have K := hide k
  have hnm : m = n := by omega
  subst hnm
  have HL := hide hl
  clear h k hl kl
  go_enter Tryz.func9, Tryz.ntmps9
  go_wp2_with fail
  go_loopw [5] (fun i wr => ∃ (j q : Nat), j ≤ m ∧ i = .int .i64 (j : Int) ∧ wr = w.drewN q) (fun i _ => m - (intOf i).toNat)
  case atStart => exact ⟨0, 0, by omega, rfl, rfl⟩
  case round =>
    obtain ⟨j, q, hj, rfl, rfl⟩ := hrel
    by_cases hlt : j < m
    · obtain ⟨p, hp⟩ : ∃ p, l[j]? = some p := ⟨l[j]'(by rw [unhide HL]; exact hlt), List.getElem?_eq_getElem _⟩
      obtain ⟨b0, o0, i0, A0⟩ := (unhide H).idx hp (j : Int) rfl
      obtain ⟨b1, o1, i1, A1⟩ := (unhide K).idx hp (j : Int) rfl
      have g1 : ((j : Nat) : Int) < (m : Int) := by omega
      have NE := fun wx => neqv_self p wx
      have L0 : (loadVar 38 ⟨b0, o0, none⟩).run Tryz.prog w = .ok (.agg (vaC p)) w := A0.run
      have L1 : (loadVar 38 ⟨b1, o1, none⟩).run Tryz.prog w = .ok (.agg (vaC p)) w := A1.run
      obtain ⟨kk, ii, bb, tx, ⟨ng, yy, mo, dd, hh, mi, ss, mc⟩⟩ := p
      unfold vaC at NE
      simp only at NE
      have c0 : w.cell? ⟨b0, o0, none⟩ = some (.int .i64 kk) := A0 0 (by decide)
      have c0_1 : w.cell? ⟨b0, o0 + 1, none⟩ = some (.int .i64 ii) := A0 1 (by decide)
      have c0_2 : w.cell? ⟨b0, o0 + 2, none⟩ = some (.int .u64 bb) := A0 2 (by decide)
      have c0_3 : w.cell? ⟨b0, o0 + 3, none⟩ = some (.string tx) := A0 3 (by decide)
      have c0_4 : w.cell? ⟨b0, o0 + 4, none⟩ = some (.bool ng) := A0 4 (by decide)
      have c0_5 : w.cell? ⟨b0, o0 + 5, none⟩ = some (.int .i64 yy) := A0 5 (by decide)
      have c0_6 : w.cell? ⟨b0, o0 + 6, none⟩ = some (.int .i64 mo) := A0 6 (by decide)
      have c0_7 : w.cell? ⟨b0, o0 + 7, none⟩ = some (.int .i64 dd) := A0 7 (by decide)
      have c0_8 : w.cell? ⟨b0, o0 + 8, none⟩ = some (.int .i64 hh) := A0 8 (by decide)
      have c0_9 : w.cell? ⟨b0, o0 + 9, none⟩ = some (.int .i64 mi) := A0 9 (by decide)
      have c0_10 : w.cell? ⟨b0, o0 + 10, none⟩ = some (.int .i64 ss) := A0 10 (by decide)
      have c0_11 : w.cell? ⟨b0, o0 + 11, none⟩ = some (.int .i64 mc) := A0 11 (by decide)
      have c1_0 : w.cell? ⟨b1, o1, none⟩ = some (.int .i64 kk) := A1 0 (by decide)
      have c1_1 : w.cell? ⟨b1, o1 + 1, none⟩ = some (.int .i64 ii) := A1 1 (by decide)
      have c1_2 : w.cell? ⟨b1, o1 + 2, none⟩ = some (.int .u64 bb) := A1 2 (by decide)
      have c1_3 : w.cell? ⟨b1, o1 + 3, none⟩ = some (.string tx) := A1 3 (by decide)
      have c1_4 : w.cell? ⟨b1, o1 + 4, none⟩ = some (.bool ng) := A1 4 (by decide)
      have c1_5 : w.cell? ⟨b1, o1 + 5, none⟩ = some (.int .i64 yy) := A1 5 (by decide)
      have c1_6 : w.cell? ⟨b1, o1 + 6, none⟩ = some (.int .i64 mo) := A1 6 (by decide)
      have c1_7 : w.cell? ⟨b1, o1 + 7, none⟩ = some (.int .i64 dd) := A1 7 (by decide)
      have c1_8 : w.cell? ⟨b1, o1 + 8, none⟩ = some (.int .i64 hh) := A1 8 (by decide)
      have c1_9 : w.cell? ⟨b1, o1 + 9, none⟩ = some (.int .i64 mi) := A1 9 (by decide)
      have c1_10 : w.cell? ⟨b1, o1 + 10, none⟩ = some (.int .i64 ss) := A1 10 (by decide)
      have c1_11 : w.cell? ⟨b1, o1 + 11, none⟩ = some (.int .i64 mc) := A1 11 (by decide)
      clear hp A0 A1 L0 L1
      go_wp2_with fail
      go_quiet (fail)
      go_wp2_with fail
      go_roundw
      case rel => exact ⟨j + 1, _, by omega, by go_num, (by first | rfl | exact World.drewN_drewN _ _ _)⟩
      case measure => simp [intOf]; omega
    · have hjn : j = m := by omega
      subst hjn
      have g1 : ¬ ((j : Nat) : Int) < (j : Int) := by omega
      go_wp2_with fail
      go_ret
      exact ⟨rfl, below_sv _ _⟩

end Go.Proofs.YtkcblnojgonblaaGreatDoor
