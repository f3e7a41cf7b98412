/-
  What the statements' helpers lives and small return: lives true; small only where there are at most 60 parameters, and texts of at most 3,000 bytes together. They write nothing that was there. Conditions: texts of at most 2 to the 40 bytes.
-/
import Derived.Test.YtfgghgoonfamkaaPmBack
import Derived.Test.YtfgghgoonfamkaaPmApp
import Derived.Test.YtfgghgoonfamkaaMA
namespace Go.Proofs.Ytfgghgoonfamkaa
open Go.RowKit
set_option linter.unusedVariables false
set_option linter.unusedSimpArgs false

def lp1 : Pa := ⟨⟨3, false⟩, false, ⟨1, 7, 0, ⟨#[]⟩, wh0⟩⟩
def lt1 : List Ty := [⟨3, false⟩]
theorem lp1_flat : (flatP [lp1]).toArray = #[.int .u8 3, .bool false, .bool false, .int .i64 1, .int .i64 7, .int .u64 0, .string ⟨#[]⟩, .bool false, .int .i64 0, .int .i64 0, .int .i64 0, .int .i64 0, .int .i64 0, .int .i64 0, .int .i64 0] := rfl
theorem lt1_flat : (flatT lt1).toArray = #[.int .u8 3, .bool false] := rfl
theorem w0K : WhK wh0 := ⟨⟨by decide, by decide⟩, ⟨by decide, by decide⟩, ⟨by decide, by decide⟩, ⟨by decide, by decide⟩, ⟨by decide, by decide⟩, ⟨by decide, by decide⟩, ⟨by decide, by decide⟩⟩
theorem lp1_K : ∀ p ∈ [lp1], VaK p.v ∧ p.v.t.size ≤ 3000 ∧ 0 ≤ p.t.t ∧ p.t.t < 256 := by
  intro p hp
  simp only [List.mem_cons, List.not_mem_nil, or_false] at hp
  subst hp
  exact ⟨⟨⟨by decide, by decide⟩, ⟨by decide, by decide⟩, ⟨by decide, by decide⟩, w0K⟩, by decide, by decide, by decide⟩
theorem lt1_T : ∀ p ∈ lt1, 0 ≤ p.t ∧ p.t < 256 := by
  intro p hp
  simp only [lt1, List.mem_cons, List.not_mem_nil, or_false] at hp
  subst hp
  exact ⟨by decide, by decide⟩
theorem lp1_ok : plOk [lp1] = true := by kernel_rfl
theorem lp1_is : Isp [lp1] [0] := by
  refine ⟨rfl, Byt.one (by decide) (by decide), fun j => ?_⟩
  by_cases hj : j < 8
  · rcases (show j = 0 ∨ j = 1 ∨ j = 2 ∨ j = 3 ∨ j = 4 ∨ j = 5 ∨ j = 6 ∨ j = 7 by omega) with rfl | rfl | rfl | rfl | rfl | rfl | rfl | rfl <;> kernel_rfl
  · rw [bit_out (by simp; omega)]
    unfold pnb
    rw [List.getElem?_eq_none (by simp; omega)]
theorem lp1_by : paB [lp1] true [0] = [0, 1, 3, 0, 7, 0, 0, 0] := by kernel_rfl
theorem lp1_rd : pmR [0, 0, 7, 0, 0, 0] 1 lt1 [] = ([lp1], false, 0) := by kernel_rfl

set_option maxHeartbeats 4000000 in
set_option maxRecDepth 100000 in
theorem pmLives_any (w : World) : Calls Try.prog 10 #[] w fun e w' => e = .returned (.bool true) ∧ Below w.heap.size w w' := by
  have q1 := below_alloc w (.cells #[.int .u8 3, .bool false] 27)
  have r1 := heap_alloc_new w (.cells #[.int .u8 3, .bool false] 27)
  have q2 := below_alloc (w.alloc (.cells #[.int .u8 3, .bool false] 27)) (.cells #[.int .u8 3, .bool false, .bool false, .int .i64 1, .int .i64 7, .int .u64 0, .string ⟨#[]⟩, .bool false, .int .i64 0, .int .i64 0, .int .i64 0, .int .i64 0, .int .i64 0, .int .i64 0, .int .i64 0] 34)
  have z1 : (w.alloc (.cells #[.int .u8 3, .bool false] 27)).heap.size = w.heap.size + 1 := by simp
  have hp := Pas.lit (w.alloc (.cells #[.int .u8 3, .bool false] 27)) [lp1] (by decide)
  rw [lp1_flat, z1] at hp
  have k0 := vrow_cell r1 (j := 0) (v := .int .u8 3) rfl
  have k1 := vrow_cell r1 (j := 1) (v := .bool false) rfl
  have c1 := hide (pappend_any none 0 0 [] (some ⟨w.heap.size + 1, 0, none⟩) 1 1 [lp1] true ((w.alloc (.cells #[.int .u8 3, .bool false] 27)).alloc (.cells #[.int .u8 3, .bool false, .bool false, .int .i64 1, .int .i64 7, .int .u64 0, .string ⟨#[]⟩, .bool false, .int .i64 0, .int .i64 0, .int .i64 0, .int .i64 0, .int .i64 0, .int .i64 0, .int .i64 0] 34)) (Bs.nought _) hp lp1_K (by decide) (by decide) (by decide))
  have S2 := hide (show Below w.heap.size w ((w.alloc (.cells #[.int .u8 3, .bool false] 27)).alloc (.cells #[.int .u8 3, .bool false, .bool false, .int .i64 1, .int .i64 7, .int .u64 0, .string ⟨#[]⟩, .bool false, .int .i64 0, .int .i64 0, .int .i64 0, .int .i64 0, .int .i64 0, .int .i64 0, .int .i64 0] 34)) ∧ ((w.alloc (.cells #[.int .u8 3, .bool false] 27)).alloc (.cells #[.int .u8 3, .bool false, .bool false, .int .i64 1, .int .i64 7, .int .u64 0, .string ⟨#[]⟩, .bool false, .int .i64 0, .int .i64 0, .int .i64 0, .int .i64 0, .int .i64 0, .int .i64 0, .int .i64 0] 34)).heap[w.heap.size]? = some (.cells #[.int .u8 3, .bool false] 27 (0, 0)) from ⟨vbup q1 q2, vrow_later r1 q2⟩)
  clear q1 r1 q2 z1 hp
  go_enter Try.func10, Try.ntmps10
  go_wp2_with fail
  refine (unhide c1).mono ?_
  intro e w3 h3
  obtain ⟨xo, xn, xc, nl, rfl, hI, m3, b3⟩ := OutA.oks h3 lp1_ok
  have hnl := hI.one lp1_is
  subst hnl
  rw [lp1_by, List.nil_append] at m3
  have S3 := hide (show Below w.heap.size w w3 ∧ w3.heap[w.heap.size]? = some (.cells #[.int .u8 3, .bool false] 27 (0, 0)) ∧ Bs w3 xo xn xc [0, 1, 3, 0, 7, 0, 0, 0] from ⟨vbup (unhide S2).1 b3, vrow_later (unhide S2).2 b3, m3.bs⟩)
  clear h3 hI m3 b3 c1 S2 k0 k1
  have q4 := below_alloc w3 (.cells #[.int .u8 0, .int .u8 0, .int .u8 7, .int .u8 0, .int .u8 0, .int .u8 0] 5)
  have z4 : (w3.alloc (.cells #[.int .u8 0, .int .u8 0, .int .u8 7, .int .u8 0, .int .u8 0, .int .u8 0] 5)).heap.size = w3.heap.size + 1 := by simp
  have r4 := vrow_later (unhide S3).2.1 q4
  have k0 := vrow_cell r4 (j := 0) (v := .int .u8 3) rfl
  have k1 := vrow_cell r4 (j := 1) (v := .bool false) rfl
  have q5 := below_alloc (w3.alloc (.cells #[.int .u8 0, .int .u8 0, .int .u8 7, .int .u8 0, .int .u8 0, .int .u8 0] 5)) (.cells #[.int .u8 3, .bool false] 27)
  have ht := Tys.lit (w3.alloc (.cells #[.int .u8 0, .int .u8 0, .int .u8 7, .int .u8 0, .int .u8 0, .int .u8 0] 5)) lt1 (by decide)
  rw [lt1_flat, z4] at ht
  have c5 := hide (pread_any (some ⟨w3.heap.size, 0, none⟩) 6 6 [0, 0, 7, 0, 0, 0] 1 (some ⟨w3.heap.size + 1, 0, none⟩) 1 1 lt1 none 0 0 [] ((w3.alloc (.cells #[.int .u8 0, .int .u8 0, .int .u8 7, .int .u8 0, .int .u8 0, .int .u8 0] 5)).alloc (.cells #[.int .u8 3, .bool false] 27)) ((Bs.lit w3 [0, 0, 7, 0, 0, 0] (by intro x hx; simp at hx; omega) (by simp)).later q5) ht lt1_T (Bls.nought _) (by decide))
  rw [lp1_rd] at c5
  have Q5 := hide (vbup q4 q5)
  clear q4 z4 r4 q5 ht
  go_wp2_with fail
  refine (unhide c5).mono ?_
  rintro e w6 ⟨yo, yn, yc, rfl, m6, b6⟩
  have B36 := hide (vbup (unhide Q5) b6)
  have hyn : yn = 1 := by have := m6.len; simpa using this.symm
  subst hyn
  have d6 := below_alloc w6 (.cells #[.int .u8 0, .int .u8 1, .int .u8 3, .int .u8 0, .int .u8 7, .int .u8 0, .int .u8 0, .int .u8 0] 5)
  obtain ⟨pb, po, hix, hat⟩ := (m6.ss.later d6).idx (i := 0) (p := lp1) rfl 0 rfl
  have g4 : (w6.alloc (.cells #[.int .u8 0, .int .u8 1, .int .u8 3, .int .u8 0, .int .u8 7, .int .u8 0, .int .u8 0, .int .u8 0] 5)).cell? ⟨pb, po + 4, none⟩ = some (.int .i64 7) := hat 4 (by decide)
  have g5 : (w6.alloc (.cells #[.int .u8 0, .int .u8 1, .int .u8 3, .int .u8 0, .int .u8 7, .int .u8 0, .int .u8 0, .int .u8 0] 5)).cell? ⟨pb, po + 3 + 1, none⟩ = some (.int .i64 7) := g4
  have cS := hide (sameBytes_any xo xn xc [0, 1, 3, 0, 7, 0, 0, 0] (some ⟨w6.heap.size, 0, none⟩) 8 8 [0, 1, 3, 0, 7, 0, 0, 0] (w6.alloc (.cells #[.int .u8 0, .int .u8 1, .int .u8 3, .int .u8 0, .int .u8 7, .int .u8 0, .int .u8 0, .int .u8 0] 5)) (((unhide S3).2.2.later (unhide B36)).later d6) (Bs.lit w6 [0, 1, 3, 0, 7, 0, 0, 0] (by intro x hx; simp at hx; omega) (by simp)))
  rw [decide_eq_true rfl] at cS
  have BF := hide (vbup (vbup (unhide S3).1 (unhide B36)) d6)
  clear m6 b6 c5 Q5 S3 hat d6 k0 k1 B36
  go_wp2_with fail
  refine same_world (unhide cS) ?_
  clear cS
  go_wp2_with fail
  go_ret
  exact ⟨rfl, unhide BF⟩

/-- What small tells. -/
def PmS (n : Nat) (l : List Pa) (e : Ending) : Prop := ∃ b : Bool, e = .returned (.bool b) ∧ (b = true → n ≤ 60 ∧ psm l ≤ 3000)
theorem PmS.no {n : Nat} {l : List Pa} : PmS n l (.returned (.bool false)) := ⟨false, rfl, fun h => by cases h⟩
theorem PmS.yes {n : Nat} {l : List Pa} {b : Bool} (h : b = true → n ≤ 60 ∧ psm l ≤ 3000) : PmS n l (.returned (.bool b)) := ⟨b, rfl, h⟩

set_option maxHeartbeats 4000000 in
set_option maxRecDepth 100000 in
theorem pmSmall_any (ao : Option Addr) (n c : Nat) (l : List Pa) (w : World) (hl : Pas w ao n c l) (hs : ∀ p ∈ l, p.v.t.size ≤ 1099511627776) :
    Calls Try.prog 12 #[.slice ao n c] w fun e w' => PmS n l e ∧ w' = w := by
  have hln := hl.len
  have hle := hl.le
  have hmx := hl.max
  have HL := hide hl
  have HS := hide (fun j => psm_le (l := l.take j) (fun v hv => hs v (List.mem_of_mem_take hv)))
  have HSV := hide hs
  clear hl hs
  go_enter Try.func12, Try.ntmps12
  go_wp2_with fail
  go_loop [4, 3] (fun iv sv => ∃ (j : Nat), j ≤ n ∧ j ≤ 61 ∧ iv = .int .i64 (j : Int) ∧ sv = .int .i64 (psm (l.take j) : Nat)) (fun iv _ => n - (intOf iv).toNat)
  case atStart => exact ⟨0, by omega, by omega, rfl, rfl⟩
  case round =>
    obtain ⟨j, hj, hj2, rfl, rfl⟩ := hrel
    have hsj := unhide HS j
    rw [List.length_take] at hsj
    have hsj2 : psm (l.take j) ≤ 70368744177664 := by omega
    by_cases hlt : j < n
    · have g1 : ((j : Nat) : Int) < (n : Int) := by omega
      by_cases h60 : j ≤ 60
      · have g2 : ((j : Nat) : Int) ≤ 60 := by omega
        obtain ⟨v, hv⟩ : ∃ v, l[j]? = some v := ⟨_, List.getElem?_eq_getElem (by omega)⟩
        obtain ⟨pb, po, hix, hat⟩ := (unhide HL).idx hv (j : Int) rfl
        have k6 : w.cell? ⟨pb, po + 6, none⟩ = some (.string v.v.t) := hat 6 (by decide)
        have k7 : w.cell? ⟨pb, po + 3 + 3, none⟩ = some (.string v.v.t) := k6
        have HN := hide (psm_next hv)
        have hvs := unhide HSV v (List.mem_of_getElem? hv)
        generalize v.v.t = tx at *
        generalize psm (l.take j) = SJ at *
        clear hat hv hsj
        go_wp2_with fail
        go_round
        case rel => exact ⟨j + 1, by omega, by omega, by go_num, by rw [unhide HN]; go_num⟩
        case measure => simp [intOf]; omega
      · have g2 : ¬ ((j : Nat) : Int) ≤ 60 := by omega
        have g3 : ¬ (n : Int) ≤ 60 := by omega
        generalize psm (l.take j) = SJ at *
        go_wp2_with fail
        go_ret
        exact ⟨PmS.no, rfl⟩
    · have hjn : j = n := by omega
      subst hjn
      have g1 : ¬ ((j : Nat) : Int) < (j : Int) := by omega
      have HJ2 := hide (show psm l = psm (l.take j) by rw [List.take_of_length_le (by omega)])
      generalize psm (l.take j) = SJ at *
      by_cases h1 : j ≤ 60
      · have g2 : ((j : Nat) : Int) ≤ 60 := by omega
        go_wp2_with fail
        go_ret
        refine ⟨PmS.yes (b := decide ((SJ : Int) ≤ 3000)) (fun h => ⟨h1, ?_⟩), rfl⟩
        have := unhide HJ2
        simp at h
        omega
      · have g2 : ¬ ((j : Nat) : Int) ≤ 60 := by omega
        go_wp2_with fail
        go_ret
        exact ⟨PmS.no, rfl⟩


end Go.Proofs.Ytfgghgoonfamkaa
