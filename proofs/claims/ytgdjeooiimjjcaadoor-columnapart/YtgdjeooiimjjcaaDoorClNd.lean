/-
  What Name returns for any type, the program's and the document's own answer; two types have the same name only where they are the same. They write nothing that was there. Conditions: the library's table of powers of ten reads as its initialiser lays it.
-/
import Derived.Test.YtgdjeooiimjjcaaDoorClNm
import Derived.Test.YtgdjeooiimjjcaaDoorClRn
import Derived.Test.YtgdjeooiimjjcaaDoorSameB
import Derived.Test.YtgdjeooiimjjcaaDoorShl
import Derived.Lib.AppendIntMem
import Derived.Lib.ItoaLen
import Derived.Deep.RegionWith
import Derived.Deep.RegionHeld3
namespace Go.Proofs.YtgdjeooiimjjcaaDoor
open Go.RowKit
set_option linter.unusedVariables false
set_option linter.unusedSimpArgs false

def tyB : List UInt8 := [116, 121, 112, 101, 45]
/-- What a type is called. -/
def nmS (t : Int) : ByteArray := if kn t = true then knS t else ⟨(tyB ++ Lib.itoa t).toArray⟩
theorem ty_cat (l : List UInt8) : (⟨#[116, 121, 112, 101, 45]⟩ : ByteArray) ++ ⟨l.toArray⟩ = ⟨(tyB ++ l).toArray⟩ := by
  apply ByteArray.ext
  rw [ByteArray.data_append]
  apply Array.ext'
  simp [tyB]
def Vars (w : World) : Prop := Lib.TabIs Tryd.prog w "internal/strconv.uint64pow10" .u64 Lib.pow10Tab
theorem Vars.later {w w' : World} (h : Vars w) (hb : Below w.heap.size w w') : Vars w' := Lib.tabBelow_of_tabIs h w' hb

/-! Which type a name is. -/
def nmT : List (Nat × List UInt8) := [(0, [100, 101, 99, 105, 109, 97, 108]), (1, [116, 105, 110, 121]), (2, [115, 104, 111, 114, 116]), (3, [108, 111, 110, 103]), (4, [102, 108, 111, 97, 116]), (5, [100, 111, 117, 98, 108, 101]), (6, [110, 117, 108, 108]), (7, [116, 105, 109, 101, 115, 116, 97, 109, 112]), (8, [108, 111, 110, 103, 45, 108, 111, 110, 103]), (9, [105, 110, 116, 50, 52]), (10, [100, 97, 116, 101]), (11, [116, 105, 109, 101]), (12, [100, 97, 116, 101, 45, 116, 105, 109, 101]), (13, [121, 101, 97, 114]), (15, [118, 97, 114, 45, 99, 104, 97, 114]), (16, [98, 105, 116]), (245, [106, 115, 111, 110]), (246, [110, 101, 119, 45, 100, 101, 99, 105, 109, 97, 108]), (247, [101, 110, 117, 109]), (248, [115, 101, 116]), (249, [116, 105, 110, 121, 45, 98, 108, 111, 98]), (250, [109, 101, 100, 105, 117, 109, 45, 98, 108, 111, 98]), (251, [108, 111, 110, 103, 45, 98, 108, 111, 98]), (252, [98, 108, 111, 98]), (253, [118, 97, 114, 45, 115, 116, 114, 105, 110, 103]), (254, [115, 116, 114, 105, 110, 103]), (255, [103, 101, 111, 109, 101, 116, 114, 121])]
def dcN (l : List UInt8) : Nat := if l.take 5 == tyB then (l.drop 5).foldl (fun a b => a * 10 + (b.toNat - 48)) 0 else ((nmT.find? (fun p => p.2 == l)).map (·.1)).getD 999
theorem nm_dec' : ∀ k : Fin 256, dcN (nmS (k.val : Int)).data.toList = k.val := by decide +kernel
theorem nm_eq {t u : Int} (h0 : 0 ≤ t) (h1 : t < 256) (k0 : 0 ≤ u) (k1 : u < 256) : ((nmS t).toList == (nmS u).toList) = (t == u) := by
  obtain ⟨a, rfl⟩ := Int.eq_ofNat_of_zero_le h0
  obtain ⟨b, rfl⟩ := Int.eq_ofNat_of_zero_le k0
  rw [ByteArray.toList_eq, ByteArray.toList_eq, Bool.eq_iff_iff]
  simp only [beq_iff_eq]
  constructor
  · intro h
    have e1 := nm_dec' ⟨a, by omega⟩
    have e2 := nm_dec' ⟨b, by omega⟩
    simp only at e1 e2
    rw [h, e2] at e1
    omega
  · intro h
    rw [h]
theorem kn_empty (k : Int) : (knS k).toList.isEmpty = !(kn k) := by
  rw [ba_isEmpty]
  unfold kn
  cases q : decide ((knS k).size = 0)
  · simp at q; simp [q]
  · simp at q; simp [q]

set_option maxHeartbeats 2000000 in
set_option maxRecDepth 100000 in
theorem name_any (k : Int) (w : World) (hv : Vars w) (q0 : 0 ≤ k) (q1 : k < 256) : Calls Tryd.prog 10 #[.int .u8 k] w fun e w' => e = .returned (.string (nmS k)) ∧ Below w.heap.size w w' := by
  have cN := hide (knownName_any k w q0 q1)
  have e1 := kn_empty k
  cases q : kn k
  · have hS := hide (show nmS k = ⟨(tyB ++ Lib.itoa k).toArray⟩ by unfold nmS; rw [q, if_neg (by decide)])
    rw [q] at e1
    have hil : ¬ 9223372036854775807 < 5 + (Lib.itoa k).length := by
      have := Lib.itoa_length_le k (by omega) (by omega)
      omega
    have HC := hide (ty_cat (Lib.itoa k))
    have HV := hide hv
    have cI := hide (fun wx (h : Vars wx) => Tryd.strconv_Itoa k (by omega) (by omega) wx h)
    generalize knS k = R at *
    generalize nmS k = S at *
    clear hv q
    simp only [Bool.not_false] at e1
    go_enter Tryd.func10, Tryd.ntmps10
    go_wp2_with fail
    refine (unhide cN).mono ?_
    rintro e w1 ⟨rfl, b1⟩
    have B1 := hide b1
    have HV1 := hide ((unhide HV).later b1)
    clear b1 cN HV
    go_wp2_with fail
    refine (unhide cI _ (unhide HV1)).mono ?_
    rintro e w3 ⟨rfl, kk, os, rfl⟩
    clear cI HV1
    go_wp2_with fail
    go_ret
    exact ⟨by rw [unhide hS, ← unhide HC]; rfl, (unhide B1).trans (Lib.below_grow _ _ (unhide B1).size _ _)⟩
  · have hS := hide (show nmS k = knS k by unfold nmS; rw [q, if_pos rfl])
    rw [q] at e1
    generalize knS k = R at *
    generalize nmS k = S at *
    clear hv q
    simp only [Bool.not_true] at e1
    go_enter Tryd.func10, Tryd.ntmps10
    go_wp2_with fail
    refine (unhide cN).mono ?_
    rintro e w1 ⟨rfl, b1⟩
    have B1 := hide b1
    clear b1 cN
    go_wp2_with fail
    go_ret
    exact ⟨by rw [unhide hS]; rfl, unhide B1⟩

set_option maxHeartbeats 1000000 in
set_option maxRecDepth 100000 in
theorem digits_one (n : Int) (w : World) (h0 : 0 ≤ n) (h1 : n < 10) :
    Calls Tryd.prog 34 #[.int .i64 n] w fun e w' => e = .returned (.string (strOfNums [48 + n])) ∧ Below w.heap.size w w' := by
  have hs := (Bs.one w (48 + n) (by omega) (by omega)).str
  have b0 := below_alloc w (.cells #[.int .u8 (48 + n)] 5)
  go_enter Tryd.func34, Tryd.ntmps34
  go_wp2_with fail
  go_ret
  exact ⟨rfl, b0⟩

/-- A number's digits behind another's. -/
theorem str_cat (a b : List Int) : strOfNums a ++ strOfNums b = strOfNums (a ++ b) := by
  apply ByteArray.ext
  rw [ByteArray.data_append]
  apply Array.ext'
  rw [Array.toList_append, strOfNums_data, strOfNums_data, strOfNums_data, List.map_append]

set_option maxHeartbeats 2000000 in
set_option maxRecDepth 100000 in
theorem digits_more (n : Int) (l : List Int) (w : World) (h0 : 10 ≤ n) (h1 : n < 1000) (hl : l.length ≤ 5)
    (hc : ∀ wx, Calls Tryd.prog 34 #[.int .i64 (n.tdiv 10)] wx fun e w' => e = .returned (.string (strOfNums l)) ∧ Below wx.heap.size wx w') :
    Calls Tryd.prog 34 #[.int .i64 n] w fun e w' => e = .returned (.string (strOfNums (l ++ [48 + n.tmod 10]))) ∧ Below w.heap.size w w' := by
  have hm0 : 0 ≤ n.tmod 10 := Int.tmod_nonneg 10 (by omega)
  have hm1 : n.tmod 10 < 10 := Int.tmod_lt_of_pos n (by omega)
  have hx : ¬ n < 10 := by omega
  have hsz : (strOfNums l).size ≤ 5 := by
    rw [show (strOfNums l).size = (strOfNums l).data.toList.length by simp, strOfNums_data]
    simpa using hl
  have CD := hide hc
  have HC := hide (str_cat l [48 + n.tmod 10])
  have h10 : ((10 : Int) == 0) = false := rfl
  have hd0 : 0 ≤ n.tdiv 10 := Int.tdiv_nonneg (by omega) (by omega)
  have hd1 : n.tdiv 10 < 1000 := by
    rw [Int.tdiv_eq_ediv_of_nonneg (by omega)]
    omega
  have hw1 : IntKind.i64.wrap (n.tdiv 10) = n.tdiv 10 := by rw [IntKind.wrap_i64]; omega
  have hw3 : IntKind.i64.wrap (48 + n.tmod 10) = 48 + n.tmod 10 := by rw [IntKind.wrap_i64]; omega
  have hw4 : IntKind.u8.wrap (48 + n.tmod 10) = 48 + n.tmod 10 := by rw [IntKind.wrap_u8']; omega
  have hone : ∀ wx : World, Bs (wx.alloc (.cells #[.int .u8 (48 + n.tmod 10)] 5)) (some ⟨wx.heap.size, 0, none⟩) 1 1 [(48 + n.tmod 10)] := fun wx => Bs.one wx (48 + n.tmod 10) (by omega) (by omega)
  obtain ⟨T, hT⟩ : ∃ T, T = strOfNums [48 + n.tmod 10] := ⟨_, rfl⟩
  have hTs : T.size = 1 := by
    rw [hT, show (strOfNums [48 + n.tmod 10]).size = (strOfNums [48 + n.tmod 10]).data.toList.length by simp, strOfNums_data]
    rfl
  have HS := hide (fun (wx : World) (g : Nat) (h : Bs wx (some ⟨g, 0, none⟩) 1 1 [48 + n.tmod 10]) => (show (convert 22 9 (.slice (some ⟨g, 0, none⟩) 1 1)).run Tryd.prog wx = .ok (.string T) wx by rw [hT]; exact h.str))
  have HO := hide hone
  have hs0 := unhide HS _ _ (hone w)
  have hs1 := unhide HS _ _ ((hone w).later (below_drew _))
  have BA := hide (below_alloc w (.cells #[.int .u8 (48 + n.tmod 10)] 5))
  obtain ⟨Z, hZ⟩ : ∃ Z, Z = strOfNums l := ⟨_, rfl⟩
  rw [← hT, ← hZ] at HC
  rw [← hZ] at CD hsz
  have hq : ¬ 9223372036854775807 < Z.size + T.size := by omega
  clear hc hone hl hT hZ
  go_enter Tryd.func34, Tryd.ntmps34
  go_wp2_with fail
  go_region_with (first | (go_at_call 34; (with_reducible refine (unhide CD w.drew).mono ?_); rintro e w2 ⟨rfl, b2⟩; have b3 := (below_drew w).trans b2; have hs2 := unhide HS _ _ (unhide HO w2); have hs3 := unhide HS _ _ ((unhide HO w2).later (below_drew _))) | (go_at_call 34; (with_reducible refine (unhide CD (w.alloc (.cells #[.int .u8 (48 + n.tmod 10)] 5)).drew).mono ?_); rintro e w2 ⟨rfl, b2⟩; have b3 := (unhide BA).drew.trans (b2.mono (unhide BA).size); have hs2 := unhide HS _ _ (((unhide HO w).later (below_drew _)).later b2); have hs3 := unhide HS _ _ ((((unhide HO w).later (below_drew _)).later b2).later (below_drew _))))
  all_goals have B3 := hide b3
  all_goals clear b2 b3 hs2 hs3
  all_goals go_wp2_with fail
  all_goals go_ret
  all_goals refine ⟨by rw [← unhide HC]; rfl, ?_⟩
  all_goals first | exact unhide B3 | exact (unhide B3).alloc (unhide B3).size _ | exact ((unhide B3).alloc (unhide B3).size _).drew

/-- The digits of a number below 256. -/
def dgI (n : Int) : List Int := if n < 10 then [48 + n] else if n < 100 then [48 + n.tdiv 10] ++ [48 + n.tmod 10] else ([48 + (n.tdiv 10).tdiv 10] ++ [48 + (n.tdiv 10).tmod 10]) ++ [48 + n.tmod 10]
theorem dg_itoa : ∀ k : Fin 256, strOfNums (dgI (k.val : Int)) = ⟨(Lib.itoa (k.val : Int)).toArray⟩ := by decide +kernel
theorem digits_any (n : Int) (w : World) (h0 : 0 ≤ n) (h1 : n ≤ 255) :
    Calls Tryd.prog 34 #[.int .i64 n] w fun e w' => e = .returned (.string ⟨(Lib.itoa n).toArray⟩) ∧ Below w.heap.size w w' := by
  obtain ⟨N, rfl⟩ := Int.eq_ofNat_of_zero_le h0
  rw [← dg_itoa ⟨N, by omega⟩]
  unfold dgI
  have e1 : (N : Int).tdiv 10 = (N : Int) / 10 := Int.tdiv_eq_ediv_of_nonneg (by omega)
  simp only
  by_cases a : (N : Int) < 10
  · rw [if_pos a]
    exact digits_one _ w h0 a
  · rw [if_neg a]
    by_cases b : (N : Int) < 100
    · rw [if_pos b]
      exact digits_more _ _ w (by omega) (by omega) (by simp) (fun wx => digits_one _ wx (by rw [e1]; omega) (by rw [e1]; omega))
    · rw [if_neg b]
      have e2 : ((N : Int).tdiv 10).tdiv 10 = (N : Int) / 10 / 10 := by rw [Int.tdiv_eq_ediv_of_nonneg (by rw [e1]; omega), e1]
      exact digits_more _ _ w (by omega) (by omega) (by simp) (fun wx => digits_more _ _ wx (by rw [e1]; omega) (by rw [e1]; omega) (by simp) (fun wy => digits_one _ wy (by rw [e2]; omega) (by rw [e2]; omega)))


set_option maxHeartbeats 2000000 in
set_option maxRecDepth 100000 in
theorem rname_ref (k : Int) (w : World) (q0 : 0 ≤ k) (q1 : k < 256) : Calls Tryd.prog 19 #[.int .u8 k] w fun e w' => e = .returned (.string (nmS k)) ∧ Below w.heap.size w w' := by
  have cN := hide (name_ref k w q0 q1)
  have e1 := kn_empty k
  cases q : kn k
  · have hS := hide (show nmS k = ⟨(tyB ++ Lib.itoa k).toArray⟩ by unfold nmS; rw [q, if_neg (by decide)])
    rw [q] at e1
    have hil : ¬ 9223372036854775807 < 5 + (Lib.itoa k).length := by
      have := Lib.itoa_length_le k (by omega) (by omega)
      omega
    have HC := hide (ty_cat (Lib.itoa k))
    have cD := hide (fun wx => digits_any k wx q0 (by omega))
    generalize knS k = R at *
    generalize nmS k = S at *
    clear q
    simp only [Bool.not_false] at e1
    go_enter Tryd.func19, Tryd.ntmps19
    go_wp2_with fail
    refine (unhide cN).mono ?_
    rintro e w1 ⟨rfl, b1⟩
    have B1 := hide b1
    clear b1 cN
    go_wp2_with fail
    refine (unhide cD _).mono ?_
    rintro e w3 ⟨rfl, b3⟩
    have B3 := hide ((unhide B1).trans (b3.mono (unhide B1).size))
    clear cD b3
    go_wp2_with fail
    go_ret
    exact ⟨by rw [unhide hS, ← unhide HC]; rfl, unhide B3⟩
  · have hS := hide (show nmS k = knS k by unfold nmS; rw [q, if_pos rfl])
    rw [q] at e1
    generalize knS k = R at *
    generalize nmS k = S at *
    clear q
    simp only [Bool.not_true] at e1
    go_enter Tryd.func19, Tryd.ntmps19
    go_wp2_with fail
    refine (unhide cN).mono ?_
    rintro e w1 ⟨rfl, b1⟩
    have B1 := hide b1
    clear b1 cN
    go_wp2_with fail
    go_ret
    exact ⟨by rw [unhide hS]; rfl, unhide B1⟩

end Go.Proofs.YtgdjeooiimjjcaaDoor
