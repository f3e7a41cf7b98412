/-
  The document's own answer for commands: Digits of a number below 256, and Name. They write nothing that was there. Conditions: none.
-/
import Derived.Test.YtpidlfifipgadaaDoorCmNm
import Derived.Deep.RegionWith
import Derived.Deep.RegionHeld3
namespace Go.Proofs.YtpidlfifipgadaaDoor
open Go.RowKit
set_option linter.unusedVariables false
set_option linter.unusedSimpArgs false

set_option maxHeartbeats 1000000 in
set_option maxRecDepth 100000 in
theorem digits_one (n : Int) (w : World) (h0 : 0 ≤ n) (h1 : n < 10) :
    Calls Tryd.prog 34 #[.int .i64 n] w fun e w' => e = .returned (.string (strOfNums [48 + n])) ∧ Below w.heap.size w w' := by
  have hs := (Bs.one w (48 + n) (by omega) (by omega)).str
  have b0 := below_alloc w (.cells #[.int .u8 (48 + n)] 5)
  go_enter Tryd.func34, Tryd.ntmps34
  go_wp2_with fail
  go_ret
  exact ⟨rfl, b0⟩

/-- A number's digits behind another's. -/
theorem str_cat (a b : List Int) : strOfNums a ++ strOfNums b = strOfNums (a ++ b) := by
  apply ByteArray.ext
  rw [ByteArray.data_append]
  apply Array.ext'
  rw [Array.toList_append, strOfNums_data, strOfNums_data, strOfNums_data, List.map_append]

set_option maxHeartbeats 2000000 in
set_option maxRecDepth 100000 in
theorem digits_more (n : Int) (l : List Int) (w : World) (h0 : 10 ≤ n) (h1 : n < 1000) (hl : l.length ≤ 5)
    (hc : ∀ wx, Calls Tryd.prog 34 #[.int .i64 (n.tdiv 10)] wx fun e w' => e = .returned (.string (strOfNums l)) ∧ Below wx.heap.size wx w') :
    Calls Tryd.prog 34 #[.int .i64 n] w fun e w' => e = .returned (.string (strOfNums (l ++ [48 + n.tmod 10]))) ∧ Below w.heap.size w w' := by
  have hm0 : 0 ≤ n.tmod 10 := Int.tmod_nonneg 10 (by omega)
  have hm1 : n.tmod 10 < 10 := Int.tmod_lt_of_pos n (by omega)
  have hx : ¬ n < 10 := by omega
  have hsz : (strOfNums l).size ≤ 5 := by
    rw [show (strOfNums l).size = (strOfNums l).data.toList.length by simp, strOfNums_data]
    simpa using hl
  have CD := hide hc
  have HC := hide (str_cat l [48 + n.tmod 10])
  have h10 : ((10 : Int) == 0) = false := rfl
  have hd0 : 0 ≤ n.tdiv 10 := Int.tdiv_nonneg (by omega) (by omega)
  have hd1 : n.tdiv 10 < 1000 := by
    rw [Int.tdiv_eq_ediv_of_nonneg (by omega)]
    omega
  have hw1 : IntKind.i64.wrap (n.tdiv 10) = n.tdiv 10 := by rw [IntKind.wrap_i64]; omega
  have hw3 : IntKind.i64.wrap (48 + n.tmod 10) = 48 + n.tmod 10 := by rw [IntKind.wrap_i64]; omega
  have hw4 : IntKind.u8.wrap (48 + n.tmod 10) = 48 + n.tmod 10 := by rw [IntKind.wrap_u8']; omega
  have hone : ∀ wx : World, Bs (wx.alloc (.cells #[.int .u8 (48 + n.tmod 10)] 5)) (some ⟨wx.heap.size, 0, none⟩) 1 1 [(48 + n.tmod 10)] := fun wx => Bs.one wx (48 + n.tmod 10) (by omega) (by omega)
  obtain ⟨T, hT⟩ : ∃ T, T = strOfNums [48 + n.tmod 10] := ⟨_, rfl⟩
  have hTs : T.size = 1 := by
    rw [hT, show (strOfNums [48 + n.tmod 10]).size = (strOfNums [48 + n.tmod 10]).data.toList.length by simp, strOfNums_data]
    rfl
  have HS := hide (fun (wx : World) (g : Nat) (h : Bs wx (some ⟨g, 0, none⟩) 1 1 [48 + n.tmod 10]) => (show (convert 24 9 (.slice (some ⟨g, 0, none⟩) 1 1)).run Tryd.prog wx = .ok (.string T) wx by rw [hT]; exact h.str))
  have HO := hide hone
  have hs0 := unhide HS _ _ (hone w)
  have hs1 := unhide HS _ _ ((hone w).later (below_drew _))
  have BA := hide (below_alloc w (.cells #[.int .u8 (48 + n.tmod 10)] 5))
  obtain ⟨Z, hZ⟩ : ∃ Z, Z = strOfNums l := ⟨_, rfl⟩
  rw [← hT, ← hZ] at HC
  rw [← hZ] at CD hsz
  have hq : ¬ 9223372036854775807 < Z.size + T.size := by omega
  clear hc hone hl hT hZ
  go_enter Tryd.func34, Tryd.ntmps34
  go_wp2_with fail
  go_region_with (first | (go_at_call 34; (with_reducible refine (unhide CD w.drew).mono ?_); rintro e w2 ⟨rfl, b2⟩; have b3 := (below_drew w).trans b2; have hs2 := unhide HS _ _ (unhide HO w2); have hs3 := unhide HS _ _ ((unhide HO w2).later (below_drew _))) | (go_at_call 34; (with_reducible refine (unhide CD (w.alloc (.cells #[.int .u8 (48 + n.tmod 10)] 5)).drew).mono ?_); rintro e w2 ⟨rfl, b2⟩; have b3 := (unhide BA).drew.trans (b2.mono (unhide BA).size); have hs2 := unhide HS _ _ (((unhide HO w).later (below_drew _)).later b2); have hs3 := unhide HS _ _ ((((unhide HO w).later (below_drew _)).later b2).later (below_drew _))))
  all_goals have B3 := hide b3
  all_goals clear b2 b3 hs2 hs3
  all_goals go_wp2_with fail
  all_goals go_ret
  all_goals refine ⟨by rw [← unhide HC]; rfl, ?_⟩
  all_goals first | exact unhide B3 | exact (unhide B3).alloc (unhide B3).size _ | exact ((unhide B3).alloc (unhide B3).size _).drew

/-- The digits of a number below 256. -/
def dgI (n : Int) : List Int := if n < 10 then [48 + n] else if n < 100 then [48 + n.tdiv 10] ++ [48 + n.tmod 10] else ([48 + (n.tdiv 10).tdiv 10] ++ [48 + (n.tdiv 10).tmod 10]) ++ [48 + n.tmod 10]
theorem dg_itoa : ∀ k : Fin 256, strOfNums (dgI (k.val : Int)) = ⟨(Lib.itoa (k.val : Int)).toArray⟩ := by decide +kernel
theorem digits_any (n : Int) (w : World) (h0 : 0 ≤ n) (h1 : n ≤ 255) :
    Calls Tryd.prog 34 #[.int .i64 n] w fun e w' => e = .returned (.string ⟨(Lib.itoa n).toArray⟩) ∧ Below w.heap.size w w' := by
  obtain ⟨N, rfl⟩ := Int.eq_ofNat_of_zero_le h0
  rw [← dg_itoa ⟨N, by omega⟩]
  unfold dgI
  have e1 : (N : Int).tdiv 10 = (N : Int) / 10 := Int.tdiv_eq_ediv_of_nonneg (by omega)
  simp only
  by_cases a : (N : Int) < 10
  · rw [if_pos a]
    exact digits_one _ w h0 a
  · rw [if_neg a]
    by_cases b : (N : Int) < 100
    · rw [if_pos b]
      exact digits_more _ _ w (by omega) (by omega) (by simp) (fun wx => digits_one _ wx (by rw [e1]; omega) (by rw [e1]; omega))
    · rw [if_neg b]
      have e2 : ((N : Int).tdiv 10).tdiv 10 = (N : Int) / 10 / 10 := by rw [Int.tdiv_eq_ediv_of_nonneg (by rw [e1]; omega), e1]
      exact digits_more _ _ w (by omega) (by omega) (by simp) (fun wx => digits_more _ _ wx (by rw [e1]; omega) (by rw [e1]; omega) (by simp) (fun wy => digits_one _ wy (by rw [e2]; omega) (by rw [e2]; omega)))

set_option maxHeartbeats 4000000 in
set_option maxRecDepth 100000 in
theorem name_ref (k : Int) (w : World) (q0 : 0 ≤ k) (q1 : k ≤ 255) : Calls Tryd.prog 17 #[.int .u8 k] w fun e w' => e = .returned (.string (nmS k)) ∧ Below w.heap.size w w' := by
  by_cases h0 : k = 0
  · subst h0
    have b0 := below_alloc w (.cells #[.string ⟨#[115, 108, 101, 101, 112]⟩, .string ⟨#[113, 117, 105, 116]⟩, .string ⟨#[105, 110, 105, 116, 45, 100, 98]⟩, .string ⟨#[113, 117, 101, 114, 121]⟩, .string ⟨#[102, 105, 101, 108, 100, 45, 108, 105, 115, 116]⟩, .string ⟨#[99, 114, 101, 97, 116, 101, 45, 100, 98]⟩, .string ⟨#[100, 114, 111, 112, 45, 100, 98]⟩, .string ⟨#[114, 101, 102, 114, 101, 115, 104]⟩] 9)
    go_enter Tryd.func17, Tryd.ntmps17
    go_wp2_with fail
    go_ret
    exact ⟨rfl, b0⟩
  by_cases h1 : k = 1
  · subst h1
    have b0 := below_alloc w (.cells #[.string ⟨#[115, 108, 101, 101, 112]⟩, .string ⟨#[113, 117, 105, 116]⟩, .string ⟨#[105, 110, 105, 116, 45, 100, 98]⟩, .string ⟨#[113, 117, 101, 114, 121]⟩, .string ⟨#[102, 105, 101, 108, 100, 45, 108, 105, 115, 116]⟩, .string ⟨#[99, 114, 101, 97, 116, 101, 45, 100, 98]⟩, .string ⟨#[100, 114, 111, 112, 45, 100, 98]⟩, .string ⟨#[114, 101, 102, 114, 101, 115, 104]⟩] 9)
    go_enter Tryd.func17, Tryd.ntmps17
    go_wp2_with fail
    go_ret
    exact ⟨rfl, b0⟩
  by_cases h2 : k = 2
  · subst h2
    have b0 := below_alloc w (.cells #[.string ⟨#[115, 108, 101, 101, 112]⟩, .string ⟨#[113, 117, 105, 116]⟩, .string ⟨#[105, 110, 105, 116, 45, 100, 98]⟩, .string ⟨#[113, 117, 101, 114, 121]⟩, .string ⟨#[102, 105, 101, 108, 100, 45, 108, 105, 115, 116]⟩, .string ⟨#[99, 114, 101, 97, 116, 101, 45, 100, 98]⟩, .string ⟨#[100, 114, 111, 112, 45, 100, 98]⟩, .string ⟨#[114, 101, 102, 114, 101, 115, 104]⟩] 9)
    go_enter Tryd.func17, Tryd.ntmps17
    go_wp2_with fail
    go_ret
    exact ⟨rfl, b0⟩
  by_cases h3 : k = 3
  · subst h3
    have b0 := below_alloc w (.cells #[.string ⟨#[115, 108, 101, 101, 112]⟩, .string ⟨#[113, 117, 105, 116]⟩, .string ⟨#[105, 110, 105, 116, 45, 100, 98]⟩, .string ⟨#[113, 117, 101, 114, 121]⟩, .string ⟨#[102, 105, 101, 108, 100, 45, 108, 105, 115, 116]⟩, .string ⟨#[99, 114, 101, 97, 116, 101, 45, 100, 98]⟩, .string ⟨#[100, 114, 111, 112, 45, 100, 98]⟩, .string ⟨#[114, 101, 102, 114, 101, 115, 104]⟩] 9)
    go_enter Tryd.func17, Tryd.ntmps17
    go_wp2_with fail
    go_ret
    exact ⟨rfl, b0⟩
  by_cases h4 : k = 4
  · subst h4
    have b0 := below_alloc w (.cells #[.string ⟨#[115, 108, 101, 101, 112]⟩, .string ⟨#[113, 117, 105, 116]⟩, .string ⟨#[105, 110, 105, 116, 45, 100, 98]⟩, .string ⟨#[113, 117, 101, 114, 121]⟩, .string ⟨#[102, 105, 101, 108, 100, 45, 108, 105, 115, 116]⟩, .string ⟨#[99, 114, 101, 97, 116, 101, 45, 100, 98]⟩, .string ⟨#[100, 114, 111, 112, 45, 100, 98]⟩, .string ⟨#[114, 101, 102, 114, 101, 115, 104]⟩] 9)
    go_enter Tryd.func17, Tryd.ntmps17
    go_wp2_with fail
    go_ret
    exact ⟨rfl, b0⟩
  by_cases h5 : k = 5
  · subst h5
    have b0 := below_alloc w (.cells #[.string ⟨#[115, 108, 101, 101, 112]⟩, .string ⟨#[113, 117, 105, 116]⟩, .string ⟨#[105, 110, 105, 116, 45, 100, 98]⟩, .string ⟨#[113, 117, 101, 114, 121]⟩, .string ⟨#[102, 105, 101, 108, 100, 45, 108, 105, 115, 116]⟩, .string ⟨#[99, 114, 101, 97, 116, 101, 45, 100, 98]⟩, .string ⟨#[100, 114, 111, 112, 45, 100, 98]⟩, .string ⟨#[114, 101, 102, 114, 101, 115, 104]⟩] 9)
    go_enter Tryd.func17, Tryd.ntmps17
    go_wp2_with fail
    go_ret
    exact ⟨rfl, b0⟩
  by_cases h6 : k = 6
  · subst h6
    have b0 := below_alloc w (.cells #[.string ⟨#[115, 108, 101, 101, 112]⟩, .string ⟨#[113, 117, 105, 116]⟩, .string ⟨#[105, 110, 105, 116, 45, 100, 98]⟩, .string ⟨#[113, 117, 101, 114, 121]⟩, .string ⟨#[102, 105, 101, 108, 100, 45, 108, 105, 115, 116]⟩, .string ⟨#[99, 114, 101, 97, 116, 101, 45, 100, 98]⟩, .string ⟨#[100, 114, 111, 112, 45, 100, 98]⟩, .string ⟨#[114, 101, 102, 114, 101, 115, 104]⟩] 9)
    go_enter Tryd.func17, Tryd.ntmps17
    go_wp2_with fail
    go_ret
    exact ⟨rfl, b0⟩
  by_cases h7 : k = 7
  · subst h7
    have b0 := below_alloc w (.cells #[.string ⟨#[115, 108, 101, 101, 112]⟩, .string ⟨#[113, 117, 105, 116]⟩, .string ⟨#[105, 110, 105, 116, 45, 100, 98]⟩, .string ⟨#[113, 117, 101, 114, 121]⟩, .string ⟨#[102, 105, 101, 108, 100, 45, 108, 105, 115, 116]⟩, .string ⟨#[99, 114, 101, 97, 116, 101, 45, 100, 98]⟩, .string ⟨#[100, 114, 111, 112, 45, 100, 98]⟩, .string ⟨#[114, 101, 102, 114, 101, 115, 104]⟩] 9)
    go_enter Tryd.func17, Tryd.ntmps17
    go_wp2_with fail
    go_ret
    exact ⟨rfl, b0⟩
  by_cases h9 : k = 9
  · subst h9
    have b0 := below_alloc w (.cells #[.string ⟨#[115, 108, 101, 101, 112]⟩, .string ⟨#[113, 117, 105, 116]⟩, .string ⟨#[105, 110, 105, 116, 45, 100, 98]⟩, .string ⟨#[113, 117, 101, 114, 121]⟩, .string ⟨#[102, 105, 101, 108, 100, 45, 108, 105, 115, 116]⟩, .string ⟨#[99, 114, 101, 97, 116, 101, 45, 100, 98]⟩, .string ⟨#[100, 114, 111, 112, 45, 100, 98]⟩, .string ⟨#[114, 101, 102, 114, 101, 115, 104]⟩] 9)
    go_enter Tryd.func17, Tryd.ntmps17
    go_wp2_with fail
    go_ret
    exact ⟨rfl, b0⟩
  by_cases h12 : k = 12
  · subst h12
    have b0 := below_alloc w (.cells #[.string ⟨#[115, 108, 101, 101, 112]⟩, .string ⟨#[113, 117, 105, 116]⟩, .string ⟨#[105, 110, 105, 116, 45, 100, 98]⟩, .string ⟨#[113, 117, 101, 114, 121]⟩, .string ⟨#[102, 105, 101, 108, 100, 45, 108, 105, 115, 116]⟩, .string ⟨#[99, 114, 101, 97, 116, 101, 45, 100, 98]⟩, .string ⟨#[100, 114, 111, 112, 45, 100, 98]⟩, .string ⟨#[114, 101, 102, 114, 101, 115, 104]⟩] 9)
    go_enter Tryd.func17, Tryd.ntmps17
    go_wp2_with fail
    go_ret
    exact ⟨rfl, b0⟩
  by_cases h14 : k = 14
  · subst h14
    have b0 := below_alloc w (.cells #[.string ⟨#[115, 108, 101, 101, 112]⟩, .string ⟨#[113, 117, 105, 116]⟩, .string ⟨#[105, 110, 105, 116, 45, 100, 98]⟩, .string ⟨#[113, 117, 101, 114, 121]⟩, .string ⟨#[102, 105, 101, 108, 100, 45, 108, 105, 115, 116]⟩, .string ⟨#[99, 114, 101, 97, 116, 101, 45, 100, 98]⟩, .string ⟨#[100, 114, 111, 112, 45, 100, 98]⟩, .string ⟨#[114, 101, 102, 114, 101, 115, 104]⟩] 9)
    go_enter Tryd.func17, Tryd.ntmps17
    go_wp2_with fail
    go_ret
    exact ⟨rfl, b0⟩
  by_cases h17 : k = 17
  · subst h17
    have b0 := below_alloc w (.cells #[.string ⟨#[115, 108, 101, 101, 112]⟩, .string ⟨#[113, 117, 105, 116]⟩, .string ⟨#[105, 110, 105, 116, 45, 100, 98]⟩, .string ⟨#[113, 117, 101, 114, 121]⟩, .string ⟨#[102, 105, 101, 108, 100, 45, 108, 105, 115, 116]⟩, .string ⟨#[99, 114, 101, 97, 116, 101, 45, 100, 98]⟩, .string ⟨#[100, 114, 111, 112, 45, 100, 98]⟩, .string ⟨#[114, 101, 102, 114, 101, 115, 104]⟩] 9)
    go_enter Tryd.func17, Tryd.ntmps17
    go_wp2_with fail
    go_ret
    exact ⟨rfl, b0⟩
  by_cases h22 : k = 22
  · subst h22
    have b0 := below_alloc w (.cells #[.string ⟨#[115, 108, 101, 101, 112]⟩, .string ⟨#[113, 117, 105, 116]⟩, .string ⟨#[105, 110, 105, 116, 45, 100, 98]⟩, .string ⟨#[113, 117, 101, 114, 121]⟩, .string ⟨#[102, 105, 101, 108, 100, 45, 108, 105, 115, 116]⟩, .string ⟨#[99, 114, 101, 97, 116, 101, 45, 100, 98]⟩, .string ⟨#[100, 114, 111, 112, 45, 100, 98]⟩, .string ⟨#[114, 101, 102, 114, 101, 115, 104]⟩] 9)
    go_enter Tryd.func17, Tryd.ntmps17
    go_wp2_with fail
    go_ret
    exact ⟨rfl, b0⟩
  by_cases h23 : k = 23
  · subst h23
    have b0 := below_alloc w (.cells #[.string ⟨#[115, 108, 101, 101, 112]⟩, .string ⟨#[113, 117, 105, 116]⟩, .string ⟨#[105, 110, 105, 116, 45, 100, 98]⟩, .string ⟨#[113, 117, 101, 114, 121]⟩, .string ⟨#[102, 105, 101, 108, 100, 45, 108, 105, 115, 116]⟩, .string ⟨#[99, 114, 101, 97, 116, 101, 45, 100, 98]⟩, .string ⟨#[100, 114, 111, 112, 45, 100, 98]⟩, .string ⟨#[114, 101, 102, 114, 101, 115, 104]⟩] 9)
    go_enter Tryd.func17, Tryd.ntmps17
    go_wp2_with fail
    go_ret
    exact ⟨rfl, b0⟩
  by_cases h24 : k = 24
  · subst h24
    have b0 := below_alloc w (.cells #[.string ⟨#[115, 108, 101, 101, 112]⟩, .string ⟨#[113, 117, 105, 116]⟩, .string ⟨#[105, 110, 105, 116, 45, 100, 98]⟩, .string ⟨#[113, 117, 101, 114, 121]⟩, .string ⟨#[102, 105, 101, 108, 100, 45, 108, 105, 115, 116]⟩, .string ⟨#[99, 114, 101, 97, 116, 101, 45, 100, 98]⟩, .string ⟨#[100, 114, 111, 112, 45, 100, 98]⟩, .string ⟨#[114, 101, 102, 114, 101, 115, 104]⟩] 9)
    go_enter Tryd.func17, Tryd.ntmps17
    go_wp2_with fail
    go_ret
    exact ⟨rfl, b0⟩
  by_cases h25 : k = 25
  · subst h25
    have b0 := below_alloc w (.cells #[.string ⟨#[115, 108, 101, 101, 112]⟩, .string ⟨#[113, 117, 105, 116]⟩, .string ⟨#[105, 110, 105, 116, 45, 100, 98]⟩, .string ⟨#[113, 117, 101, 114, 121]⟩, .string ⟨#[102, 105, 101, 108, 100, 45, 108, 105, 115, 116]⟩, .string ⟨#[99, 114, 101, 97, 116, 101, 45, 100, 98]⟩, .string ⟨#[100, 114, 111, 112, 45, 100, 98]⟩, .string ⟨#[114, 101, 102, 114, 101, 115, 104]⟩] 9)
    go_enter Tryd.func17, Tryd.ntmps17
    go_wp2_with fail
    go_ret
    exact ⟨rfl, b0⟩
  by_cases h26 : k = 26
  · subst h26
    have b0 := below_alloc w (.cells #[.string ⟨#[115, 108, 101, 101, 112]⟩, .string ⟨#[113, 117, 105, 116]⟩, .string ⟨#[105, 110, 105, 116, 45, 100, 98]⟩, .string ⟨#[113, 117, 101, 114, 121]⟩, .string ⟨#[102, 105, 101, 108, 100, 45, 108, 105, 115, 116]⟩, .string ⟨#[99, 114, 101, 97, 116, 101, 45, 100, 98]⟩, .string ⟨#[100, 114, 111, 112, 45, 100, 98]⟩, .string ⟨#[114, 101, 102, 114, 101, 115, 104]⟩] 9)
    go_enter Tryd.func17, Tryd.ntmps17
    go_wp2_with fail
    go_ret
    exact ⟨rfl, b0⟩
  by_cases h27 : k = 27
  · subst h27
    have b0 := below_alloc w (.cells #[.string ⟨#[115, 108, 101, 101, 112]⟩, .string ⟨#[113, 117, 105, 116]⟩, .string ⟨#[105, 110, 105, 116, 45, 100, 98]⟩, .string ⟨#[113, 117, 101, 114, 121]⟩, .string ⟨#[102, 105, 101, 108, 100, 45, 108, 105, 115, 116]⟩, .string ⟨#[99, 114, 101, 97, 116, 101, 45, 100, 98]⟩, .string ⟨#[100, 114, 111, 112, 45, 100, 98]⟩, .string ⟨#[114, 101, 102, 114, 101, 115, 104]⟩] 9)
    go_enter Tryd.func17, Tryd.ntmps17
    go_wp2_with fail
    go_ret
    exact ⟨rfl, b0⟩
  by_cases h28 : k = 28
  · subst h28
    have b0 := below_alloc w (.cells #[.string ⟨#[115, 108, 101, 101, 112]⟩, .string ⟨#[113, 117, 105, 116]⟩, .string ⟨#[105, 110, 105, 116, 45, 100, 98]⟩, .string ⟨#[113, 117, 101, 114, 121]⟩, .string ⟨#[102, 105, 101, 108, 100, 45, 108, 105, 115, 116]⟩, .string ⟨#[99, 114, 101, 97, 116, 101, 45, 100, 98]⟩, .string ⟨#[100, 114, 111, 112, 45, 100, 98]⟩, .string ⟨#[114, 101, 102, 114, 101, 115, 104]⟩] 9)
    go_enter Tryd.func17, Tryd.ntmps17
    go_wp2_with fail
    go_ret
    exact ⟨rfl, b0⟩
  by_cases h31 : k = 31
  · subst h31
    have b0 := below_alloc w (.cells #[.string ⟨#[115, 108, 101, 101, 112]⟩, .string ⟨#[113, 117, 105, 116]⟩, .string ⟨#[105, 110, 105, 116, 45, 100, 98]⟩, .string ⟨#[113, 117, 101, 114, 121]⟩, .string ⟨#[102, 105, 101, 108, 100, 45, 108, 105, 115, 116]⟩, .string ⟨#[99, 114, 101, 97, 116, 101, 45, 100, 98]⟩, .string ⟨#[100, 114, 111, 112, 45, 100, 98]⟩, .string ⟨#[114, 101, 102, 114, 101, 115, 104]⟩] 9)
    go_enter Tryd.func17, Tryd.ntmps17
    go_wp2_with fail
    go_ret
    exact ⟨rfl, b0⟩
  have f0 : (k == 0) = false := by simpa using h0
  have f1 : (k == 1) = false := by simpa using h1
  have f2 : (k == 2) = false := by simpa using h2
  have f3 : (k == 3) = false := by simpa using h3
  have f4 : (k == 4) = false := by simpa using h4
  have f5 : (k == 5) = false := by simpa using h5
  have f6 : (k == 6) = false := by simpa using h6
  have f7 : (k == 7) = false := by simpa using h7
  have f9 : (k == 9) = false := by simpa using h9
  have f12 : (k == 12) = false := by simpa using h12
  have f14 : (k == 14) = false := by simpa using h14
  have f17 : (k == 17) = false := by simpa using h17
  have f22 : (k == 22) = false := by simpa using h22
  have f23 : (k == 23) = false := by simpa using h23
  have f24 : (k == 24) = false := by simpa using h24
  have f25 : (k == 25) = false := by simpa using h25
  have f26 : (k == 26) = false := by simpa using h26
  have f27 : (k == 27) = false := by simpa using h27
  have f28 : (k == 28) = false := by simpa using h28
  have f31 : (k == 31) = false := by simpa using h31
  have hS : nmS k = ⟨(cmdB ++ Lib.itoa k).toArray⟩ := by
    unfold nmS
    rw [if_neg h0, if_neg h1, if_neg h2, if_neg h3, if_neg h4, if_neg h5, if_neg h6, if_neg h7, if_neg h9, if_neg h12, if_neg h14, if_neg h17, if_neg h22, if_neg h23, if_neg h24, if_neg h25, if_neg h26, if_neg h27, if_neg h28, if_neg h31]
  have h8 : ¬ k < 8 := by omega
  rw [hS]
  have b0 := below_alloc w (.cells #[.string ⟨#[115, 108, 101, 101, 112]⟩, .string ⟨#[113, 117, 105, 116]⟩, .string ⟨#[105, 110, 105, 116, 45, 100, 98]⟩, .string ⟨#[113, 117, 101, 114, 121]⟩, .string ⟨#[102, 105, 101, 108, 100, 45, 108, 105, 115, 116]⟩, .string ⟨#[99, 114, 101, 97, 116, 101, 45, 100, 98]⟩, .string ⟨#[100, 114, 111, 112, 45, 100, 98]⟩, .string ⟨#[114, 101, 102, 114, 101, 115, 104]⟩] 9)
  have cD := hide (digits_any k (w.alloc (.cells #[.string ⟨#[115, 108, 101, 101, 112]⟩, .string ⟨#[113, 117, 105, 116]⟩, .string ⟨#[105, 110, 105, 116, 45, 100, 98]⟩, .string ⟨#[113, 117, 101, 114, 121]⟩, .string ⟨#[102, 105, 101, 108, 100, 45, 108, 105, 115, 116]⟩, .string ⟨#[99, 114, 101, 97, 116, 101, 45, 100, 98]⟩, .string ⟨#[100, 114, 111, 112, 45, 100, 98]⟩, .string ⟨#[114, 101, 102, 114, 101, 115, 104]⟩] 9)) q0 q1)
  have B0 := hide b0
  have hil : ¬ 9223372036854775807 < 8 + (Lib.itoa k).length := by
    have := Lib.itoa_length_le k (by omega) (by omega)
    omega
  have HC := hide (cmd_cat (Lib.itoa k))
  clear b0 hS h0 h1 h2 h3 h4 h5 h6 h7 h9 h12 h14 h17 h22 h23 h24 h25 h26 h27 h28 h31
  go_enter Tryd.func17, Tryd.ntmps17
  go_wp2_with fail
  refine (unhide cD).mono ?_
  rintro e w2 ⟨rfl, b2⟩
  have B2 := hide ((unhide B0).trans (b2.mono (unhide B0).size))
  clear b2 cD
  go_wp2_with fail
  go_ret
  exact ⟨by rw [← unhide HC]; rfl, unhide B2⟩

end Go.Proofs.YtpidlfifipgadaaDoor
