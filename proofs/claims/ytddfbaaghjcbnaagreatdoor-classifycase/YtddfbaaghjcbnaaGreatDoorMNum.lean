/-
  What package scan's functions on numbers return for any text. Conditions: the text is not greater than a program's memory; the library's variables read as they were laid.
  What package scan's functions on numbers return for any text: with a point, with an exponent, a number as a word. Conditions: at most 2,000,000 bytes; the library's variables read as they were laid.
  What package scan's functions on blanks and remarks return for any text. Conditions: at most 2,000,000 bytes; the library's variables read as they were laid.
-/
import Derived.Test.YtddfbaaghjcbnaaGreatDoorScRow
namespace Go.Proofs.YtddfbaaghjcbnaaGreatDoor
open Go.RowKit
set_option linter.unusedVariables false
set_option linter.unusedSimpArgs false

theorem u8_back (c : UInt8) : ((c.toNat : Int)).toNat.toUInt8 = c := by simp
theorem bl_at (s : ByteArray) (i : Nat) (h : i < s.size) : s[i]'h = (bl s).getD i 0 := by
  have h2 : i < (bl s).length := by rw [bl_len]; exact h
  rw [List.getD_eq_getElem?_getD, List.getElem?_eq_getElem h2, Option.getD_some]
  rfl
theorem ne_of_nil {s : ByteArray} (h : bl s = []) : s.toList.isEmpty = true := by rw [Lib.toList_data]; show List.isEmpty (bl s) = true; rw [h]; rfl
theorem ne_of_cons {s : ByteArray} {c : UInt8} {r : Bl} (h : bl s = c :: r) : s.toList.isEmpty = false := by rw [Lib.toList_data]; show List.isEmpty (bl s) = false; rw [h]; rfl

theorem hasOneOf_any (s o : ByteArray) (w : World) : Calls Tryz.prog 71 #[.string s, .string o] w fun e w' => e = .returned (.bool (has1 (bl s) (bl o))) ∧ w' = w := by
  cases hl : bl s with
  | nil =>
    have h0 := ne_of_nil hl
    clear hl
    go_enter Tryz.func71, Tryz.ntmps71
    go_wp2_with fail
    go_ret
    exact ⟨rfl, rfl⟩
  | cons c r =>
    have h0 := ne_of_cons hl
    have hz : 0 < s.size := by rw [← bl_len, hl]; simp
    have hc := Tryz.strings_IndexByte o (c.toNat : Int) w
    rw [u8_back] at hc
    have hg := bl_at s 0 hz
    rw [hl] at hg
    simp only [List.getD_cons_zero] at hg
    have he : has1 (c :: r) (bl o) = decide (0 ≤ Lib.indexByte o.data.toList c) := rfl
    rw [he]
    generalize Lib.indexByte o.data.toList c = X at *
    have HC := hide hc
    have b0 : (0 : Int) ≤ (c.toNat : Int) := by omega
    have b1 : ((c.toNat : Nat) : Int) < 256 := by have := c.toNat_lt; omega
    clear hc he hl
    go_enter Tryz.func71, Tryz.ntmps71
    go_wp2_with (go_at_call 98; refine same_world (unhide HC) ?_)
    go_ret
    exact ⟨rfl, rfl⟩

/-- strings.CutPrefix, in the words of ScPlain. -/
theorem cut_any (s p : ByteArray) (w : World) : Calls Tryz.prog 73 #[.string s, .string p] w fun e w' => e = .returned (.tuple #[.string (if pre (bl p) (bl s) then ba ((bl s).drop p.size) else s), .bool (pre (bl p) (bl s))]) ∧ w' = w := by
  have c := Tryz.strings_CutPrefix s p w
  have e1 : Lib.hasPrefix s.data.toList p.data.toList = pre (bl p) (bl s) := rfl
  have e2 : (⟨(Lib.trimPrefix s.data.toList p.data.toList).toArray⟩ : ByteArray) = if pre (bl p) (bl s) then ba ((bl s).drop p.size) else s := by
    unfold Lib.trimPrefix
    rw [e1]
    split
    · rw [Lib.size_eq p]; rfl
    · rfl
  rw [e1, e2] at c
  exact c

theorem isD_e : ∀ args w, (callFunc 69 args).run Tryz.prog w = .ok (.enter 69 args) w := enters_of Tryz.func69 (by kernel_rfl) rfl
theorem isH_e : ∀ args w, (callFunc 102 args).run Tryz.prog w = .ok (.enter 102 args) w := enters_of Tryz.func102 (by kernel_rfl) rfl
theorem isN_e : ∀ args w, (callFunc 68 args).run Tryz.prog w = .ok (.enter 68 args) w := enters_of Tryz.func68 (by kernel_rfl) rfl
theorem isS_e : ∀ args w, (callFunc 74 args).run Tryz.prog w = .ok (.enter 74 args) w := enters_of Tryz.func74 (by kernel_rfl) rfl
theorem aheadD (s : ByteArray) (w : World) (hV : Vr w) : Calls Tryz.prog 67 #[.string s, .func (.func 69) #[] #[]] w fun e w' => e = .returned (.int .i64 (ah isD (bl s))) ∧ Below w.heap.size w w' := ahead_any _ _ isD_e isDigit_any s w hV
theorem aheadH (s : ByteArray) (w : World) (hV : Vr w) : Calls Tryz.prog 67 #[.string s, .func (.func 102) #[] #[]] w fun e w' => e = .returned (.int .i64 (ah isH (bl s))) ∧ Below w.heap.size w w' := ahead_any _ _ isH_e isHexDigit_any s w hV
theorem aheadN (s : ByteArray) (w : World) (hV : Vr w) : Calls Tryz.prog 67 #[.string s, .func (.func 68) #[] #[]] w fun e w' => e = .returned (.int .i64 (ah isN (bl s))) ∧ Below w.heap.size w w' := ahead_any _ _ isN_e isOfName_any s w hV
theorem aheadS (s : ByteArray) (w : World) (hV : Vr w) : Calls Tryz.prog 67 #[.string s, .func (.func 74) #[] #[]] w fun e w' => e = .returned (.int .i64 (ah isS (bl s))) ∧ Below w.heap.size w w' := ahead_any _ _ isS_e isOfSystem_any s w hV

set_option maxHeartbeats 1000000 in
theorem hexSize_any (s : ByteArray) (w : World) (hV : Vr w) (hs : s.size ≤ 2000000) : Calls Tryz.prog 65 #[.string s] w fun e w' => e = .returned (.int .i64 (hexZ (bl s))) ∧ Below w.heap.size w w' := by
  have c0 := cut_any s ⟨#[48, 120]⟩ w
  rw [show bl ⟨#[48, 120]⟩ = [48, 120] from rfl, show (⟨#[48, 120]⟩ : ByteArray).size = 2 from rfl] at c0
  unfold hexZ
  cases hp : pre [48, 120] (bl s) with
  | false =>
    rw [hp] at c0
    have C0 := hide c0
    clear c0 hp
    go_enter Tryz.func65, Tryz.ntmps65
    go_wp2_with (go_at_call 73; refine same_world (unhide C0) ?_)
    go_ret
    exact ⟨rfl, Below.refl _ _⟩
  | true =>
    rw [hp] at c0
    have C0 := hide c0
    have c1 := aheadH (ba ((bl s).drop 2)) w hV
    rw [bl_ba] at c1
    have hle := ah_le isH ((bl s).drop 2)
    rw [List.length_drop, bl_len] at hle
    generalize ah isH ((bl s).drop 2) = Z at *
    have C1 := hide c1
    clear c0 c1 hp
    simp only [if_true]
    by_cases hZ : Z = 0
    · subst hZ
      go_enter Tryz.func65, Tryz.ntmps65
      go_wp2_with (first | (go_at_call 73; refine same_world (unhide C0) ?_) | (go_at_call 67; refine (unhide C1).mono ?_; rintro e w1 ⟨rfl, hb⟩))
      go_ret
      exact ⟨rfl, hb⟩
    · have hz : ((Z : Int) == 0) = false := by rw [beq_eq_false_iff_ne]; omega
      go_enter Tryz.func65, Tryz.ntmps65
      go_wp2_with (first | (go_at_call 73; refine same_world (unhide C0) ?_) | (go_at_call 67; refine (unhide C1).mono ?_; rintro e w1 ⟨rfl, hb⟩))
      go_ret
      exact ⟨by simp [hZ], hb⟩
end Go.Proofs.YtddfbaaghjcbnaaGreatDoor

namespace Go.Proofs.YtddfbaaghjcbnaaGreatDoor
open Go.RowKit
set_option linter.unusedVariables false
set_option linter.unusedSimpArgs false

theorem bl_pre (s : ByteArray) (n : Nat) : bl (s.extract 0 n) = (bl s).take n := by rw [bl_sub, List.drop_zero, Nat.sub_zero]
theorem sz_cut (s : ByteArray) (a : Nat) : (s.extract a s.size).size = s.size - a := by rw [← bl_len, bl_cut, List.length_drop, bl_len]
theorem sz_pre (s : ByteArray) (n : Nat) (h : n ≤ s.size) : (s.extract 0 n).size = n := by rw [← bl_len, bl_pre, List.length_take, bl_len]; omega

set_option maxHeartbeats 1000000 in
set_option maxRecDepth 20000 in
theorem pointedSize_any (s : ByteArray) (w : World) (hV : Vr w) (hs : s.size ≤ 2000000) : Calls Tryz.prog 103 #[.string s] w fun e w' => e = .returned (.int .i64 (ptZ (bl s))) ∧ Below w.heap.size w w' := by
  have HV := hide hV
  have c0 := fun wx (h : Vr wx) => aheadD s wx h
  have hle := ah_le isD (bl s)
  rw [bl_len] at hle
  unfold ptZ
  generalize ah isD (bl s) = A at *
  have c1 := fun wx => cut_any (s.extract A s.size) ⟨#[46]⟩ wx
  rw [bl_cut, show bl ⟨#[46]⟩ = [46] from rfl, show (⟨#[46]⟩ : ByteArray).size = 1 from rfl] at c1
  have c2 := fun wx (h : Vr wx) => aheadD (ba (((bl s).drop A).drop 1)) wx h
  rw [bl_ba] at c2
  generalize ba (((bl s).drop A).drop 1) = X at *
  have hle2 := ah_le isD (((bl s).drop A).drop 1)
  rw [List.length_drop, List.length_drop, bl_len] at hle2
  generalize ah isD (((bl s).drop A).drop 1) = B at *
  have HC0 := hide c0
  have HC2 := hide c2
  have bz := Below.refl w.heap.size w
  clear c0 c2
  cases hp : pre [46] ((bl s).drop A) with
  | false =>
    rw [hp] at c1
    simp only [if_true, Bool.false_eq_true, if_false] at c1
    have HC1 := hide c1
    clear c1 hp
    go_enter Tryz.func103, Tryz.ntmps103
    go_wp2_with (first | (go_at_call 67; (with_reducible refine (unhide HC0 _ ((unhide HV).later bz)).mono ?_); rintro e wz ⟨rfl, qz⟩; have bz := bt bz qz) | (go_at_call 67; (with_reducible refine (unhide HC2 _ ((unhide HV).later bz)).mono ?_); rintro e wz ⟨rfl, qz⟩; have bz := bt bz qz) | (go_at_call 73; (with_reducible refine same_world (unhide HC1 _) ?_)))
    go_ret
    exact ⟨rfl, bz⟩
  | true =>
    rw [hp] at c1
    simp only [if_true, Bool.false_eq_true, if_false] at c1
    have HC1 := hide c1
    clear c1 hp
    simp only [if_true]
    by_cases hZ : A + B = 0
    · have hz : ((A : Int) + (B : Int) == 0) = true := by rw [beq_iff_eq]; omega
      rw [if_pos hZ]
      go_enter Tryz.func103, Tryz.ntmps103
      go_wp2_with (first | (go_at_call 67; (with_reducible refine (unhide HC0 _ ((unhide HV).later bz)).mono ?_); rintro e wz ⟨rfl, qz⟩; have bz := bt bz qz) | (go_at_call 67; (with_reducible refine (unhide HC2 _ ((unhide HV).later bz)).mono ?_); rintro e wz ⟨rfl, qz⟩; have bz := bt bz qz) | (go_at_call 73; (with_reducible refine same_world (unhide HC1 _) ?_)))
      go_ret
      exact ⟨rfl, bz⟩
    · have hz : ((A : Int) + (B : Int) == 0) = false := by rw [beq_eq_false_iff_ne]; omega
      rw [if_neg hZ]
      go_enter Tryz.func103, Tryz.ntmps103
      go_wp2_with (first | (go_at_call 67; (with_reducible refine (unhide HC0 _ ((unhide HV).later bz)).mono ?_); rintro e wz ⟨rfl, qz⟩; have bz := bt bz qz) | (go_at_call 67; (with_reducible refine (unhide HC2 _ ((unhide HV).later bz)).mono ?_); rintro e wz ⟨rfl, qz⟩; have bz := bt bz qz) | (go_at_call 73; (with_reducible refine same_world (unhide HC1 _) ?_)))
      go_ret
      exact ⟨by simp, bz⟩

set_option maxHeartbeats 1000000 in
set_option maxRecDepth 20000 in
theorem exponentSize_any (s : ByteArray) (w : World) (hV : Vr w) (hs : s.size ≤ 2000000) : Calls Tryz.prog 104 #[.string s] w fun e w' => e = .returned (.int .i64 (exZ (bl s))) ∧ Below w.heap.size w w' := by
  have HV := hide hV
  have bz := Below.refl w.heap.size w
  have c0 := fun wx => hasOneOf_any s ⟨#[101, 69]⟩ wx
  rw [show bl ⟨#[101, 69]⟩ = [101, 69] from rfl] at c0
  unfold exZ
  cases hp : has1 (bl s) [101, 69] with
  | false =>
    rw [hp] at c0
    have HC0 := hide c0
    clear c0 hp
    go_enter Tryz.func104, Tryz.ntmps104
    go_wp2_with (go_at_call 71; (with_reducible refine same_world (unhide HC0 _) ?_))
    go_ret
    exact ⟨rfl, bz⟩
  | true =>
    have hne : 1 ≤ s.size := by
      rw [← bl_len]
      cases hq : bl s with
      | nil => rw [hq] at hp; cases hp
      | cons a r => simp
    rw [hp] at c0
    have HC0 := hide c0
    have c1 := fun wx => hasOneOf_any (s.extract 1 s.size) ⟨#[43, 45]⟩ wx
    rw [bl_cut, show bl ⟨#[43, 45]⟩ = [43, 45] from rfl] at c1
    have hA : exA (bl s) = if has1 ((bl s).drop 1) [43, 45] then 2 else 1 := rfl
    clear c0 hp
    simp only [if_true]
    cases hq : has1 ((bl s).drop 1) [43, 45] with
    | false =>
      rw [hq] at c1 hA
      simp only [Bool.false_eq_true, if_false] at hA
      rw [hA]
      have HC1 := hide c1
      have c2 := fun wx (h : Vr wx) => aheadD (s.extract 1 s.size) wx h
      rw [bl_cut] at c2
      have hle := ah_le isD ((bl s).drop 1)
      rw [List.length_drop, bl_len] at hle
      generalize ah isD ((bl s).drop 1) = B at *
      have HC2 := hide c2
      clear c1 c2 hq hA
      by_cases hZ : B = 0
      · subst hZ
        go_enter Tryz.func104, Tryz.ntmps104
        go_wp2_with (first | (go_at_call 71; (with_reducible refine same_world (unhide HC0 _) ?_)) | (go_at_call 71; (with_reducible refine same_world (unhide HC1 _) ?_)) | (go_at_call 67; (with_reducible refine (unhide HC2 _ ((unhide HV).later bz)).mono ?_); rintro e wz ⟨rfl, qz⟩; have bz := bt bz qz))
        go_ret
        exact ⟨rfl, bz⟩
      · have hz : ((B : Int) == 0) = false := by rw [beq_eq_false_iff_ne]; omega
        rw [if_neg hZ]
        go_enter Tryz.func104, Tryz.ntmps104
        go_wp2_with (first | (go_at_call 71; (with_reducible refine same_world (unhide HC0 _) ?_)) | (go_at_call 71; (with_reducible refine same_world (unhide HC1 _) ?_)) | (go_at_call 67; (with_reducible refine (unhide HC2 _ ((unhide HV).later bz)).mono ?_); rintro e wz ⟨rfl, qz⟩; have bz := bt bz qz))
        go_ret
        exact ⟨by simp, bz⟩
    | true =>
      have hn2 : 2 ≤ s.size := by
        rw [← bl_len]
        cases hx : bl s with
        | nil => rw [hx] at hq; cases hq
        | cons a r =>
          cases r with
          | nil => rw [hx] at hq; cases hq
          | cons d t => simp
      rw [hq] at c1 hA
      simp only [if_true] at hA
      rw [hA]
      have HC1 := hide c1
      have c2 := fun wx (h : Vr wx) => aheadD (s.extract 2 s.size) wx h
      rw [bl_cut] at c2
      have hle := ah_le isD ((bl s).drop 2)
      rw [List.length_drop, bl_len] at hle
      generalize ah isD ((bl s).drop 2) = B at *
      have HC2 := hide c2
      clear c1 c2 hq hA
      by_cases hZ : B = 0
      · subst hZ
        go_enter Tryz.func104, Tryz.ntmps104
        go_wp2_with (first | (go_at_call 71; (with_reducible refine same_world (unhide HC0 _) ?_)) | (go_at_call 71; (with_reducible refine same_world (unhide HC1 _) ?_)) | (go_at_call 67; (with_reducible refine (unhide HC2 _ ((unhide HV).later bz)).mono ?_); rintro e wz ⟨rfl, qz⟩; have bz := bt bz qz))
        go_ret
        exact ⟨rfl, bz⟩
      · have hz : ((B : Int) == 0) = false := by rw [beq_eq_false_iff_ne]; omega
        rw [if_neg hZ]
        go_enter Tryz.func104, Tryz.ntmps104
        go_wp2_with (first | (go_at_call 71; (with_reducible refine same_world (unhide HC0 _) ?_)) | (go_at_call 71; (with_reducible refine same_world (unhide HC1 _) ?_)) | (go_at_call 67; (with_reducible refine (unhide HC2 _ ((unhide HV).later bz)).mono ?_); rintro e wz ⟨rfl, qz⟩; have bz := bt bz qz))
        go_ret
        exact ⟨by simp, bz⟩

set_option maxHeartbeats 1000000 in
set_option maxRecDepth 20000 in
theorem decimalSize_any (s : ByteArray) (w : World) (hV : Vr w) (hs : s.size ≤ 2000000) : Calls Tryz.prog 66 #[.string s] w fun e w' => e = .returned (.int .i64 (deZ (bl s))) ∧ Below w.heap.size w w' := by
  have HV := hide hV
  have bz := Below.refl w.heap.size w
  have c0 := fun wx (h : Vr wx) => pointedSize_any s wx h hs
  have hle := ptZ_le (bl s)
  rw [bl_len] at hle
  unfold deZ
  generalize ptZ (bl s) = A at *
  have c1 := fun wx (h : Vr wx) => exponentSize_any (s.extract A s.size) wx h (by rw [sz_cut]; omega)
  rw [bl_cut] at c1
  have hl2 := exZ_le ((bl s).drop A)
  rw [List.length_drop, bl_len] at hl2
  generalize exZ ((bl s).drop A) = B at *
  have HC0 := hide c0
  have HC1 := hide c1
  clear c0 c1
  by_cases hZ : A = 0
  · subst hZ
    go_enter Tryz.func66, Tryz.ntmps66
    go_wp2_with (first | (go_at_call 103; (with_reducible refine (unhide HC0 _ ((unhide HV).later bz)).mono ?_); rintro e wz ⟨rfl, qz⟩; have bz := bt bz qz) | (go_at_call 104; (with_reducible refine (unhide HC1 _ ((unhide HV).later bz)).mono ?_); rintro e wz ⟨rfl, qz⟩; have bz := bt bz qz))
    go_ret
    exact ⟨rfl, bz⟩
  · have hz : ((A : Int) == 0) = false := by rw [beq_eq_false_iff_ne]; omega
    rw [if_neg hZ]
    go_enter Tryz.func66, Tryz.ntmps66
    go_wp2_with (first | (go_at_call 103; (with_reducible refine (unhide HC0 _ ((unhide HV).later bz)).mono ?_); rintro e wz ⟨rfl, qz⟩; have bz := bt bz qz) | (go_at_call 104; (with_reducible refine (unhide HC1 _ ((unhide HV).later bz)).mono ?_); rintro e wz ⟨rfl, qz⟩; have bz := bt bz qz))
    go_ret
    exact ⟨by simp, bz⟩

theorem nuZ_le (l : Bl) : nuZ l ≤ l.length := by
  unfold nuZ
  split
  · exact deZ_le l
  · exact hexZ_le l

set_option maxHeartbeats 1000000 in
set_option maxRecDepth 20000 in
theorem number_any (s : ByteArray) (w : World) (hV : Vr w) (hs : s.size ≤ 2000000) : Calls Tryz.prog 23 #[.string s] w fun e w' => e = .returned (.agg (fdC (numF (bl s)))) ∧ Below w.heap.size w w' := by
  have HV := hide hV
  have c0 := fun wx (h : Vr wx) => hexSize_any s wx h hs
  have c1 := fun wx (h : Vr wx) => decimalSize_any s wx h hs
  have hle := nuZ_le (bl s)
  rw [bl_len] at hle
  have hN : nuZ (bl s) = if hexZ (bl s) = 0 then deZ (bl s) else hexZ (bl s) := rfl
  unfold numF
  generalize nuZ (bl s) = N at *
  generalize hexZ (bl s) = A at *
  generalize deZ (bl s) = B at *
  have c2 := fun wx => itself_any 4 (s.extract 0 N) wx (by rw [sz_pre _ _ hle]; omega)
  rw [bl_pre] at c2
  obtain ⟨F, hF⟩ : ∃ F, F = its 4 ((bl s).take N) := ⟨_, rfl⟩
  rw [← hF] at c2 ⊢
  clear hF
  have HC0 := hide c0
  have HC1 := hide c1
  have HC2 := hide c2
  clear c0 c1 c2
  by_cases hA : A = 0
  · subst hA
    simp only [if_true] at hN
    subst hN
    by_cases hZ : N = 0
    · subst hZ
      rw [if_pos rfl]
      go_enter Tryz.func23, Tryz.ntmps23
      go_wp2_with (first | (with_reducible show wpList Tryz.prog _ _ (Oper.mk _ (Op.alloc 43) _ _ _ none :: _) _ _; refine wpList_alF rfl rfl ?_; intro wz rz bz sz) | (go_at_call 65; (with_reducible refine (unhide HC0 _ ((unhide HV).later bz)).mono ?_); rintro e wz ⟨rfl, qz⟩; have rz := rz.later qz; have bz := bt bz qz) | (go_at_call 66; (with_reducible refine (unhide HC1 _ ((unhide HV).later bz)).mono ?_); rintro e wz ⟨rfl, qz⟩; have rz := rz.later qz; have bz := bt bz qz) | (go_at_call 64; (with_reducible refine (unhide HC2 _).mono ?_); rintro e wz ⟨rfl, qz⟩; have rz := rz.later qz; have bz := bt bz qz) | (with_reducible show wpList Tryz.prog _ _ (Oper.mk _ (Op.store 43 _ _) _ _ _ none :: _) _ _; refine wpList_stF rfl (.tmp 2) (.tmp 12) rfl w.heap.size nil0 nil0 (by simp [Act.eval, Act.put]) (by simp [Act.eval, Act.put, fdC, nil0, ba]) rz ?_; intro wy ry gy sy) | (with_reducible show wpList Tryz.prog _ _ (Oper.mk _ (Op.store 43 _ _) _ _ _ none :: _) _ _; refine wpList_stF rfl (.tmp 2) (.tmp 16) rfl w.heap.size F nil0 (by simp [Act.eval, Act.put]) (by simp [Act.eval, Act.put, fdC, nil0, er]) rz ?_; intro wy ry gy sy))
      exact fd_end rfl w.heap.size _ _ rfl rfl ry rfl (below_gb bz gy (Nat.le_refl _))
    · have hz : ((N : Int) == 0) = false := by rw [beq_eq_false_iff_ne]; omega
      rw [if_neg hZ]
      go_enter Tryz.func23, Tryz.ntmps23
      go_wp2_with (first | (with_reducible show wpList Tryz.prog _ _ (Oper.mk _ (Op.alloc 43) _ _ _ none :: _) _ _; refine wpList_alF rfl rfl ?_; intro wz rz bz sz) | (go_at_call 65; (with_reducible refine (unhide HC0 _ ((unhide HV).later bz)).mono ?_); rintro e wz ⟨rfl, qz⟩; have rz := rz.later qz; have bz := bt bz qz) | (go_at_call 66; (with_reducible refine (unhide HC1 _ ((unhide HV).later bz)).mono ?_); rintro e wz ⟨rfl, qz⟩; have rz := rz.later qz; have bz := bt bz qz) | (go_at_call 64; (with_reducible refine (unhide HC2 _).mono ?_); rintro e wz ⟨rfl, qz⟩; have rz := rz.later qz; have bz := bt bz qz) | (with_reducible show wpList Tryz.prog _ _ (Oper.mk _ (Op.store 43 _ _) _ _ _ none :: _) _ _; refine wpList_stF rfl (.tmp 2) (.tmp 12) rfl w.heap.size nil0 nil0 (by simp [Act.eval, Act.put]) (by simp [Act.eval, Act.put, fdC, nil0, ba]) rz ?_; intro wy ry gy sy) | (with_reducible show wpList Tryz.prog _ _ (Oper.mk _ (Op.store 43 _ _) _ _ _ none :: _) _ _; refine wpList_stF rfl (.tmp 2) (.tmp 16) rfl w.heap.size F nil0 (by simp [Act.eval, Act.put]) (by simp [Act.eval, Act.put, fdC, nil0, er]) rz ?_; intro wy ry gy sy))
      exact fd_end rfl w.heap.size _ _ rfl rfl ry rfl (below_gb bz gy (Nat.le_refl _))
  · have hz : ((A : Int) == 0) = false := by rw [beq_eq_false_iff_ne]; omega
    rw [if_neg hA] at hN
    subst hN
    rw [if_neg hA]
    go_enter Tryz.func23, Tryz.ntmps23
    go_wp2_with (first | (with_reducible show wpList Tryz.prog _ _ (Oper.mk _ (Op.alloc 43) _ _ _ none :: _) _ _; refine wpList_alF rfl rfl ?_; intro wz rz bz sz) | (go_at_call 65; (with_reducible refine (unhide HC0 _ ((unhide HV).later bz)).mono ?_); rintro e wz ⟨rfl, qz⟩; have rz := rz.later qz; have bz := bt bz qz) | (go_at_call 66; (with_reducible refine (unhide HC1 _ ((unhide HV).later bz)).mono ?_); rintro e wz ⟨rfl, qz⟩; have rz := rz.later qz; have bz := bt bz qz) | (go_at_call 64; (with_reducible refine (unhide HC2 _).mono ?_); rintro e wz ⟨rfl, qz⟩; have rz := rz.later qz; have bz := bt bz qz) | (with_reducible show wpList Tryz.prog _ _ (Oper.mk _ (Op.store 43 _ _) _ _ _ none :: _) _ _; refine wpList_stF rfl (.tmp 2) (.tmp 12) rfl w.heap.size nil0 nil0 (by simp [Act.eval, Act.put]) (by simp [Act.eval, Act.put, fdC, nil0, ba]) rz ?_; intro wy ry gy sy) | (with_reducible show wpList Tryz.prog _ _ (Oper.mk _ (Op.store 43 _ _) _ _ _ none :: _) _ _; refine wpList_stF rfl (.tmp 2) (.tmp 16) rfl w.heap.size F nil0 (by simp [Act.eval, Act.put]) (by simp [Act.eval, Act.put, fdC, nil0, er]) rz ?_; intro wy ry gy sy))
    exact fd_end rfl w.heap.size _ _ rfl rfl ry rfl (below_gb bz gy (Nat.le_refl _))

end Go.Proofs.YtddfbaaghjcbnaaGreatDoor

namespace Go.Proofs.YtddfbaaghjcbnaaGreatDoor
open Go.RowKit
set_option linter.unusedVariables false
set_option linter.unusedSimpArgs false

theorem hp_any (s p : ByteArray) (w : World) : Calls Tryz.prog 61 #[.string s, .string p] w fun e w' => e = .returned (.bool (pre (bl p) (bl s))) ∧ w' = w := Tryz.strings_HasPrefix s p w
theorem opensOdd_any (s : ByteArray) (w : World) : Calls Tryz.prog 62 #[.string s] w fun e w' => e = .returned (.bool (opO (bl s))) ∧ w' = w := by
  have c0 := fun wx => hp_any s ⟨#[47, 42, 33]⟩ wx
  have c1 := fun wx => hp_any s ⟨#[47, 42, 43]⟩ wx
  rw [show bl ⟨#[47, 42, 33]⟩ = [47, 42, 33] from rfl] at c0
  rw [show bl ⟨#[47, 42, 43]⟩ = [47, 42, 43] from rfl] at c1
  unfold opO
  generalize pre [47, 42, 33] (bl s) = A at *
  generalize pre [47, 42, 43] (bl s) = B at *
  have HC0 := hide c0
  have HC1 := hide c1
  clear c0 c1
  cases A
  all_goals
    go_enter Tryz.func62, Tryz.ntmps62
    go_wp2_with (first | (go_at_call 61; (with_reducible refine same_world (unhide HC0 _) ?_)) | (go_at_call 61; (with_reducible refine same_world (unhide HC1 _) ?_)))
    go_ret
    exact ⟨rfl, rfl⟩

set_option maxRecDepth 20000 in
theorem lineSize_any (s : ByteArray) (w : World) (hs : s.size ≤ 2000000) : Calls Tryz.prog 60 #[.string s] w fun e w' => e = .returned (.int .i64 (liZ (bl s))) ∧ w' = w := by
  have c0 := fun wx => Tryz.strings_IndexByte s 10 wx
  rw [show (10 : Int).toNat.toUInt8 = 10 from rfl] at c0
  unfold liZ
  rw [bl_len]
  rw [show s.data.toList = bl s from rfl] at c0
  generalize Lib.indexByte (bl s) 10 = X at *
  have HC0 := hide c0
  clear c0
  by_cases h : 0 ≤ X
  · have hx := hide (show ((X.toNat : Nat) : Int) = X by omega)
    rw [if_pos h]
    go_enter Tryz.func60, Tryz.ntmps60
    go_wp2_with (go_at_call 98; (with_reducible refine same_world (unhide HC0 _) ?_))
    go_ret
    exact ⟨by rw [unhide hx]; rfl, rfl⟩
  · rw [if_neg h]
    go_enter Tryz.func60, Tryz.ntmps60
    go_wp2_with (go_at_call 98; (with_reducible refine same_world (unhide HC0 _) ?_))
    go_ret
    exact ⟨rfl, rfl⟩

set_option maxRecDepth 20000 in
theorem opensLine_any (s : ByteArray) (w : World) (hs : s.size ≤ 2000000) (h1 : 1 ≤ s.size) : Calls Tryz.prog 59 #[.string s] w fun e w' => e = .returned (.bool (opL (bl s))) ∧ w' = w := by
  have hz : 0 < s.size := h1
  have hg := bl_at s 0 hz
  obtain ⟨c, r, hl⟩ : ∃ c r, bl s = c :: r := by
    cases h : bl s with
    | nil => have := bl_len s; rw [h] at this; simp at this; omega
    | cons a r => exact ⟨a, r, rfl⟩
  rw [hl, List.getD_cons_zero] at hg
  have hO : opL (bl s) = (decide (c = 35) || (pre [45, 45] (bl s) && decide (2 < (bl s).length) && isB (((bl s).getD 2 0).toNat : Int))) := by
    rw [hl]
    rfl
  rw [hO, bl_len]
  have hc : (decide (c = 35)) = ((c.toNat : Int) == 35) := by
    rw [Bool.eq_iff_iff]
    simp only [decide_eq_true_eq, beq_iff_eq]
    constructor
    · intro h; rw [h]; rfl
    · intro h
      apply UInt8.toNat_inj.1
      have : c.toNat = 35 := by omega
      rw [this]
      rfl
  rw [hc]
  have b0 : (0 : Int) ≤ (c.toNat : Int) := by omega
  have b1 : ((c.toNat : Nat) : Int) < 256 := by have := c.toNat_lt; omega
  generalize hC : (c.toNat : Int) = C at *
  clear hO hc
  by_cases h35 : C = 35
  · subst h35
    go_enter Tryz.func59, Tryz.ntmps59
    go_wp2_with fail
    go_ret
    exact ⟨rfl, rfl⟩
  · have hb35 : (C == 35) = false := by rw [beq_eq_false_iff_ne]; exact h35
    rw [hb35]
    simp only [Bool.false_or]
    by_cases h2 : 2 < s.size
    · have hg2 := bl_at s 2 h2
      have c0 := fun wx => isBlank_any ((((bl s).getD 2 0).toNat : Int)) wx
      have b2 : (0 : Int) ≤ (((bl s).getD 2 0).toNat : Int) := by omega
      have b3 : ((((bl s).getD 2 0).toNat : Nat) : Int) < 256 := by have := ((bl s).getD 2 0).toNat_lt; omega
      have hd : decide (2 < s.size) = true := by simpa using h2
      rw [hd, Bool.and_true]
      have hq : ((s.extract 0 2).toList == [45, 45]) = pre [45, 45] (bl s) := by
        rw [Lib.toList_data, Lib.extract_data, List.drop_zero]
        show ((bl s).take 2 == [45, 45]) = pre [45, 45] (bl s)
        unfold pre
        rw [hl]
        have : 2 < (bl s).length := by rw [bl_len]; exact h2
        rw [hl] at this
        cases r with
        | nil => simp at this
        | cons d t =>
          rw [Bool.eq_iff_iff]
          simp [List.isPrefixOf]
          constructor
          · rintro ⟨h1, h2⟩; exact ⟨h1.symm, h2.symm⟩
          · rintro ⟨h1, h2⟩; exact ⟨h1.symm, h2.symm⟩
      generalize pre [45, 45] (bl s) = P at *
      generalize (bl s).getD 2 0 = G at *
      generalize isB (G.toNat : Int) = Z at *
      have HC0 := hide c0
      clear c0 hl hd
      go_enter Tryz.func59, Tryz.ntmps59
      go_wp2_with (go_at_call 58; (with_reducible refine same_world (unhide HC0 _) ?_))
      · go_ret
        rename_i hx
        have : P = true := by first | exact hx | (rw [hx] at hq; exact hq.symm)
        rw [this]
        exact ⟨rfl, rfl⟩
      · go_ret
        rename_i hx
        have : P = false := by simpa using hx
        rw [this]
        exact ⟨rfl, rfl⟩
    · have hd : decide (2 < s.size) = false := by simpa using h2
      rw [hd, Bool.and_false, Bool.false_and]
      go_enter Tryz.func59, Tryz.ntmps59
      go_wp2_with fail
      go_ret
      exact ⟨rfl, rfl⟩

theorem reF_le (l : Bl) (h : 2 ≤ l.length) : (reF l).n ≤ l.length := by
  unfold reF
  split
  · exact Nat.zero_le _
  · rename_i h0
    have := Lib.index_room (l.drop 2) [42, 47] (by have := Lib.index_ge (l.drop 2) [42, 47]; omega)
    simp only [List.length_drop, List.length_cons, List.length_nil] at this ⊢
    omega

set_option maxHeartbeats 1000000 in
set_option maxRecDepth 20000 in
theorem remark_any (s : ByteArray) (w : World) (hV : Vr w) (hs : s.size ≤ 2000000) (h2 : 2 ≤ s.size) : Calls Tryz.prog 63 #[.string s] w fun e w' => e = .returned (.agg (fdC (reF (bl s)))) ∧ Below w.heap.size w w' := by
  have HV := hide hV
  have c0 : ∀ wx, Vr wx → Calls Tryz.prog 100 #[.string (s.extract 2 s.size), .string ⟨#[42, 47]⟩] wx fun e w' => e = .returned (.int .i64 (Lib.index ((bl s).drop 2) [42, 47])) ∧ w' = wx := fun wx hx => by
    obtain ⟨m, hm⟩ := hx.mx
    have := Tryz.strings_Index (s.extract 2 s.size) ⟨#[42, 47]⟩ m wx (by rw [sz_cut]; omega) hm
    rw [show (s.extract 2 s.size).data.toList = (bl s).drop 2 from bl_cut s 2] at this
    exact this
  have hro : 0 ≤ Lib.index ((bl s).drop 2) [42, 47] → Lib.index ((bl s).drop 2) [42, 47] ≤ 2000000 := fun h => by
    have := Lib.index_room ((bl s).drop 2) [42, 47] (by omega)
    simp only [List.length_drop, List.length_cons, List.length_nil, bl_len] at this
    omega
  unfold reF
  generalize Lib.index ((bl s).drop 2) [42, 47] = X at *
  have HC0 := hide c0
  clear c0
  have h2' : (2 : Int) ≤ (s.size : Int) := by omega
  by_cases h : X < 0
  · rw [if_pos h]
    go_enter Tryz.func63, Tryz.ntmps63
    go_wp2_with (first | (with_reducible show wpList Tryz.prog _ _ (Oper.mk _ (Op.alloc 43) _ _ _ none :: _) _ _; refine wpList_alF rfl rfl ?_; intro wz rz bz sz) | (go_at_call 100; (with_reducible refine same_world (unhide HC0 _ ((unhide HV).later bz)) ?_)) | (with_reducible show wpList Tryz.prog _ _ (Oper.mk _ (Op.store 43 _ _) _ _ _ none :: _) _ _; refine wpList_stF rfl (.tmp 2) (.tmp 9) rfl w.heap.size (er 190) nil0 (by simp [Act.eval, Act.put]) (by simp [Act.eval, Act.put, fdC, er, ba]) rz ?_; intro wy ry gy sy))
    exact fd_end rfl w.heap.size _ _ rfl rfl ry rfl (below_gb bz gy (Nat.le_refl _))
  · rw [if_neg h]
    have hX := hro (by omega)
    obtain ⟨F, hF⟩ : ∃ F : Fd, F = ⟨0, ba [], 2 + X.toNat + 2, 0⟩ := ⟨_, rfl⟩
    rw [← hF]
    have hFC : fdC F = #[.int .i64 0, .string (ba []), .int .i64 0, .int .i64 (2 + X + 2), .int .i64 0] := by
      rw [hF]
      have e : ((2 + X.toNat + 2 : Nat) : Int) = 2 + X + 2 := by omega
      simp only [fdC, e]
    have HFC := hide hFC
    clear hF hFC
    go_enter Tryz.func63, Tryz.ntmps63
    go_wp2_with (first | (with_reducible show wpList Tryz.prog _ _ (Oper.mk _ (Op.alloc 43) _ _ _ none :: _) _ _; refine wpList_alF rfl rfl ?_; intro wz rz bz sz) | (go_at_call 100; (with_reducible refine same_world (unhide HC0 _ ((unhide HV).later bz)) ?_)) | (with_reducible show wpList Tryz.prog _ _ (Oper.mk _ (Op.store 43 _ _) _ _ _ none :: _) _ _; refine wpList_stF rfl (.tmp 2) (.tmp 13) rfl w.heap.size F nil0 (by simp [Act.eval, Act.put]) (by simp [Act.eval, Act.put, unhide HFC, ba]) rz ?_; intro wy ry gy sy))
    exact fd_end rfl w.heap.size _ _ rfl rfl ry rfl (below_gb bz gy (Nat.le_refl _))

set_option maxHeartbeats 1000000 in
set_option maxRecDepth 20000 in
theorem oddRemark_any (s : ByteArray) (w : World) (hV : Vr w) (hs : s.size ≤ 2000000) : Calls Tryz.prog 22 #[.string s] w fun e w' => e = .returned (.agg (fdC (odF (bl s)))) ∧ Below w.heap.size w w' := by
  have HV := hide hV
  have c0 := fun wx => opensOdd_any s wx
  unfold odF
  cases hp : opO (bl s) with
  | false =>
    rw [hp] at c0
    have HC0 := hide c0
    clear c0 hp
    rw [if_neg (by simp)]
    go_enter Tryz.func22, Tryz.ntmps22
    go_wp2_with (first | (with_reducible show wpList Tryz.prog _ _ (Oper.mk _ (Op.alloc 43) _ _ _ none :: _) _ _; refine wpList_alF rfl rfl ?_; intro wz rz bz sz) | (go_at_call 62; (with_reducible refine same_world (unhide HC0 _) ?_)) | (with_reducible show wpList Tryz.prog _ _ (Oper.mk _ (Op.store 43 _ _) _ _ _ none :: _) _ _; refine wpList_stF rfl (.tmp 2) (.tmp 7) rfl w.heap.size nil0 nil0 (by simp [Act.eval, Act.put]) (by simp [Act.eval, Act.put, fdC, nil0, ba]) rz ?_; intro wy ry gy sy))
    exact fd_end rfl w.heap.size _ _ rfl rfl ry rfl (below_gb bz gy (Nat.le_refl _))
  | true =>
    have h2 : 2 ≤ s.size := by
      rw [← bl_len]
      unfold opO at hp
      simp only [Bool.or_eq_true] at hp
      rcases hp with hp | hp
      · have := pre_len hp; simp at this; omega
      · have := pre_len hp; simp at this; omega
    rw [hp] at c0
    have c1 := fun wx (h : Vr wx) => remark_any s wx h hs h2
    have hle := reF_le (bl s) (by rw [bl_len]; exact h2)
    rw [bl_len] at hle
    rw [if_pos rfl]
    generalize reF (bl s) = R at *
    have c2 := fun wx => itself_any 9 (s.extract 0 R.n) wx (by rw [sz_pre _ _ hle]; omega)
    rw [bl_pre] at c2
    obtain ⟨F, hF⟩ : ∃ F, F = its 9 ((bl s).take R.n) := ⟨_, rfl⟩
    rw [← hF] at c2 ⊢
    have HC0 := hide c0
    have HC1 := hide c1
    have HC2 := hide c2
    clear c0 c1 c2 hp hF
    obtain ⟨k, tx, n, E⟩ := R
    simp only at *
    by_cases hE : E = 0
    · subst hE
      rw [if_neg (by simp)]
      go_enter Tryz.func22, Tryz.ntmps22
      go_wp2_with (first | (with_reducible show wpList Tryz.prog _ _ (Oper.mk _ (Op.alloc 43) _ _ _ none :: _) _ _; refine wpList_alF rfl rfl ?_; intro wz fz qz tz; have ne := rz.lt; have rz := rz.later qz; have bz := bt bz qz) | (with_reducible show wpList Tryz.prog _ _ (Oper.mk _ (Op.alloc 43) _ _ _ none :: _) _ _; refine wpList_alF rfl rfl ?_; intro wz rz bz sz) | (go_at_call 62; (with_reducible refine same_world (unhide HC0 _) ?_)) | (go_at_call 63; (with_reducible refine (unhide HC1 _ ((unhide HV).later bz)).mono ?_); rintro e wz ⟨rfl, qz⟩; have rz := rz.later qz; have bz := bt bz qz) | (go_at_call 64; (with_reducible refine (unhide HC2 _).mono ?_); rintro e wz ⟨rfl, qz⟩; have rz := rz.later qz; have bz := bt bz qz) | (with_reducible show wpList Tryz.prog _ _ (Oper.mk _ (Op.store 43 _ _) _ _ _ none :: _) _ _; refine wpList_stF rfl (.tmp 3) (.tmp 9) rfl _ ⟨k, tx, n, 0⟩ nil0 (by simp [Act.eval, Act.put]) (by simp [Act.eval, Act.put, fdC]) fz ?_; intro wz fz gz tz; have rz := rz.gb gz (Nat.ne_of_lt ne); have bz := below_gb bz gz (Nat.le_of_lt ne); have k0 := fb_k fz; have k1 := fb_t fz; have k3 := fb_n fz; have k4 := fb_e fz) | (with_reducible show wpList Tryz.prog _ _ (Oper.mk _ (Op.store 43 _ _) _ _ _ none :: _) _ _; refine wpList_stF rfl (.tmp 2) (.tmp 18) rfl w.heap.size F nil0 (by simp [Act.eval, Act.put]) (by simp [Act.eval, Act.put, fdC, nil0, er]) rz ?_; intro wy ry gy sy))
      exact fd_end rfl w.heap.size _ _ rfl rfl ry rfl (below_gb bz gy (Nat.le_refl _))
    · rw [if_pos hE]
      have hE2 : (E != 0) = true := by simpa using hE
      go_enter Tryz.func22, Tryz.ntmps22
      go_wp2_with (first | (with_reducible show wpList Tryz.prog _ _ (Oper.mk _ (Op.alloc 43) _ _ _ none :: _) _ _; refine wpList_alF rfl rfl ?_; intro wz fz qz tz; have ne := rz.lt; have rz := rz.later qz; have bz := bt bz qz) | (with_reducible show wpList Tryz.prog _ _ (Oper.mk _ (Op.alloc 43) _ _ _ none :: _) _ _; refine wpList_alF rfl rfl ?_; intro wz rz bz sz) | (go_at_call 62; (with_reducible refine same_world (unhide HC0 _) ?_)) | (go_at_call 63; (with_reducible refine (unhide HC1 _ ((unhide HV).later bz)).mono ?_); rintro e wz ⟨rfl, qz⟩; have rz := rz.later qz; have bz := bt bz qz) | (with_reducible show wpList Tryz.prog _ _ (Oper.mk _ (Op.store 43 _ _) _ _ _ none :: _) _ _; refine wpList_stF rfl (.tmp 3) (.tmp 9) rfl _ ⟨k, tx, n, E⟩ nil0 (by simp [Act.eval, Act.put]) (by simp [Act.eval, Act.put, fdC]) fz ?_; intro wz fz gz tz; have rz := rz.gb gz (Nat.ne_of_lt ne); have bz := below_gb bz gz (Nat.le_of_lt ne); have k0 := fb_k fz; have k1 := fb_t fz; have k3 := fb_n fz; have k4 := fb_e fz) | (with_reducible show wpList Tryz.prog _ _ (Oper.mk _ (Op.load 43 _) _ _ _ none :: _) _ _; refine wpList_ldF rfl (.tmp 3) rfl _ ⟨k, tx, n, E⟩ (by simp [Act.eval, Act.put]) fz ?_) | (with_reducible show wpList Tryz.prog _ _ (Oper.mk _ (Op.store 43 _ _) _ _ _ none :: _) _ _; refine wpList_stF rfl (.tmp 2) (.tmp 13) rfl w.heap.size ⟨k, tx, n, E⟩ nil0 (by simp [Act.eval, Act.put]) (by simp [Act.eval, Act.put, fdC, nil0, er]) rz ?_; intro wy ry gy sy))
      exact fd_end rfl w.heap.size _ _ rfl rfl ry rfl (below_gb bz gy (Nat.le_refl _))

set_option maxHeartbeats 2000000 in
set_option maxRecDepth 20000 in
theorem blankOrRemark_any (s : ByteArray) (w : World) (hV : Vr w) (hs : s.size ≤ 2000000) (h1 : 1 ≤ s.size) : Calls Tryz.prog 20 #[.string s] w fun e w' => e = .returned (.agg (fdC (gaF (bl s)))) ∧ Below w.heap.size w w' := by
  have HV := hide hV
  have hz : 0 < s.size := h1
  have hg := bl_at s 0 hz
  obtain ⟨c, r, hl⟩ : ∃ c r, bl s = c :: r := by
    cases h : bl s with
    | nil => have := bl_len s; rw [h] at this; simp at this; omega
    | cons a r => exact ⟨a, r, rfl⟩
  have hh : (bl s).headD 0 = c := by rw [hl]; rfl
  rw [hl, List.getD_cons_zero] at hg
  have c0 := fun wx => isBlank_any (c.toNat : Int) wx
  have c1 := fun wx => opensLine_any s wx hs h1
  have c2 := fun wx => lineSize_any s wx hs
  have c3 := fun wx => hp_any s ⟨#[47, 42]⟩ wx
  rw [show bl ⟨#[47, 42]⟩ = [47, 42] from rfl] at c3
  have c4 := fun wx => opensOdd_any s wx
  have h2 : pre [47, 42] (bl s) = true → 2 ≤ s.size := fun h => by have := pre_len h; rw [bl_len] at this; simpa using this
  have c5 := fun hp wx (h : Vr wx) => remark_any s wx h hs (h2 hp)
  have b0 : (0 : Int) ≤ (c.toNat : Int) := by omega
  have b1 : ((c.toNat : Nat) : Int) < 256 := by have := c.toNat_lt; omega
  unfold gaF
  rw [hh]
  clear hh hl h2
  generalize isB (c.toNat : Int) = A at *
  generalize opL (bl s) = B at *
  generalize liZ (bl s) = Z at *
  generalize pre [47, 42] (bl s) = P at *
  generalize opO (bl s) = O at *
  generalize reF (bl s) = R at *
  have HC0 := hide c0
  have HC1 := hide c1
  have HC2 := hide c2
  have HC3 := hide c3
  have HC4 := hide c4
  clear c0 c1 c2 c3 c4
  cases A with
  | true =>
    rw [if_pos rfl]
    go_enter Tryz.func20, Tryz.ntmps20
    go_wp2_with (first | (with_reducible show wpList Tryz.prog _ _ (Oper.mk _ (Op.alloc 43) _ _ _ none :: _) _ _; refine wpList_alF rfl rfl ?_; intro wz rz bz sz) | (go_at_call 58; (with_reducible refine same_world (unhide HC0 _) ?_)) | (go_at_call 59; (with_reducible refine same_world (unhide HC1 _) ?_)) | (go_at_call 60; (with_reducible refine same_world (unhide HC2 _) ?_)) | (go_at_call 61; (with_reducible refine same_world (unhide HC3 _) ?_)) | (go_at_call 62; (with_reducible refine same_world (unhide HC4 _) ?_)) | (with_reducible show wpList Tryz.prog _ _ (Oper.mk _ (Op.store 43 _ _) _ _ _ none :: _) _ _; refine wpList_stF rfl (.tmp 2) (.tmp 7) rfl w.heap.size ⟨0, ba [], 1, 0⟩ nil0 (by simp [Act.eval, Act.put]) (by simp [Act.eval, Act.put, fdC, ba]) rz ?_; intro wy ry gy sy))
    exact fd_end rfl w.heap.size _ _ rfl rfl ry rfl (below_gb bz gy (Nat.le_refl _))
  | false =>
    rw [if_neg (by simp)]
    cases B with
    | true =>
      rw [if_pos rfl]
      go_enter Tryz.func20, Tryz.ntmps20
      go_wp2_with (first | (with_reducible show wpList Tryz.prog _ _ (Oper.mk _ (Op.alloc 43) _ _ _ none :: _) _ _; refine wpList_alF rfl rfl ?_; intro wz rz bz sz) | (go_at_call 58; (with_reducible refine same_world (unhide HC0 _) ?_)) | (go_at_call 59; (with_reducible refine same_world (unhide HC1 _) ?_)) | (go_at_call 60; (with_reducible refine same_world (unhide HC2 _) ?_)) | (go_at_call 61; (with_reducible refine same_world (unhide HC3 _) ?_)) | (go_at_call 62; (with_reducible refine same_world (unhide HC4 _) ?_)) | (with_reducible show wpList Tryz.prog _ _ (Oper.mk _ (Op.store 43 _ _) _ _ _ none :: _) _ _; refine wpList_stF rfl (.tmp 2) (.tmp 13) rfl w.heap.size ⟨0, ba [], Z, 0⟩ nil0 (by simp [Act.eval, Act.put]) (by simp [Act.eval, Act.put, fdC, ba]) rz ?_; intro wy ry gy sy))
      exact fd_end rfl w.heap.size _ _ rfl rfl ry rfl (below_gb bz gy (Nat.le_refl _))
    | false =>
      rw [if_neg (by simp)]
      cases P with
      | true =>
        have c5 := c5 rfl
        have HC5 := hide c5
        clear c5
        cases O with
        | true =>
          rw [if_neg (by simp)]
          go_enter Tryz.func20, Tryz.ntmps20
          go_wp2_with (first | (with_reducible show wpList Tryz.prog _ _ (Oper.mk _ (Op.alloc 43) _ _ _ none :: _) _ _; refine wpList_alF rfl rfl ?_; intro wz rz bz sz) | (go_at_call 58; (with_reducible refine same_world (unhide HC0 _) ?_)) | (go_at_call 59; (with_reducible refine same_world (unhide HC1 _) ?_)) | (go_at_call 60; (with_reducible refine same_world (unhide HC2 _) ?_)) | (go_at_call 61; (with_reducible refine same_world (unhide HC3 _) ?_)) | (go_at_call 62; (with_reducible refine same_world (unhide HC4 _) ?_)) | (with_reducible show wpList Tryz.prog _ _ (Oper.mk _ (Op.store 43 _ _) _ _ _ none :: _) _ _; refine wpList_stF rfl (.tmp 2) (.tmp 24) rfl w.heap.size nil0 nil0 (by simp [Act.eval, Act.put]) (by simp [Act.eval, Act.put, fdC, nil0, ba]) rz ?_; intro wy ry gy sy))
          exact fd_end rfl w.heap.size _ _ rfl rfl ry rfl (below_gb bz gy (Nat.le_refl _))
        | false =>
          rw [if_pos (by simp)]
          go_enter Tryz.func20, Tryz.ntmps20
          go_wp2_with (first | (with_reducible show wpList Tryz.prog _ _ (Oper.mk _ (Op.alloc 43) _ _ _ none :: _) _ _; refine wpList_alF rfl rfl ?_; intro wz rz bz sz) | (go_at_call 58; (with_reducible refine same_world (unhide HC0 _) ?_)) | (go_at_call 59; (with_reducible refine same_world (unhide HC1 _) ?_)) | (go_at_call 60; (with_reducible refine same_world (unhide HC2 _) ?_)) | (go_at_call 61; (with_reducible refine same_world (unhide HC3 _) ?_)) | (go_at_call 62; (with_reducible refine same_world (unhide HC4 _) ?_)) | (go_at_call 63; (with_reducible refine (unhide HC5 _ ((unhide HV).later bz)).mono ?_); rintro e wz ⟨rfl, qz⟩; have rz := rz.later qz; have bz := bt bz qz) | (with_reducible show wpList Tryz.prog _ _ (Oper.mk _ (Op.store 43 _ _) _ _ _ none :: _) _ _; refine wpList_stF rfl (.tmp 2) (.tmp 23) rfl w.heap.size R nil0 (by simp [Act.eval, Act.put]) (by simp [Act.eval, Act.put, fdC, nil0, er]) rz ?_; intro wy ry gy sy))
          exact fd_end rfl w.heap.size _ _ rfl rfl ry rfl (below_gb bz gy (Nat.le_refl _))
      | false =>
        rw [if_neg (by simp)]
        clear c5
        go_enter Tryz.func20, Tryz.ntmps20
        go_wp2_with (first | (with_reducible show wpList Tryz.prog _ _ (Oper.mk _ (Op.alloc 43) _ _ _ none :: _) _ _; refine wpList_alF rfl rfl ?_; intro wz rz bz sz) | (go_at_call 58; (with_reducible refine same_world (unhide HC0 _) ?_)) | (go_at_call 59; (with_reducible refine same_world (unhide HC1 _) ?_)) | (go_at_call 60; (with_reducible refine same_world (unhide HC2 _) ?_)) | (go_at_call 61; (with_reducible refine same_world (unhide HC3 _) ?_)) | (go_at_call 62; (with_reducible refine same_world (unhide HC4 _) ?_)) | (with_reducible show wpList Tryz.prog _ _ (Oper.mk _ (Op.store 43 _ _) _ _ _ none :: _) _ _; refine wpList_stF rfl (.tmp 2) (.tmp 24) rfl w.heap.size nil0 nil0 (by simp [Act.eval, Act.put]) (by simp [Act.eval, Act.put, fdC, nil0, ba]) rz ?_; intro wy ry gy sy))
        exact fd_end rfl w.heap.size _ _ rfl rfl ry rfl (below_gb bz gy (Nat.le_refl _))

end Go.Proofs.YtddfbaaghjcbnaaGreatDoor
