/-
  What package scan's functions on numbers return for any text. Conditions: the text is not greater than a program's memory; the library's variables read as they were laid.
-/
import Derived.Test.YtjbgkgkgpigikaaDoorScRow
namespace Go.Proofs.YtjbgkgkgpigikaaDoor
open Go.RowKit
set_option linter.unusedVariables false
set_option linter.unusedSimpArgs false

theorem u8_back (c : UInt8) : ((c.toNat : Int)).toNat.toUInt8 = c := by simp
theorem bl_at (s : ByteArray) (i : Nat) (h : i < s.size) : s[i]'h = (bl s).getD i 0 := by
  have h2 : i < (bl s).length := by rw [bl_len]; exact h
  rw [List.getD_eq_getElem?_getD, List.getElem?_eq_getElem h2, Option.getD_some]
  rfl
theorem ne_of_nil {s : ByteArray} (h : bl s = []) : s.toList.isEmpty = true := by rw [Lib.toList_data]; show List.isEmpty (bl s) = true; rw [h]; rfl
theorem ne_of_cons {s : ByteArray} {c : UInt8} {r : Bl} (h : bl s = c :: r) : s.toList.isEmpty = false := by rw [Lib.toList_data]; show List.isEmpty (bl s) = false; rw [h]; rfl

theorem hasOneOf_any (s o : ByteArray) (w : World) : Calls Tryd.prog 36 #[.string s, .string o] w fun e w' => e = .returned (.bool (has1 (bl s) (bl o))) ∧ w' = w := by
  cases hl : bl s with
  | nil =>
    have h0 := ne_of_nil hl
    clear hl
    go_enter Tryd.func36, Tryd.ntmps36
    go_wp2_with fail
    go_ret
    exact ⟨rfl, rfl⟩
  | cons c r =>
    have h0 := ne_of_cons hl
    have hz : 0 < s.size := by rw [← bl_len, hl]; simp
    have hc := Tryd.strings_IndexByte o (c.toNat : Int) w
    rw [u8_back] at hc
    have hg := bl_at s 0 hz
    rw [hl] at hg
    simp only [List.getD_cons_zero] at hg
    have he : has1 (c :: r) (bl o) = decide (0 ≤ Lib.indexByte o.data.toList c) := rfl
    rw [he]
    generalize Lib.indexByte o.data.toList c = X at *
    have HC := hide hc
    have b0 : (0 : Int) ≤ (c.toNat : Int) := by omega
    have b1 : ((c.toNat : Nat) : Int) < 256 := by have := c.toNat_lt; omega
    clear hc he hl
    go_enter Tryd.func36, Tryd.ntmps36
    go_wp2_with (go_at_call 41; refine same_world (unhide HC) ?_)
    go_ret
    exact ⟨rfl, rfl⟩

/-- strings.CutPrefix, in the words of ScPlain. -/
theorem cut_any (s p : ByteArray) (w : World) : Calls Tryd.prog 38 #[.string s, .string p] w fun e w' => e = .returned (.tuple #[.string (if pre (bl p) (bl s) then ba ((bl s).drop p.size) else s), .bool (pre (bl p) (bl s))]) ∧ w' = w := by
  have c := Tryd.strings_CutPrefix s p w
  have e1 : Lib.hasPrefix s.data.toList p.data.toList = pre (bl p) (bl s) := rfl
  have e2 : (⟨(Lib.trimPrefix s.data.toList p.data.toList).toArray⟩ : ByteArray) = if pre (bl p) (bl s) then ba ((bl s).drop p.size) else s := by
    unfold Lib.trimPrefix
    rw [e1]
    split
    · rw [Lib.size_eq p]; rfl
    · rfl
  rw [e1, e2] at c
  exact c

theorem isD_e : ∀ args w, (callFunc 34 args).run Tryd.prog w = .ok (.enter 34 args) w := enters_of Tryd.func34 (by kernel_rfl) rfl
theorem isH_e : ∀ args w, (callFunc 44 args).run Tryd.prog w = .ok (.enter 44 args) w := enters_of Tryd.func44 (by kernel_rfl) rfl
theorem isN_e : ∀ args w, (callFunc 33 args).run Tryd.prog w = .ok (.enter 33 args) w := enters_of Tryd.func33 (by kernel_rfl) rfl
theorem isS_e : ∀ args w, (callFunc 39 args).run Tryd.prog w = .ok (.enter 39 args) w := enters_of Tryd.func39 (by kernel_rfl) rfl
theorem aheadD (s : ByteArray) (w : World) (hV : Vr w) : Calls Tryd.prog 32 #[.string s, .func (.func 34) #[] #[]] w fun e w' => e = .returned (.int .i64 (ah isD (bl s))) ∧ Below w.heap.size w w' := ahead_any _ _ isD_e isDigit_any s w hV
theorem aheadH (s : ByteArray) (w : World) (hV : Vr w) : Calls Tryd.prog 32 #[.string s, .func (.func 44) #[] #[]] w fun e w' => e = .returned (.int .i64 (ah isH (bl s))) ∧ Below w.heap.size w w' := ahead_any _ _ isH_e isHexDigit_any s w hV
theorem aheadN (s : ByteArray) (w : World) (hV : Vr w) : Calls Tryd.prog 32 #[.string s, .func (.func 33) #[] #[]] w fun e w' => e = .returned (.int .i64 (ah isN (bl s))) ∧ Below w.heap.size w w' := ahead_any _ _ isN_e isOfName_any s w hV
theorem aheadS (s : ByteArray) (w : World) (hV : Vr w) : Calls Tryd.prog 32 #[.string s, .func (.func 39) #[] #[]] w fun e w' => e = .returned (.int .i64 (ah isS (bl s))) ∧ Below w.heap.size w w' := ahead_any _ _ isS_e isOfSystem_any s w hV

set_option maxHeartbeats 1000000 in
theorem hexSize_any (s : ByteArray) (w : World) (hV : Vr w) (hs : s.size ≤ 2000000) : Calls Tryd.prog 30 #[.string s] w fun e w' => e = .returned (.int .i64 (hexZ (bl s))) ∧ Below w.heap.size w w' := by
  have c0 := cut_any s ⟨#[48, 120]⟩ w
  rw [show bl ⟨#[48, 120]⟩ = [48, 120] from rfl, show (⟨#[48, 120]⟩ : ByteArray).size = 2 from rfl] at c0
  unfold hexZ
  cases hp : pre [48, 120] (bl s) with
  | false =>
    rw [hp] at c0
    have C0 := hide c0
    clear c0 hp
    go_enter Tryd.func30, Tryd.ntmps30
    go_wp2_with (go_at_call 38; refine same_world (unhide C0) ?_)
    go_ret
    exact ⟨rfl, Below.refl _ _⟩
  | true =>
    rw [hp] at c0
    have C0 := hide c0
    have c1 := aheadH (ba ((bl s).drop 2)) w hV
    rw [bl_ba] at c1
    have hle := ah_le isH ((bl s).drop 2)
    rw [List.length_drop, bl_len] at hle
    generalize ah isH ((bl s).drop 2) = Z at *
    have C1 := hide c1
    clear c0 c1 hp
    simp only [if_true]
    by_cases hZ : Z = 0
    · subst hZ
      go_enter Tryd.func30, Tryd.ntmps30
      go_wp2_with (first | (go_at_call 38; refine same_world (unhide C0) ?_) | (go_at_call 32; refine (unhide C1).mono ?_; rintro e w1 ⟨rfl, hb⟩))
      go_ret
      exact ⟨rfl, hb⟩
    · have hz : ((Z : Int) == 0) = false := by rw [beq_eq_false_iff_ne]; omega
      go_enter Tryd.func30, Tryd.ntmps30
      go_wp2_with (first | (go_at_call 38; refine same_world (unhide C0) ?_) | (go_at_call 32; refine (unhide C1).mono ?_; rintro e w1 ⟨rfl, hb⟩))
      go_ret
      exact ⟨by simp [hZ], hb⟩
end Go.Proofs.YtjbgkgkgpigikaaDoor
