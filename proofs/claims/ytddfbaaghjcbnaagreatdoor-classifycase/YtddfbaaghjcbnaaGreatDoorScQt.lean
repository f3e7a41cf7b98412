/-
  What between and Quote of package scan return for any text. Conditions: at most 2,000,000 bytes; the library's variables read as they were laid.
-/
import Derived.Test.YtddfbaaghjcbnaaGreatDoorScRow
namespace Go.Proofs.YtddfbaaghjcbnaaGreatDoor
open Go.RowKit
set_option linter.unusedVariables false
set_option linter.unusedSimpArgs false

/-- Bytes, one of them twice wherever it stands. -/
def dbl (c : UInt8) (l : Bl) : Bl := l.flatMap fun x => if x = c then [c, c] else [x]
theorem dbl_nil (c : UInt8) : dbl c [] = [] := rfl
theorem dbl_cons (c x : UInt8) (l : Bl) : dbl c (x :: l) = (if x = c then [c, c] else [x]) ++ dbl c l := rfl
theorem dbl_len (c : UInt8) : ∀ l : Bl, (dbl c l).length ≤ 2 * l.length
  | [] => by simp [dbl_nil]
  | x :: l => by
    have := dbl_len c l
    rw [dbl_cons, List.length_append]
    split <;> simp <;> omega
theorem index_hit1 (c : UInt8) (l : Bl) : Lib.index (c :: l) [c] = 0 := by simp [Lib.index]
theorem index_miss1 (b c : UInt8) (l : Bl) (h : b ≠ c) : Lib.index (b :: l) [c] = if Lib.index l [c] == -1 then -1 else Lib.index l [c] + 1 := by
  have : ([c].isPrefixOf (b :: l)) = false := by simp [List.isPrefixOf]; exact fun e => absurd e.symm h
  simp only [Lib.index, this]
  simp
theorem rep_shift (c : UInt8) (new : Bl) (b : UInt8) (l : Bl) (h : b ≠ c) (k : Nat) : Lib.replaceK [c] new k (b :: l) = b :: Lib.replaceK [c] new k l := by
  cases k with
  | zero => rfl
  | succ k =>
    simp only [Lib.replaceK, index_miss1 b c l h]
    by_cases hm : Lib.index l [c] = -1
    · simp [hm]
    · have hge := Lib.index_ge l [c]
      have e1 : (Lib.index l [c] == -1) = false := by simpa using hm
      have e2 : (Lib.index l [c] + 1 == -1) = false := by rw [beq_eq_false_iff_ne]; omega
      have e3 : (Lib.index l [c] + 1).toNat = (Lib.index l [c]).toNat + 1 := by omega
      simp only [e1, e2, Bool.false_eq_true, if_false, e3]
      simp [Nat.add_right_comm]
theorem cf_shift (c b : UInt8) (l : Bl) (h : b ≠ c) (fuel : Nat) : Lib.countFrom [c] fuel (b :: l) = Lib.countFrom [c] fuel l := by
  cases fuel with
  | zero => rfl
  | succ k =>
    simp only [Lib.countFrom, index_miss1 b c l h]
    by_cases hm : Lib.index l [c] = -1
    · simp [hm]
    · have hge := Lib.index_ge l [c]
      have e1 : (Lib.index l [c] == -1) = false := by simpa using hm
      have e2 : (Lib.index l [c] + 1 == -1) = false := by rw [beq_eq_false_iff_ne]; omega
      have e3 : (Lib.index l [c] + 1).toNat = (Lib.index l [c]).toNat + 1 := by omega
      simp only [e1, e2, Bool.false_eq_true, if_false, e3]
      simp [Nat.add_right_comm]
theorem cf_count (c : UInt8) : ∀ (l : Bl) (fuel : Nat), l.length < fuel → Lib.countFrom [c] fuel l = l.count c
  | [], fuel, h => by
    cases fuel with
    | zero => omega
    | succ k => simp [Lib.countFrom, Lib.index]
  | b :: l, fuel, h => by
    by_cases hb : b = c
    · subst hb
      cases fuel with
      | zero => omega
      | succ k =>
        simp only [Lib.countFrom, index_hit1]
        have := cf_count b l k (by simpa using h)
        simp [this]
        omega
    · rw [cf_shift c b l hb, cf_count c l fuel (by simp at h; omega)]
      simp [List.count_cons, hb]
theorem rep_dbl (c : UInt8) : ∀ l : Bl, Lib.replaceK [c] [c, c] (l.count c) l = dbl c l
  | [] => rfl
  | b :: l => by
    rw [dbl_cons]
    by_cases hb : b = c
    · subst hb
      have := Lib.replaceK_hit [b] [b, b] (l.count b) (b :: l) 0 (index_hit1 b l)
      rw [show (b :: l).count b = l.count b + 1 by simp, this]
      simp [rep_dbl b l]
    · rw [show (b :: l).count c = l.count c by simp [List.count_cons, hb], rep_shift c _ b l hb, rep_dbl c l, if_neg hb]
      rfl
theorem repAll_dbl (c : UInt8) (l : Bl) : Lib.replaceAll l [c] [c, c] = dbl c l := by
  unfold Lib.replaceAll Lib.replace Lib.replaceNum
  have e : ([c] == [c, c]) = false := by simp
  rw [e, if_neg (by simp), if_pos (.inl (by decide))]
  have : Lib.count l [c] = l.count c := cf_count c l _ (Nat.lt_succ_self _)
  rw [this, rep_dbl]
theorem rep_any (c : UInt8) (s Q QQ : ByteArray) (w : World) (hV : Vr w) (hs : s.size ≤ 10000000) (hQ : bl Q = [c]) (hQQ : bl QQ = [c, c]) : Calls Tryz.prog 97 #[.string s, .string Q, .string QQ] w fun e w' => e = .returned (.string (ba (dbl c (bl s)))) ∧ Below w.heap.size w w' := by
  obtain ⟨m, hm⟩ := hV.mx
  have h1 : Q.size = 1 := by rw [← bl_len, hQ]; rfl
  have h2 : QQ.size = 2 := by rw [← bl_len, hQQ]; rfl
  have hc := Lib.countB_mul_le Q (by omega) s.size s (Nat.le_refl _)
  rw [h1, Nat.mul_one] at hc
  have := Tryz.strings_ReplaceAll s Q QQ m w (by omega) hm (by omega) (by rw [h2]; omega)
  rw [show Q.data.toList = [c] from hQ, show QQ.data.toList = [c, c] from hQQ, repAll_dbl] at this
  exact this
/-- Bytes between two quotes, those in them twice. -/
def btw (c : UInt8) (l : Bl) : Bl := c :: (dbl c l ++ [c])
def qto (l : Bl) : Bl := btw 39 (dbl 92 l)
theorem bl_app (a b : ByteArray) : bl (a ++ b) = bl a ++ bl b := by
  show (a ++ b).data.toList = _
  rw [ByteArray.data_append]
  simp [bl]
theorem btw_eq (c : UInt8) (Q X : ByteArray) (hQ : bl Q = [c]) (l : Bl) (hX : bl X = dbl c l) : Q ++ X ++ Q = ba (btw c l) := by
  have : bl (Q ++ X ++ Q) = btw c l := by rw [bl_app, bl_app, hQ, hX]; rfl
  rw [← this, ba_bl]

set_option maxHeartbeats 1000000 in
set_option maxRecDepth 20000 in
theorem between_any (c : UInt8) (Q s : ByteArray) (w : World) (hV : Vr w) (hs : s.size ≤ 10000000) (hQ : bl Q = [c]) : Calls Tryz.prog 56 #[.string Q, .string s] w fun e w' => e = .returned (.string (ba (btw c (bl s)))) ∧ Below w.heap.size w w' := by
  have c0 := hide (rep_any c s Q (Q ++ Q) w hV hs hQ (by rw [bl_app, hQ]; rfl))
  have hE := hide (btw_eq c Q (ba (dbl c (bl s))) hQ (bl s) rfl)
  have hq1 : Q.size ≤ 1 := by rw [← bl_len, hQ]; simp
  have hx1 : (ba (dbl c (bl s))).size ≤ 20000000 := by have := dbl_len c (bl s); rw [bl_len] at this; rw [ba_size]; omega
  generalize ba (dbl c (bl s)) = X at *
  generalize ba (btw c (bl s)) = Y at *
  clear hQ
  have g1 : ¬ 9223372036854775807 < Q.size + Q.size := by omega
  have g2 : ¬ 9223372036854775807 < Q.size + X.size := by omega
  have g3 : ¬ 9223372036854775807 < Q.size + X.size + Q.size := by omega
  have g4 : ¬ 9223372036854775807 < (Q ++ X).size + Q.size := by rw [ByteArray.size_append]; omega
  go_enter Tryz.func56, Tryz.ntmps56
  go_wp2_with (go_at_call 97; refine (unhide c0).mono ?_; rintro e w1 ⟨rfl, b1⟩)
  go_ret
  exact ⟨by rw [← unhide hE]; rfl, b1⟩
theorem quote_any (s : ByteArray) (w : World) (hV : Vr w) (hs : s.size ≤ 2000000) : Calls Tryz.prog 57 #[.string s] w fun e w' => e = .returned (.string (ba (qto (bl s)))) ∧ Below w.heap.size w w' := by
  have HV := hide hV
  have c0 := hide (rep_any 92 s ⟨#[92]⟩ ⟨#[92, 92]⟩ w hV (by omega) rfl rfl)
  have hl := dbl_len 92 (bl s)
  rw [bl_len] at hl
  have c1 := hide (fun wx (h : Vr wx) => between_any 39 ⟨#[39]⟩ (ba (dbl 92 (bl s))) wx h (by rw [ba_size]; omega) rfl)
  rw [bl_ba] at c1
  change Hid (∀ wx, Vr wx → Calls Tryz.prog 56 #[.string ⟨#[39]⟩, .string (ba (dbl 92 (bl s)))] wx fun e w' => e = .returned (.string (ba (qto (bl s)))) ∧ Below wx.heap.size wx w') at c1
  generalize ba (dbl 92 (bl s)) = X at *
  generalize ba (qto (bl s)) = Y at *
  go_enter Tryz.func57, Tryz.ntmps57
  go_wp2_with (first | (go_at_call 97; (with_reducible refine (unhide c0).mono ?_); rintro e w1 ⟨rfl, b1⟩) | (go_at_call 56; (with_reducible refine (unhide c1 w1 ((unhide HV).later b1)).mono ?_); rintro e w2 ⟨rfl, b2⟩; have b3 := bt b1 b2))
  go_ret
  exact ⟨rfl, b3⟩

end Go.Proofs.YtddfbaaghjcbnaaGreatDoor
