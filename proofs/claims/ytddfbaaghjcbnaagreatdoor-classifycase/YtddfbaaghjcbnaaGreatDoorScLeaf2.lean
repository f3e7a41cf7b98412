/-
  What package scan's functions return for any text: the width of its first rune, how many bytes the runes have that belong, a text in small letters, whether it begins with one of some bytes, a word that says itself. Conditions: the text is not greater than a program's memory; the library's variables read as they were laid.
-/
import Derived.Test.YtddfbaaghjcbnaaGreatDoorScLeaf
namespace Go.Proofs.YtddfbaaghjcbnaaGreatDoor
open Go.RowKit
set_option linter.unusedVariables false
set_option linter.unusedSimpArgs false

/-- The library's variables that are read: MaxLen holds some number, the decoder's two tables what was laid. -/
structure Vr (w : World) : Prop where
  mx : ∃ m, w.cell? ⟨0, 0, none⟩ = some (.int .i64 m)
  tb : Lib.Utf8Tabs 1 2 w
theorem Vr.later {w w' : World} (h : Vr w) (hb : Below w.heap.size w w') : Vr w' := by
  obtain ⟨m, hm⟩ := h.mx
  exact ⟨⟨m, cell_later hb hm⟩, fun c hc => cell_later hb (h.tb.1 c hc), fun i hi => ⟨cell_later hb (h.tb.2 i hi).1, cell_later hb (h.tb.2 i hi).2⟩⟩

theorem dc_at (s : ByteArray) (pos : Nat) : Lib.decodeL ((bl s).drop pos) = Utf8.decode s pos := Lib.decodeL_drop s pos
theorem bl_cut (s : ByteArray) (a : Nat) : bl (s.extract a s.size) = (bl s).drop a := Lib.extract_to_end s a
theorem bl_sub (s : ByteArray) (a b : Nat) : bl (s.extract a b) = ((bl s).drop a).take (b - a) := Lib.extract_data s a b
theorem ext_ba (s : ByteArray) (a b : Nat) : s.extract a b = ba (((bl s).drop a).take (b - a)) := by rw [← bl_sub]; rfl

theorem width_any (s : ByteArray) (w : World) (hV : Vr w) (h : bl s ≠ []) : Calls Tryz.prog 105 #[.string s] w fun e w' => e = .returned (.int .i64 (Lib.decodeL (bl s)).2) ∧ Below w.heap.size w w' := by
  have c := Tryz.utf8_DecodeRuneInString s w hV.tb
  have e : Lib.decodeGo s = Lib.decodeL (bl s) := by
    have := dc_at s 0
    rw [List.drop_zero] at this
    rw [this]
    unfold Lib.decodeGo
    rw [if_neg]
    intro q
    exact h (List.eq_nil_of_length_eq_zero (by rw [bl_len]; exact q))
  rw [e] at c
  generalize Lib.decodeL (bl s) = D at *
  clear e hV
  go_enter Tryz.func105, Tryz.ntmps105
  go_wp2_with (go_at_call 120; refine c.mono ?_; rintro e w1 ⟨rfl, hb⟩)
  go_ret
  exact ⟨rfl, hb⟩

theorem ah_more (s : ByteArray) (pos n : Nat) (p : Int → Bool) (hp : pos < s.size) (h : hd p ((bl s).drop pos) = n) (hn : n ≠ 0) : n + ah p ((bl s).drop (pos + n)) = ah p ((bl s).drop pos) := by
  rw [ah_step p ((bl s).drop pos) (by rw [h]; exact hn), h, List.drop_drop]
theorem hd_at (s : ByteArray) (pos : Nat) (p : Int → Bool) (hp : pos < s.size) : hd p ((bl s).drop pos) = if p (Utf8.decode s pos).1 = true ∧ ¬ ((Utf8.decode s pos).1 = 65533 ∧ (Utf8.decode s pos).2 = 1) then (Utf8.decode s pos).2 else 0 := by
  unfold hd
  rw [if_neg (by intro h; have := congrArg List.length h; rw [List.length_drop, bl_len] at this; simp at this; omega), dc_at]

set_option maxHeartbeats 1000000 in
theorem ahead_any (F : Nat) (p : Int → Bool) (hE : ∀ args w, (callFunc F args).run Tryz.prog w = .ok (.enter F args) w) (hF : ∀ (r : Int) (w : World), Calls Tryz.prog F #[.int .i32 r] w fun e w' => e = .returned (.bool (p r)) ∧ w' = w) (s : ByteArray) (w : World) (hV : Vr w) :
    Calls Tryz.prog 67 #[.string s, .func (.func F) #[] #[]] w fun e w' => e = .returned (.int .i64 (ah p (bl s))) ∧ Below w.heap.size w w' := by
  have HF := hide hF
  have HV := hide hV
  clear hF hV
  have hz := bl_len s
  go_enter Tryz.func67, Tryz.ntmps67
  go_wp2_with fail
  go_loopw [] (fun wr => ∃ pos : Nat, wr.heap[w.heap.size]? = some (.stringIter s pos) ∧ Below w.heap.size w wr ∧ pos + ah p ((bl s).drop pos) = ah p (bl s) ∧ pos ≤ s.size) (fun wr => s.size - wr.iterPos w.heap.size)
  case atStart =>
    refine ⟨0, World.iter_heap w s 0, (Below.refl _ w).alloc (Nat.le_refl _) _, by simp, Nat.zero_le _⟩
  case round =>
    obtain ⟨pos, hit, hbw, hah, hps⟩ := hrel
    have hsz : w.heap.size < wr.heap.size := (Array.getElem?_eq_some_iff.1 hit).1
    have HA := hide hah
    clear hah
    by_cases hp : pos < s.size
    · have hnx : ∀ ty, (Instr.next (.pointer (some ⟨w.heap.size, 0, none⟩)) true ty).run Tryz.prog wr = _ := fun ty => Lib.run_next_any_at wr w.heap.size s pos ty hit hp
      have hd1 := decode_le s pos
      have HD := hide (hd_at s pos p hp)
      have hit2 := Lib.iterAt_heap wr w.heap.size s pos (pos + (Utf8.decode s pos).2) hit
      have hbw2 := Lib.below_iterAt hbw (k := w.heap.size) (Nat.le_refl _) s (pos + (Utf8.decode s pos).2)
      have hwd : 1 ≤ (Utf8.decode s pos).2 := by rw [← dc_at]; exact Lib.decodeL_width _
      have hwl : (Utf8.decode s pos).2 ≤ s.size - pos := by
        rw [← dc_at]
        have := Lib.decodeL_le ((bl s).drop pos) (by intro h; have := congrArg List.length h; rw [List.length_drop] at this; simp at this; omega)
        rw [List.length_drop, bl_len] at this
        exact this
      have cW := hide (width_any (s.extract pos s.size) (wr.iterAt w.heap.size s (pos + (Utf8.decode s pos).2)) ((unhide HV).later hbw2) (by rw [bl_cut]; intro h; have := congrArg List.length h; rw [List.length_drop] at this; simp at this; omega))
      rw [bl_cut, dc_at] at cW
      have HM := hide (fun n => ah_more s pos n p hp)
      generalize Utf8.decode s pos = D at *
      obtain ⟨r, n⟩ := D
      simp only at *
      have c0 := hide (unhide HF r (wr.iterAt w.heap.size s (pos + n)))
      obtain ⟨B, hB⟩ : ∃ B, B = p r := ⟨_, rfl⟩
      rw [← hB] at c0
      have HB := hide hB
      clear hB
      have hsz2 : w.heap.size < (wr.iterAt w.heap.size s (pos + n)).heap.size := by rw [Lib.iterAt_size]; exact hsz
      obtain ⟨wi, hwi⟩ : ∃ wi, wi = wr.iterAt w.heap.size s (pos + n) := ⟨_, rfl⟩
      rw [← hwi] at hnx hit2 hbw2 cW c0 hsz2
      clear hwi
      have RET : hd p ((bl s).drop pos) = 0 → (pos : Int) = ((ah p (bl s) : Nat) : Int) := fun h0 => by
        have := unhide HA
        rw [ah_stop p _ h0] at this
        omega
      have RET := hide RET
      have GO : B = true → ¬ (r = 65533 ∧ n = 1) → pos + n + ah p ((bl s).drop (pos + n)) = ah p (bl s) := fun h1 h2 => by
        have := unhide HM n (by rw [unhide HD, if_pos ⟨by rw [← unhide HB]; exact h1, h2⟩]) (by omega)
        have h3 := unhide HA
        omega
      have GO := hide GO
      cases B with
      | false =>
        have h0 := hide (unhide RET (by rw [unhide HD, if_neg (by rw [← unhide HB]; simp)]))
        clear RET GO HA HD HM
        go_wp2_with (first | (go_at_fn F; refine same_world (unhide c0) ?_) | (go_at_call 105; refine (unhide cW).mono ?_; rintro e w1 ⟨rfl, hb1⟩))
        go_ret
        exact ⟨congrArg (fun z => Ending.returned (.int .i64 z)) (unhide h0), hbw2⟩
      | true =>
        by_cases hr : r = 65533
        · subst hr
          by_cases hn : n = 1
          · have h0 := hide (unhide RET (by rw [unhide HD, if_neg (by simp [hn])]))
            have hn1 : ((n : Int) == 1) = true := by simp [hn]
            clear RET GO HA HD HM
            go_wp2_with (first | (go_at_fn F; refine same_world (unhide c0) ?_) | (go_at_call 105; refine (unhide cW).mono ?_; rintro e w1 ⟨rfl, hb1⟩))
            go_ret
            exact ⟨congrArg (fun z => Ending.returned (.int .i64 z)) (unhide h0), hbw2.trans (hb1.mono (by omega))⟩
          · have hn1 : ((n : Int) == 1) = false := by rw [beq_eq_false_iff_ne]; omega
            have h0 := hide (unhide GO rfl (by omega))
            clear RET GO HA HD HM
            go_wp2_with (first | (go_at_fn F; refine same_world (unhide c0) ?_) | (go_at_call 105; refine (unhide cW).mono ?_; rintro e w1 ⟨rfl, hb1⟩))
            go_roundw
            case rel => exact ⟨pos + n, by rw [hb1.block _ hsz2]; exact hit2, hbw2.trans (hb1.mono (by omega)), unhide h0, by omega⟩
            case measure =>
              simp only [World.iterPos]
              rw [hb1.block _ hsz2, hit2, hit]
              simp only
              omega
        · have hr1 : ((r : Int) == 65533) = false := by rw [beq_eq_false_iff_ne]; omega
          have h0 := hide (unhide GO rfl (by omega))
          clear RET GO HA HD HM
          go_wp2_with (first | (go_at_fn F; refine same_world (unhide c0) ?_) | (go_at_call 105; refine (unhide cW).mono ?_; rintro e w1 ⟨rfl, hb1⟩))
          go_roundw
          case rel => exact ⟨pos + n, hit2, hbw2, unhide h0, by omega⟩
          case measure =>
            simp only [World.iterPos]
            rw [hit2, hit]
            simp only
            omega
    · have hnx : ∀ ty, (Instr.next (.pointer (some ⟨w.heap.size, 0, none⟩)) true ty).run Tryz.prog wr = _ := fun ty => Lib.run_next_end_at wr w.heap.size s pos ty hit hp
      go_wp2_with fail
      go_ret
      have : pos = s.size := by omega
      subst this
      refine ⟨?_, hbw⟩
      have := unhide HA
      rw [List.drop_of_length_le (by rw [bl_len]; exact Nat.le_refl _)] at this
      rw [← this]
      rfl
end Go.Proofs.YtddfbaaghjcbnaaGreatDoor
