/-
  ClassifyAnew of layer 20, for the walk: it returns true for any text. Conditions: the text fits in memory; the library's variables read as they were laid.
-/
import Derived.Test.YtaboepnginbjfaaGreatDoorMAw
import Derived.Test.YtaboepnginbjfaaGreatDoorKlIs
namespace Go.Proofs.YtaboepnginbjfaaGreatDoor
open Go.RowKit
set_option linter.unusedVariables false
set_option linter.unusedSimpArgs false

/-- Is, at one class that is written out. -/
theorem is_one (TX : ByteArray) (k : Int) (nm va : ByteArray) (w : World) (hV : Vr w) (h : ofF (bl TX) = ([⟨k, nm, va⟩], ok0)) :
    Calls Tryz.prog 8 #[.string TX, .slice (some ⟨w.heap.size, 0, none⟩) 1 1] (w.alloc (.cells #[.int .i64 k, .string nm, .string va] 32)) (OutB w true) :=
  is_lit TX [⟨k, nm, va⟩] _ rfl (by simp) _ w true hV rfl (decide_eq_true h)
theorem anF_no {k : Int} {nm va : ByteArray} (h5 : k ≠ 5) (h6 : k ≠ 6) : anF ⟨k, nm, va⟩ = (⟨#[]⟩, false) := by
  unfold anF
  rw [if_neg (fun q => h5 q.1), if_neg h5, if_neg h6]
theorem anF_yes {k : Int} {nm va : ByteArray} (h : k = 5 ∨ k = 6) : (anF ⟨k, nm, va⟩).2 = true := by
  unfold anF
  split
  · rfl
  · split
    · rfl
    · rcases h with h | h
      · rename_i h5; exact absurd h h5
      · rw [if_pos h]

set_option maxHeartbeats 8000000 in
set_option maxRecDepth 20000 in
theorem lawKlAnew (s : ByteArray) (w : World) (hV : Vr w) (hss : s.size ≤ 9223372036854775807) :
    Calls Tryz.prog 3 #[.string s] w (OutB w true) := by
  have HV := hide hV
  have L7 := hide (lives_any w hV)
  clear hV
  by_cases hbig : 2000 < s.size
  · have hb : (2000 : Int) < (s.size : Int) := by omega
    clear hbig
    go_enter Tryz.func3, Tryz.ntmps3
    go_wp2_with (go_at_call 4; refine (unhide L7).mono ?_; rintro e w1 ⟨rfl, b1⟩)
    go_ret
    exact ⟨rfl, b1⟩
  have hb : ¬ (2000 : Int) < (s.size : Int) := by omega
  have HC := hide (fun wx (h : Vr wx) => of_any s wx h)
  have HG := hide (ofF_good (s := bl s) (by rw [bl_len]; omega))
  obtain ⟨⟨L, f⟩, hF⟩ : ∃ F, F = ofF (bl s) := ⟨_, rfl⟩
  rw [← hF] at HC HG
  clear hF hbig
  go_enter Tryz.func3, Tryz.ntmps3
  go_wp2_with (first | (go_at_call 4; refine (unhide L7).mono ?_; rintro e w1 ⟨rfl, b1⟩) | (go_at_call 5; (with_reducible refine (unhide HC w1 ((unhide HV).later b1)).mono ?_); rintro e w2 ⟨ao, n, c, rfl, m2, q2⟩; have b2 := belT b1 q2) | (with_reducible show wpList Tryz.prog _ _ (Oper.mk _ (Op.alloc 26) _ _ _ none :: _) _ _; refine wpList_alT rfl rfl ?_; intro w3 f3 q3 t3; clear t3; have m3 := m2.later q3; have b3 := belT b2 q3) | (with_reducible show wpList Tryz.prog _ _ (Oper.mk _ (Op.store 26 _ _) _ _ _ none :: _) _ _; refine wpList_stT rfl (.tmp 4) _ rfl w2.heap.size f ⟨0, 0⟩ (by simp [Act.eval, Act.put]) (by simp [Act.eval, Act.put]) f3 ?_; intro w4 f4 g4 t4; clear t4; have m4 := m3.keep (fun k hk => g4.block k (m3.ob hk).2 (Nat.ne_of_lt (m2.ob hk).2)); have b4 := belowG b3 g4 b2.size b3.size))
  have M4 := hide m4
  have hln := hide m4.len
  have hle := m4.ss.le
  have hmx := m4.ss.max
  clear m2 m3 m4 f3 f4 g4 q2 q3 b1 b2 b3
  go_loopw [5] (fun iv wr => ∃ (j : Nat), j ≤ n ∧ iv = .int .i64 (j : Int) ∧ Below w4.heap.size w4 wr) (fun iv _ => n - (intOf iv).toNat)
  case atStart => exact ⟨0, Nat.zero_le _, rfl, Below.refl _ _⟩
  case round =>
    obtain ⟨j, hj, rfl, hbj⟩ := hrel
    by_cases hlt : j < n
    · have hlt2 : ((j : Nat) : Int) < (n : Int) := by omega
      obtain ⟨x, hx⟩ : ∃ p, L[j]? = some p := ⟨_, List.getElem?_eq_getElem (by rw [unhide hln]; exact hlt)⟩
      obtain ⟨b5, o5, i5, a5⟩ := ((unhide M4).ss.later hbj).idx hx (j : Int) rfl
      have hg := unhide HG x (List.mem_of_getElem? hx)
      have CA := hide (fun wx (h : Vr wx) => anew_any x wx h hg.nm hg.va)
      have hbk := fun h => anew_back x hg h
      obtain ⟨k, nm, va⟩ := x
      have HA := hide a5
      have r0 := atkc_0 a5
      have r1 := atkc_1 a5
      have r2 := atkc_2 a5
      simp only at r0 r1 r2 hbk
      unfold clC at CA
      simp only at CA
      clear a5 hx hg
      by_cases h56 : k = 5 ∨ k = 6
      · have hb2 := hbk h56
        have hy := anF_yes (nm := nm) (va := va) h56
        rw [hy] at CA
        obtain ⟨TX, hTX⟩ : ∃ T, T = (anF ⟨k, nm, va⟩).1 := ⟨_, rfl⟩
        rw [← hTX] at CA hb2
        have CI := hide (fun wx (h : Vr wx) => is_one TX k nm va wx h hb2)
        clear hbk hb2 hy hTX
        by_cases h5 : k = 5
        · subst h5
          clear h56
          go_wp2_with (first | (go_at_call 6; (with_reducible refine (unhide CA wr ((unhide HV).later (belT b4 hbj))).mono ?_); rintro e w6 ⟨rfl, q6⟩; have s0 := atkc_0 ((unhide HA).later q6); have s1 := atkc_1 ((unhide HA).later q6); have s2 := atkc_2 ((unhide HA).later q6); simp only at s0 s1 s2) | (go_at_call 7; (with_reducible refine (pins_5 w6).mono ?_); rintro e w7 ⟨rfl, q7⟩; have q67 := belT q6 q7; have t0 := atkc_0 ((unhide HA).later q67); have t1 := atkc_1 ((unhide HA).later q67); have t2 := atkc_2 ((unhide HA).later q67); simp only at t0 t1 t2) | (go_at_call 8; (with_reducible refine (unhide CI w7 ((unhide HV).later (belT b4 (belT hbj q67)))).mono ?_); rintro e w8 ⟨rfl, q8⟩; have q678 := belT q67 q8))
          go_roundw
          case rel => exact ⟨j + 1, by omega, by go_num, belT hbj q678⟩
          case measure => simp [intOf]; omega
        · obtain rfl : k = 6 := by omega
          have e5 : ((6 : Int) == 5) = false := by decide
          clear h56 h5
          go_wp2_with (first | (go_at_call 6; (with_reducible refine (unhide CA wr ((unhide HV).later (belT b4 hbj))).mono ?_); rintro e w6 ⟨rfl, q6⟩; have s0 := atkc_0 ((unhide HA).later q6); have s1 := atkc_1 ((unhide HA).later q6); have s2 := atkc_2 ((unhide HA).later q6); simp only at s0 s1 s2) | (go_at_call 7; (with_reducible refine (pins_6 w6).mono ?_); rintro e w7 ⟨rfl, q7⟩; have q67 := belT q6 q7; have t0 := atkc_0 ((unhide HA).later q67); have t1 := atkc_1 ((unhide HA).later q67); have t2 := atkc_2 ((unhide HA).later q67); simp only at t0 t1 t2) | (go_at_call 8; (with_reducible refine (unhide CI w7 ((unhide HV).later (belT b4 (belT hbj q67)))).mono ?_); rintro e w8 ⟨rfl, q8⟩; have q678 := belT q67 q8))
          go_roundw
          case rel => exact ⟨j + 1, by omega, by go_num, belT hbj q678⟩
          case measure => simp [intOf]; omega
      · have h5 : k ≠ 5 := fun e => h56 (.inl e)
        have h6 : k ≠ 6 := fun e => h56 (.inr e)
        have e5 : (k == 5) = false := by simpa using h5
        have e6 : (k == 6) = false := by simpa using h6
        rw [anF_no h5 h6] at CA
        have z0 : ((⟨#[]⟩ : ByteArray).toList == []) = true := by decide +kernel
        have z1 : (⟨#[]⟩ : ByteArray).toList = [] := by decide +kernel
        clear hbk h56 h5 h6
        go_wp2_with (go_at_call 6; (with_reducible refine (unhide CA wr ((unhide HV).later (belT b4 hbj))).mono ?_); rintro e w6 ⟨rfl, q6⟩; have s0 := atkc_0 ((unhide HA).later q6); have s1 := atkc_1 ((unhide HA).later q6); have s2 := atkc_2 ((unhide HA).later q6); simp only at s0 s1 s2)
        go_roundw
        case rel => exact ⟨j + 1, by omega, by go_num, belT hbj q6⟩
        case measure => simp [intOf]; omega
    · have hjn : j = n := by omega
      subst hjn
      go_wp2_with fail
      go_ret
      exact ⟨rfl, belT b4 hbj⟩

end Go.Proofs.YtaboepnginbjfaaGreatDoor
