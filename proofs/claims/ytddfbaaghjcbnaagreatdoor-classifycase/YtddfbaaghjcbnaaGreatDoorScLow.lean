/-
  What lower of package scan returns for any text: its bytes, A to Z as a to z. Conditions: the text is not greater than a program's memory.
-/
import Derived.Test.YtddfbaaghjcbnaaGreatDoorScLeaf2
import Derived.Test.YtddfbaaghjcbnaaGreatDoorSameB
namespace Go.Proofs.YtddfbaaghjcbnaaGreatDoor
open Go.RowKit
set_option linter.unusedVariables false
set_option linter.unusedSimpArgs false

theorem run_idxOwn1 (g n c : Nat) {i : Nat} (hi : i < n) (I : Int) (hI : I = i) (wx : World) : (Instr.indexAt 32 (.slice (some ⟨g, 0, none⟩) n c) (.int .i64 I)).run Tryz.prog wx = .ok (.pointer (some ⟨g, i, none⟩)) wx := by
  subst hI
  rw [run_indexAt_slice wx 32 _ n c .i64 (i : Int) Tryz.elemBytes]
  simp [Tryz.sizeByte, hi, Addr.add_lit, Result.andThen]
theorem nums_bl (s : ByteArray) : nums s = (bl s).map fun b => (b.toNat : Int) := rfl
theorem low_str (s : ByteArray) : strOfNums ((nums s).map lwI) = ba (low (bl s)) := by
  apply ByteArray.ext
  apply Array.ext'
  rw [strOfNums_data, nums_bl, List.map_map, List.map_map]
  show _ = low (bl s)
  unfold low
  apply List.map_congr_left
  intro a _
  rfl
def lwAt (s : ByteArray) (t : Nat) : Int := (((bl s).getD t 0).toNat : Int)
theorem lwAt_b (s : ByteArray) (t : Nat) : 0 ≤ lwAt s t ∧ lwAt s t ≤ 255 := by
  unfold lwAt
  have := ((bl s).getD t 0).toNat_lt
  omega
theorem lwI_b {x : Int} (h : 0 ≤ x ∧ x ≤ 255) : 0 ≤ lwI x ∧ lwI x ≤ 255 := by
  unfold lwI
  split <;> omega
def Lws (s : ByteArray) (g j : Nat) (w : World) : Prop := ∀ t, t < s.size → w.cell? ⟨g, t, none⟩ = some (.int .u8 (if t < j then lwI (lwAt s t) else lwAt s t)) ∧ w.frozen? ⟨g, t, none⟩ = false
theorem Lws.stored {s : ByteArray} {g j : Nat} {w : World} (h : Lws s g j w) (hj : j < s.size) (v : Int) (hv : v = lwI (lwAt s j)) : Lws s g (j + 1) (w.setCell ⟨g, j, none⟩ (.int .u8 v)) := by
  intro t ht
  refine ⟨?_, by rw [World.frozen?_setCell]; exact (h t ht).2⟩
  by_cases e : t = j
  · subst e
    rw [World.cell?_setCell_same _ _ _ (h t ht).1, if_pos (by omega), hv]
  · rw [World.cell?_setCell_other _ _ _ _ (by simp <;> omega), (h t ht).1]
    congr 2
    by_cases q : t < j
    · rw [if_pos q, if_pos (by omega)]
    · rw [if_neg q, if_neg (by omega)]
theorem Lws.kept {s : ByteArray} {g j : Nat} {w : World} (h : Lws s g j w) (hv : lwI (lwAt s j) = lwAt s j) : Lws s g (j + 1) w := by
  intro t ht
  refine ⟨?_, (h t ht).2⟩
  rw [(h t ht).1]
  congr 2
  by_cases e : t = j
  · subst e
    rw [if_neg (by omega), if_pos (by omega), hv]
  · by_cases q : t < j
    · rw [if_pos q, if_pos (by omega)]
    · rw [if_neg q, if_neg (by omega)]
theorem Lws.first (s : ByteArray) (w : World) (hs : s.size ≤ 140737488355328) : Lws s w.heap.size 0 (Lib.bytesWorld w 5 s) := by
  intro t ht
  refine ⟨by rw [Lib.bytesWorld_cell w 5 s t ht, if_neg (by omega)]; rfl, ?_⟩
  have hb := Lib.bytesWorld_at_new w 5 s
  have hc : s.size ≤ (Lib.bytesCells w 5 s).size := by
    unfold Lib.bytesCells
    simp
  simp only [World.frozen?, hb]
  simp
  try omega
theorem Lws.bs {s : ByteArray} {g j c : Nat} {w : World} (h : Lws s g j w) (hj : s.size ≤ j) (hc : s.size ≤ c) (hm : c ≤ 9223372036854775807) : Bs w (some ⟨g, 0, none⟩) s.size c ((nums s).map lwI) := by
  refine ⟨by simp [nums_length], hc, hm, (fun e => by cases e), fun x hx => ?_, .inr ⟨g, 0, rfl, fun i hi => ?_⟩⟩
  · obtain ⟨y, hy, rfl⟩ := List.mem_map.1 hx
    exact lwI_b (nums_byt s y hy)
  · rw [Nat.zero_add, (h i hi).1, if_pos (by omega)]
    congr 2
    have hz := bl_len s
    unfold lwAt
    rw [nums_bl]
    simp [List.getElem?_eq_getElem (show i < (bl s).length by omega)]

set_option maxHeartbeats 1000000 in
set_option maxRecDepth 20000 in
theorem lower_any (s : ByteArray) (w : World) (hs : s.size ≤ 140737488355328) :
    Calls Tryz.prog 70 #[.string s] w fun e w' => e = .returned (.string (ba (low (bl s)))) ∧ Below w.heap.size w w' := by
  have hcv := run_toBytes s w
  have hc1 := grownCap_ge w s.size 0 5
  have hc2 := grownCap_le_maxLen w s.size 0 5 (by unfold maxLen; omega)
  unfold maxLen at hc2
  have H0 := hide (Lws.first s w hs)
  have HB := hide (below_bytesWorld w 5 s)
  generalize grownCap w s.size 0 5 = c at *
  generalize Lib.bytesWorld w 5 s = w1 at *
  obtain ⟨g, hg⟩ : ∃ g, g = w.heap.size := ⟨_, rfl⟩
  rw [← hg] at hcv H0 HB ⊢
  have HG := hide hg
  clear hg
  rw [← low_str]
  go_enter Tryz.func70, Tryz.ntmps70
  go_wp2_with fail
  go_loopw [10] (fun i wr => ∃ j : Nat, j ≤ s.size ∧ i = .int .i64 j ∧ Lws s g j wr ∧ Below g w wr) (fun i _ => s.size - (intOf i).toNat)
  case atStart => exact ⟨0, by omega, rfl, unhide H0, unhide HB⟩
  case round =>
    obtain ⟨j, hj, rfl, hL, hbel⟩ := hrel
    have HL := hide hL
    have HB2 := hide hbel
    clear hL hbel
    by_cases hlt : j < s.size
    · have hix := fun wx => run_idxOwn1 g s.size c hlt (j : Int) rfl wx
      have cc := (unhide HL j hlt).1
      rw [if_neg (Nat.lt_irrefl j)] at cc
      have fr := (unhide HL j hlt).2
      have HX := hide (lwAt_b s j)
      have b0 := (lwAt_b s j).1
      have b1 := (lwAt_b s j).2
      have HS := hide (fun v => (unhide HL).stored hlt v)
      have HK := hide ((unhide HL).kept)
      generalize hx : lwAt s j = x at *
      by_cases h1 : 65 ≤ x ∧ x ≤ 90
      · have hv := hide (show x - 65 + 97 = lwI x by unfold lwI; rw [if_pos h1]; omega)
        obtain ⟨h1, h2⟩ := h1
        clear hx HK
        go_wp2_with fail
        go_roundw
        case rel => exact ⟨j + 1, by omega, by go_num, unhide HS _ (unhide hv), (unhide HB2).setCell (Nat.le_refl _) _⟩
        case measure => simp [intOf]; omega
      · have hv := hide (show lwI x = x by unfold lwI; rw [if_neg h1])
        clear hx HS
        have h3 : x < 65 ∨ (65 ≤ x ∧ 90 < x) := by omega
        rcases h3 with h3 | ⟨h3, h4⟩
        all_goals
          go_wp2_with fail
          go_roundw
          case rel => exact ⟨j + 1, by omega, by go_num, unhide HK (unhide hv), unhide HB2⟩
          case measure => simp [intOf]; omega
    · have hst := ((unhide HL).bs (by omega) hc1 hc2).str
      go_wp2_with fail
      go_ret
      exact ⟨rfl, unhide HB2⟩
end Go.Proofs.YtddfbaaghjcbnaaGreatDoor
