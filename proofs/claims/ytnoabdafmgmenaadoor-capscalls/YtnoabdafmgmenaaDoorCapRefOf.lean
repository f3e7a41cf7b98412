/-
  What Of of the document's own answer returns. Conditions: the slice can be read.
-/
import Derived.Test.YtnoabdafmgmenaaDoorCapRef
import Derived.BigRegion
import Derived.Deep.RegionWith
namespace Go.Proofs.YtnoabdafmgmenaaDoor
open Go.RowKit
set_option linter.unusedVariables false
set_option linter.unusedSimpArgs false

/-- The last bit below k that is called so: -1 if none is. -/
def Fnd (s : ByteArray) (k : Nat) (F : Int) : Prop := (F = -1 ∧ ∀ j, j < k → cnm j ≠ s) ∨ ∃ j, j < k ∧ cnm j = s ∧ F = (j : Int)
theorem Fnd.no {s : ByteArray} {k : Nat} {F : Int} (h : Fnd s k F) (hne : cnm k ≠ s) : Fnd s (k + 1) F := by
  rcases h with ⟨rfl, h⟩ | ⟨j, hj, h, rfl⟩
  · refine .inl ⟨rfl, fun j hj => ?_⟩
    by_cases e : j = k
    · rw [e]; exact hne
    · exact h j (by omega)
  · exact .inr ⟨j, by omega, h, rfl⟩
theorem Fnd.yes {s : ByteArray} {k : Nat} (h : cnm k = s) : Fnd s (k + 1) (k : Int) := .inr ⟨k, by omega, h, rfl⟩

set_option maxHeartbeats 4000000 in
theorem rof_ref (ao : Option Addr) (n c : Nat) (ss : List ByteArray) (w : World) (h : Ss w ao n c ss) :
    Calls Tryd.prog 16 #[.slice ao n c] w fun e w' => e = .returned (ofV (ofA cnm ss 0 0)) ∧ Below w.heap.size w w' := by
  have hle := h.le
  have hmx := h.max
  have HL := hide h.len
  have HS := hide (fun o ws (hb : Below (w.heap.size + 1) (w.alloc o) ws) => (h.later (below_alloc w o)).later (by simpa using hb))
  clear h
  obtain ⟨R, hR⟩ : ∃ R, R = ofV (ofA cnm ss 0 0) := ⟨_, rfl⟩
  rw [← hR]
  have HR := hide hR
  clear hR
  go_enter Tryd.func16, Tryd.ntmps16
  go_wp2_with fail
  go_loopw [4, 5] (fun cv i ws => ∃ (k cc : Nat), k ≤ n ∧ i = .int .i64 (k : Int) ∧ cv = .int .u32 (cc : Int) ∧ cc < 4294967296 ∧ ofA cnm ss 0 0 = ofA cnm (ss.drop k) k cc ∧ Below (w.heap.size + 1) (w.alloc (.cells #[.int .i64 0, .int .i64 0] 26)) ws) (fun _ i _ => n - (intOf i).toNat)
  case atStart => exact ⟨0, 0, by omega, rfl, rfl, by omega, rfl, Below.refl _ _⟩
  case round =>
    obtain ⟨k, cc, hk, rfl, rfl, hcc, hof, hW⟩ := hrel
    have HO := hide hof
    have HW := hide hW
    clear hof
    by_cases hlt : k < n
    · have hd := hide (drop_at (ss := ss) (k := k) (by rw [unhide HL]; exact hlt))
      obtain ⟨s, hs⟩ : ∃ s, s = ss.getD k ByteArray.empty := ⟨_, rfl⟩
      rw [← hs] at hd
      have HI := hide (fun ws (hb : Below (w.heap.size + 1) (w.alloc (.cells #[.int .i64 0, .int .i64 0] 26)) ws) => by have := (unhide HS _ _ hb).idx hlt (k : Int) rfl; rw [← hs] at this; exact this)
      have HCC := hide hcc
      clear hs hW hcc
      go_wp2_with fail
      go_loopw [6, 7] (fun fv jv ws => ∃ (m : Nat) (F : Int), m ≤ 32 ∧ jv = .int .i64 (m : Int) ∧ fv = .int .i64 F ∧ -1 ≤ F ∧ F < 32 ∧ Fnd s m F ∧ Below (w.heap.size + 1) (w.alloc (.cells #[.int .i64 0, .int .i64 0] 26)) ws) (fun _ jv _ => 32 - (intOf jv).toNat)
      case atStart => exact ⟨0, -1, by omega, rfl, rfl, by omega, by omega, .inl ⟨rfl, fun j hj => by omega⟩, unhide HW⟩
      case round =>
        obtain ⟨m, F, hm, rfl, rfl, hF0, hF1, hfnd, hW⟩ := hrel
        have HF := hide hfnd
        have hz := hW.size
        have hz' : w.heap.size + 1 ≤ wr.heap.size := by simpa using hz
        clear hfnd hz
        by_cases hlt2 : m < 32
        · obtain ⟨b1, o1, i1, c1⟩ := unhide HI wr hW
          have HC := hide (fun wx (hb : Below wr.heap.size wr wx) => cell_later hb c1)
          have cn := hide (fun w => name_ref m w hlt2)
          have HBW := hide (fun wx (hb : Below wr.heap.size wr wx) => hW.trans (hb.mono (by simpa using hz')))
          have HD := hide (fun wx (hb : Below wr.heap.size wr.drew wx) => (Below.trans (b := wr.drew) (⟨rfl, rfl, rfl, Nat.le_refl _, fun _ _ => rfl⟩ : Below wr.heap.size wr wr.drew) hb))
          by_cases he : cnm m = s
          · subst he
            generalize hcm : cnm m = cm at *
            have HCM := hide hcm
            clear hcm
            go_wp2_with fail
            go_region_with (go_at_call 24; refine (unhide cn _).mono ?_; rintro e w1 ⟨rfl, hb1⟩; have c2 := unhide HC _ (unhide HD _ hb1))
            all_goals have B3 := hide (unhide HBW _ (unhide HD _ hb1))
            all_goals clear hb1
            all_goals go_wp2_with fail
            all_goals go_roundw
            all_goals first
              | (refine ⟨m + 1, (m : Int), by omega, by go_num, rfl, by omega, by omega, ?_, unhide B3⟩; exact Fnd.yes (unhide HCM))
              | (simp [intOf]; omega)
          · have HE := hide he
            have he' := str_ne he
            clear he
            generalize hcm : cnm m = cm at *
            have HCM := hide hcm
            clear hcm
            go_wp2_with fail
            go_region_with (go_at_call 24; refine (unhide cn _).mono ?_; rintro e w1 ⟨rfl, hb1⟩; have c2 := unhide HC _ (unhide HD _ hb1))
            all_goals have B3 := hide (unhide HBW _ (unhide HD _ hb1))
            all_goals clear hb1
            all_goals go_wp2_with fail
            all_goals go_roundw
            all_goals first
              | exact ⟨m + 1, F, by omega, by go_num, rfl, by omega, by omega, (unhide HF).no (by rw [unhide HCM]; exact unhide HE), unhide B3⟩
              | (simp [intOf]; omega)
        · have hc0 : wr.cell? ⟨w.heap.size, 0, none⟩ = some (.int .i64 0) := by rw [hW.cell (p := ⟨w.heap.size, 0, none⟩) (by simp)]; simp
          have hc1 : wr.cell? ⟨w.heap.size, 1, none⟩ = some (.int .i64 0) := by rw [hW.cell (p := ⟨w.heap.size, 1, none⟩) (by simp)]; simp
          have hf0 : wr.frozen? ⟨w.heap.size, 0, none⟩ = false := by rw [hW.frozen (p := ⟨w.heap.size, 0, none⟩) (by simp)]; simp
          have hf1 : wr.frozen? ⟨w.heap.size, 1, none⟩ = false := by rw [hW.frozen (p := ⟨w.heap.size, 1, none⟩) (by simp)]; simp
          have hm32 : m = 32 := by omega
          subst hm32
          have HW2 := hide hW
          rcases unhide HF with ⟨rfl, hno⟩ | ⟨j, hj, hjs, rfl⟩
          · have hp := pos_no hno
            have HR2 := hide (show R = ofV (0, 2, k) by rw [unhide HR, unhide HO, unhide hd, ofA_no _ _ _ hp])
            clear hp hno hW
            go_wp2_with fail
            refine bodyPost_ret (v := .tuple #[.int .u32 0, .agg #[.int .i64 2, .int .i64 (k : Int)]]) (by simp [results, Tryd.results16, go_sem, hc0, hc1, hz']) rfl ⟨by rw [unhide HR2]; rfl, ?_⟩
            exact (((below_alloc w _).trans ((unhide HW2).mono (by omega))).setCell (by simp) _).setCell (by simp) _
          · have hp := pos_yes cnm_inj hj hjs
            obtain ⟨ho, hlt3⟩ := or_walk cc j (unhide HCC) hj
            have hpw := pow_walk hj
            have HO2 := hide (show ofA cnm ss 0 0 = ofA cnm (ss.drop (k + 1)) (k + 1) (cc ||| 2 ^ j) by rw [unhide HO, unhide hd, ofA_yes _ _ _ _ hp])
            clear hp hjs hW
            generalize cc ||| 2 ^ j = c2 at *
            generalize ((2 ^ j : Nat) : Int) = PP at *
            go_wp2_with fail
            go_roundw
            case rel => exact ⟨k + 1, c2, by omega, by go_num, rfl, hlt3, unhide HO2, unhide HW2⟩
            case measure => simp [intOf]; omega
    · have hc0 : wr.cell? ⟨w.heap.size, 0, none⟩ = some (.int .i64 0) := by rw [hW.cell (p := ⟨w.heap.size, 0, none⟩) (by simp)]; simp
      have hc1 : wr.cell? ⟨w.heap.size, 1, none⟩ = some (.int .i64 0) := by rw [hW.cell (p := ⟨w.heap.size, 1, none⟩) (by simp)]; simp
      have hf0 : wr.frozen? ⟨w.heap.size, 0, none⟩ = false := by rw [hW.frozen (p := ⟨w.heap.size, 0, none⟩) (by simp)]; simp
      have hf1 : wr.frozen? ⟨w.heap.size, 1, none⟩ = false := by rw [hW.frozen (p := ⟨w.heap.size, 1, none⟩) (by simp)]; simp
      have hz' : w.heap.size + 1 ≤ wr.heap.size := by simpa using hW.size
      have HR2 := hide (show R = ofV (cc, 0, 0) by rw [unhide HR, unhide HO, List.drop_eq_nil_of_le (by rw [unhide HL]; omega), ofA_nil])
      go_wp2_with fail
      refine bodyPost_ret (v := .tuple #[.int .u32 (cc : Int), .agg #[.int .i64 0, .int .i64 0]]) (by simp [results, Tryd.results16, go_sem, hc0, hc1, hz']) rfl ⟨by rw [unhide HR2]; rfl, ?_⟩
      exact (((below_alloc w _).trans ((unhide HW).mono (by omega))).setCell (by simp) _).setCell (by simp) _

end Go.Proofs.YtnoabdafmgmenaaDoor
