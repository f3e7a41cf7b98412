/-
  What Names, Status, called and Of of package caps return. Conditions: the program's tables lie in memory.
-/
import Derived.Test.YtnoabdafmgmenaaDoorCapBoth
import Derived.Test.YtnoabdafmgmenaaDoorSameT
namespace Go.Proofs.YtnoabdafmgmenaaDoor
open Go.RowKit
set_option linter.unusedVariables false
set_option linter.unusedSimpArgs false

/-- New texts. -/
def OutT (w : World) (l : List ByteArray) (e : Ending) (w' : World) : Prop := ∃ oo on oc, e = .returned (.slice oo on oc) ∧ TMine w.heap.size w' oo on oc l ∧ Below w.heap.size w w'

theorem OutT.of {w : World} {l : List ByteArray} {e : Ending} {w' : World} (h : OutT w l e w') : ∃ oo on oc, e = .returned (.slice oo on oc) ∧ TMine w.heap.size w' oo on oc l ∧ Below w.heap.size w w' := h

theorem pow_lt32 {k : Nat} (hk : k < 32) : 2 ^ k < 4294967296 := by
  have := Nat.pow_lt_pow_right (show 1 < 2 by omega) hk
  omega
theorem pow_walk {k : Nat} (hk : k < 32) : (2 : Int) ^ k % 4294967296 = ((2 ^ k : Nat) : Int) := by
  have h := pow_lt32 hk
  rw [show (2 : Int) ^ k = ((2 ^ k : Nat) : Int) by simp]
  generalize 2 ^ k = m at *
  omega
/-- Is bit k there: as the walks ask. -/
theorem bit_walk (c k : Nat) (hc : c < 4294967296) (hk : k < 32) : ∃ P Y : Int, (2 : Int) ^ k % 4294967296 = P ∧ bits .and .u32 (c : Int) P = Y ∧ (Y = 0 → c.testBit k = false) ∧ (¬ Y = 0 → c.testBit k = true) := by
  refine ⟨_, _, pow_walk hk, u32_and_nat c (2 ^ k) hc (pow_lt32 hk), fun h => ?_, fun h => ?_⟩
  · exact (and_pow_zero c k).1 (by omega)
  · have : ¬ c &&& 2 ^ k = 0 := by omega
    rw [and_pow_zero] at this
    simpa using this
theorem bit_walk16 (c k : Nat) (hc : c < 65536) (hk : k < 16) : ∃ P Y : Int, IntKind.u16.wrap (2 ^ k) = P ∧ bits .and .u16 (c : Int) P = Y ∧ (Y = 0 → c.testBit k = false) ∧ (¬ Y = 0 → c.testBit k = true) := by
  have h := Nat.pow_lt_pow_right (show 1 < 2 by omega) hk
  have hp : IntKind.u16.wrap (2 ^ k) = ((2 ^ k : Nat) : Int) := by
    rw [show (2 : Int) ^ k = ((2 ^ k : Nat) : Int) by simp, IntKind.wrap_u16]
    generalize 2 ^ k = m at *
    omega
  refine ⟨_, _, hp, u16_and_nat c (2 ^ k) hc (by omega), fun h => ?_, fun h => ?_⟩
  · exact (and_pow_zero c k).1 (by omega)
  · have : ¬ c &&& 2 ^ k = 0 := by omega
    rw [and_pow_zero] at this
    simpa using this

set_option maxHeartbeats 1000000 in
theorem names_any (c : Nat) (w : World) (hc : c < 4294967296) (hV : Vars w) :
    Calls Tryd.prog 9 #[.int .u32 (c : Int)] w fun e w' => OutT w (nms cnm c 32) e w' := by
  obtain ⟨t0, fr0, h0⟩ := hV.cap
  have HC := hide hc
  clear hV hc
  generalize hCC : (c : Int) = C at *
  have HCC := hide hCC
  clear hCC
  go_enter Tryd.func9, Tryd.ntmps9
  go_wp2_with (with_reducible show wpList Tryd.prog _ _ (Oper.mk _ (Op.load 42 _) _ _ _ none :: _) _ _; refine wpList_load_row rfl _ (.global 0) rfl 0 rfl _ capV _ _ h0 Tryd.underlying42 rfl (by kernel_rfl) ?_)
  go_loopw [3, 7] (fun l i ws => ∃ (k : Nat) (oo : Option Addr) (on oc : Nat), k ≤ 32 ∧ i = .int .i64 (k : Int) ∧ l = .slice oo on oc ∧ TMine w.heap.size ws oo on oc (nms cnm c k) ∧ Below w.heap.size w ws) (fun _ i _ => 32 - (intOf i).toNat)
  case atStart => exact ⟨0, none, 0, 0, by omega, rfl, rfl, TMine.nought _ _, Below.refl _ _⟩
  case round =>
    obtain ⟨k, oo, on, oc, hk, rfl, rfl, hT, hW⟩ := hrel
    have hz := hW.size
    by_cases hlt : k < 32
    · have hix := run_sIndex Tryd.underlying42 capV k hlt _ (capV_at k hlt) (k : Int) rfl
      have hn := hT.len
      have hnl := nms_len cnm c k
      have hon : on ≤ 32 := by omega
      clear hn hnl
      have HT := hide hT
      obtain ⟨P, Y, hP, hY, hq1, hq2⟩ := bit_walk c k (unhide HC) hlt
      rw [unhide HCC] at hY
      by_cases h0 : Y = 0
      · have HB := hide (hq1 h0)
        clear hq1 hq2 hT
        go_wp2_with fail
        go_roundw
        case rel => exact ⟨k + 1, oo, on, oc, by omega, by go_num, rfl, by rw [nms_no _ _ _ (unhide HB)]; exact unhide HT, hW⟩
        case measure => simp [intOf]; omega
      · have HB := hide (hq2 h0)
        have h0' : (Y != 0) = true := by simpa using h0
        have hf := hide (cnm_fit k hlt)
        clear hq1 hq2 hT
        go_wp2_with (at_builtin; refine wpList_tapp rfl (.tmp 16) (.tmp 18) rfl w.heap.size oo on oc _ rfl ((unhide HT).later (below_alloc wr _)) wr.heap.size (cnm k) (unhide hf) rfl (by simp) (by omega) (by simp; omega) ?_; intro ao1 c1 w1 hT1 hB1)
        go_roundw
        case rel => exact ⟨k + 1, ao1, on + 1, c1, by omega, by go_num, rfl, by rw [nms_yes _ _ _ (unhide HB)]; exact hT1, (hW.alloc hz _).trans hB1⟩
        case measure => simp [intOf]; omega
    · have e : k = 32 := by omega
      subst e
      go_wp2_with fail
      go_ret
      exact ⟨oo, on, oc, rfl, hT, hW⟩

set_option maxHeartbeats 1000000 in
theorem status_any (c : Nat) (w : World) (hc : c < 65536) (hV : Stat w) :
    Calls Tryd.prog 10 #[.int .u16 (c : Int)] w fun e w' => OutT w (nms snm c 16) e w' := by
  obtain ⟨t0, fr0, h0⟩ := hV.sta
  have HC := hide hc
  clear hV hc
  generalize hCC : (c : Int) = C at *
  have HCC := hide hCC
  clear hCC
  go_enter Tryd.func10, Tryd.ntmps10
  go_wp2_with (with_reducible show wpList Tryd.prog _ _ (Oper.mk _ (Op.load 43 _) _ _ _ none :: _) _ _; refine wpList_load_row rfl _ (.global 1) rfl 1 rfl _ staV _ _ h0 Tryd.underlying43 rfl (by kernel_rfl) ?_)
  go_loopw [3, 7] (fun l i ws => ∃ (k : Nat) (oo : Option Addr) (on oc : Nat), k ≤ 16 ∧ i = .int .i64 (k : Int) ∧ l = .slice oo on oc ∧ TMine w.heap.size ws oo on oc (nms snm c k) ∧ Below w.heap.size w ws) (fun _ i _ => 16 - (intOf i).toNat)
  case atStart => exact ⟨0, none, 0, 0, by omega, rfl, rfl, TMine.nought _ _, Below.refl _ _⟩
  case round =>
    obtain ⟨k, oo, on, oc, hk, rfl, rfl, hT, hW⟩ := hrel
    have hz := hW.size
    by_cases hlt : k < 16
    · have hix := run_sIndex Tryd.underlying43 staV k hlt _ (staV_at k hlt) (k : Int) rfl
      have hn := hT.len
      have hnl := nms_len snm c k
      have hon : on ≤ 32 := by omega
      clear hn hnl
      have HT := hide hT
      obtain ⟨P, Y, hP, hY, hq1, hq2⟩ := bit_walk16 c k (unhide HC) hlt
      rw [unhide HCC] at hY
      by_cases h0 : Y = 0
      · have HB := hide (hq1 h0)
        clear hq1 hq2 hT
        go_wp2_with fail
        go_roundw
        case rel => exact ⟨k + 1, oo, on, oc, by omega, by go_num, rfl, by rw [nms_no _ _ _ (unhide HB)]; exact unhide HT, hW⟩
        case measure => simp [intOf]; omega
      · have HB := hide (hq2 h0)
        have h0' : (Y != 0) = true := by simpa using h0
        have hf := hide (snm_fit k hlt)
        clear hq1 hq2 hT
        go_wp2_with (at_builtin; refine wpList_tapp rfl (.tmp 16) (.tmp 18) rfl w.heap.size oo on oc _ rfl ((unhide HT).later (below_alloc wr _)) wr.heap.size (snm k) (unhide hf) rfl (by simp) (by omega) (by simp; omega) ?_; intro ao1 c1 w1 hT1 hB1)
        go_roundw
        case rel => exact ⟨k + 1, ao1, on + 1, c1, by omega, by go_num, rfl, by rw [nms_yes _ _ _ (unhide HB)]; exact hT1, (hW.alloc hz _).trans hB1⟩
        case measure => simp [intOf]; omega
    · have e : k = 16 := by omega
      subst e
      go_wp2_with fail
      go_ret
      exact ⟨oo, on, oc, rfl, hT, hW⟩

/-- What called answers. -/
def cal (s : ByteArray) : Nat := match pos cnm s with | some k => 2 ^ k | none => 0
theorem cal_yes {s : ByteArray} {k : Nat} (h : pos cnm s = some k) : cal s = 2 ^ k := by simp [cal, h]
theorem cal_no {s : ByteArray} (h : pos cnm s = none) : cal s = 0 := by simp [cal, h]

set_option maxHeartbeats 1000000 in
theorem called_any (s : ByteArray) (w : World) (hV : Vars w) :
    Calls Tryd.prog 23 #[.string s] w fun e w' => e = .returned (.int .u32 ((cal s : Nat) : Int)) ∧ w' = w := by
  obtain ⟨t0, fr0, h0⟩ := hV.cap
  clear hV
  go_enter Tryd.func23, Tryd.ntmps23
  go_wp2_with (with_reducible show wpList Tryd.prog _ _ (Oper.mk _ (Op.load 42 _) _ _ _ none :: _) _ _; refine wpList_load_row rfl _ (.global 0) rfl 0 rfl _ capV _ _ h0 Tryd.underlying42 rfl (by kernel_rfl) ?_)
  go_loop [6] (fun i => ∃ (k : Nat), k ≤ 32 ∧ i = .int .i64 (k : Int) ∧ ∀ j, j < k → cnm j ≠ s) (fun i => 32 - (intOf i).toNat)
  case atStart => exact ⟨0, by omega, rfl, fun j hj => by omega⟩
  case round =>
    obtain ⟨k, hk, rfl, hno⟩ := hrel
    have HN := hide hno
    clear hno
    by_cases hlt : k < 32
    · have hix := run_sIndex Tryd.underlying42 capV k hlt _ (capV_at k hlt) (k : Int) rfl
      obtain ⟨n, hn⟩ : ∃ n, n = cnm k := ⟨_, rfl⟩
      rw [← hn] at hix
      have HNN := hide hn
      clear hn
      by_cases he : n = s
      · subst he
        have hp := hide (pos_yes cnm_inj hlt (unhide HNN).symm)
        have hpw := pow_walk hlt
        generalize hPP : ((2 ^ k : Nat) : Int) = PP at *
        have HPP := hide hPP
        clear hPP
        go_wp2_with fail
        go_ret
        exact ⟨by rw [cal_yes (unhide hp), unhide HPP]; rfl, rfl⟩
      · have he' := str_ne he
        go_wp2_with fail
        go_round
        case rel =>
          refine ⟨k + 1, by omega, by go_num, fun j hj => ?_⟩
          by_cases hjk : j = k
          · rw [hjk, ← unhide HNN]; exact he
          · exact unhide HN j (by omega)
        case measure => simp [intOf]; omega
    · have hp := hide (pos_no (nm := cnm) (s := s) (fun j hj => unhide HN j (by omega)))
      go_wp2_with fail
      go_ret
      exact ⟨by rw [cal_no (unhide hp)]; rfl, rfl⟩

theorem ofA_lt (nm : Nat → ByteArray) : ∀ (l : List ByteArray) (i c : Nat), c < 4294967296 → (ofA nm l i c).1 < 4294967296
  | [], i, c, h => h
  | s :: r, i, c, h => by
    unfold ofA
    split
    · simp
    · rename_i k hk
      exact ofA_lt nm r _ _ (by have := Nat.or_lt_two_pow (n := 32) (x := c) (y := 2 ^ k) (by omega) (by have := pow_lt32 (pos_lt hk).1; omega); omega)
theorem drop_at {ss : List ByteArray} {k : Nat} (h : k < ss.length) : ss.drop k = ss.getD k ByteArray.empty :: ss.drop (k + 1) := by
  rw [List.drop_eq_getElem_cons h]
  simp [h]
/-- One more name. -/
theorem or_walk (c j : Nat) (hc : c < 4294967296) (hj : j < 32) : bits .or .u32 (c : Int) ((2 ^ j : Nat) : Int) = ((c ||| 2 ^ j : Nat) : Int) ∧ c ||| 2 ^ j < 4294967296 := by
  have hp := pow_lt32 hj
  refine ⟨u32_or_nat c (2 ^ j) hc hp, ?_⟩
  have := Nat.or_lt_two_pow (n := 32) (x := c) (y := 2 ^ j) (by omega) (by omega)
  omega

/-- What Of answers, as a value. -/
def ofV (r : Nat × Nat × Nat) : Value := .tuple #[.int .u32 (r.1 : Int), .agg #[.int .i64 (r.2.1 : Int), .int .i64 (r.2.2 : Int)]]

set_option maxHeartbeats 1000000 in
theorem of_any (ao : Option Addr) (n c : Nat) (ss : List ByteArray) (w : World) (h : Ss w ao n c ss) (hV : Vars w) :
    Calls Tryd.prog 7 #[.slice ao n c] w fun e w' => e = .returned (ofV (ofA cnm ss 0 0)) ∧ Below w.heap.size w w' := by
  have hle := h.le
  have hmx := h.max
  have HL := hide h.len
  have HS := hide (fun o => h.later (below_alloc w o))
  have HV := hide (fun o => hV.later (below_alloc w o))
  clear h hV
  obtain ⟨R, hR⟩ : ∃ R, R = ofV (ofA cnm ss 0 0) := ⟨_, rfl⟩
  rw [← hR]
  have HR := hide hR
  clear hR
  go_enter Tryd.func7, Tryd.ntmps7
  go_wp2_with fail
  go_loop [4, 10] (fun cv i => ∃ (k cc : Nat), k ≤ n ∧ i = .int .i64 (k : Int) ∧ cv = .int .u32 (cc : Int) ∧ cc < 4294967296 ∧ ofA cnm ss 0 0 = ofA cnm (ss.drop k) k cc) (fun _ i => n - (intOf i).toNat)
  case atStart => exact ⟨0, 0, by omega, rfl, rfl, by omega, rfl⟩
  case round =>
    obtain ⟨k, cc, hk, rfl, rfl, hcc, hof⟩ := hrel
    have HO := hide hof
    clear hof
    by_cases hlt : k < n
    · obtain ⟨b1, o1, i1, c1⟩ := (unhide HS (.cells #[.int .i64 0, .int .i64 0] 26)).idx hlt (k : Int) rfl
      have hd := hide (drop_at (ss := ss) (k := k) (by rw [unhide HL]; exact hlt))
      obtain ⟨s, hs⟩ : ∃ s, s = ss.getD k ByteArray.empty := ⟨_, rfl⟩
      rw [← hs] at c1 hd
      clear hs
      have cq := hide (called_any s _ (unhide HV (.cells #[.int .i64 0, .int .i64 0] 26)))
      cases hp : pos cnm s with
      | none =>
        rw [cal_no hp] at cq
        have HR2 := hide (show R = ofV (0, 2, k) by rw [unhide HR, unhide HO, unhide hd, ofA_no _ _ _ hp])
        clear hp
        go_wp2_with (go_at_call 23; refine same_world (unhide cq) ?_)
        exact bodyPost_ret (v := .tuple #[.int .u32 0, .agg #[.int .i64 2, .int .i64 (k : Int)]]) (by simp [results, Tryd.results7, go_sem]) rfl ⟨by rw [unhide HR2]; rfl, below_alloc w _⟩
      | some j =>
        rw [cal_yes hp] at cq
        obtain ⟨ho, hlt2⟩ := or_walk cc j hcc (pos_lt hp).1
        have HO2 := hide (show ofA cnm ss 0 0 = ofA cnm (ss.drop (k + 1)) (k + 1) (cc ||| 2 ^ j) by rw [unhide HO, unhide hd, ofA_yes _ _ _ _ hp])
        have hpos : ¬ ((2 ^ j : Nat) : Int) = 0 := by have := Nat.two_pow_pos j; omega
        clear hp
        generalize cc ||| 2 ^ j = c2 at *
        generalize ((2 ^ j : Nat) : Int) = PP at *
        go_wp2_with (go_at_call 23; refine same_world (unhide cq) ?_)
        go_round
        case rel => exact ⟨k + 1, c2, by omega, by go_num, rfl, hlt2, unhide HO2⟩
        case measure => simp [intOf]; omega
    · have HR2 := hide (show R = ofV (cc, 0, 0) by rw [unhide HR, unhide HO, List.drop_eq_nil_of_le (by rw [unhide HL]; omega), ofA_nil])
      go_wp2_with fail
      exact bodyPost_ret (v := .tuple #[.int .u32 (cc : Int), .agg #[.int .i64 0, .int .i64 0]]) (by simp [results, Tryd.results7, go_sem]) rfl ⟨by rw [unhide HR2]; rfl, below_alloc w _⟩

end Go.Proofs.YtnoabdafmgmenaaDoor
