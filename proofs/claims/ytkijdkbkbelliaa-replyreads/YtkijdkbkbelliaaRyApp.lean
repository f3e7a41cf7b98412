/-
  What AppendErr, AppendEof, AppendPrepared and AppendFile return: the bytes behind b in new memory, or an error. Conditions: the slices can be read; lengths below 2 to the 40.
-/
import Derived.Test.YtkijdkbkbelliaaRyWr
import Derived.Test.YtkijdkbkbelliaaRyKind
import Derived.Deep.CutRange
import Derived.Deep.DeepCutAuto
namespace Go.Proofs.Ytkijdkbkbelliaa
open Go.RowKit
set_option linter.unusedVariables false
set_option linter.unusedSimpArgs false

theorem ba_isEmpty (s : ByteArray) : s.toList.isEmpty = decide (s.size = 0) := by
  rw [Bool.eq_iff_iff]
  simp only [List.isEmpty_iff, decide_eq_true_eq]
  rw [ByteArray.toList_eq]
  constructor
  · intro h
    have := congrArg List.length h
    simpa using this
  · intro h
    apply List.eq_nil_of_length_eq_zero
    simpa using h

/-- A function that writes a reply: the reply lies in the first new block, the writer from block B on. -/
structure Ww (w0 : World) (T : TypeId) (cs : Array Value) (B g : Nat) (w : World) (l : List Int) : Prop where
  wx : WX B g w l
  bel : Below w0.heap.size w0 w
  par : w.heap[w0.heap.size]? = some (.cells cs T (0, 0))
  lt : w0.heap.size < B
section
variable {w0 : World} {T : TypeId} {cs : Array Value} {B g : Nat} {w : World} {l : List Int}
theorem Ww.call (h : Ww w0 T cs B g w l) {l' : List Int} {w' : World} (o : OutWX B g w l' w') : Ww w0 T cs B g w' l' :=
  ⟨o.1, h.bel.trans (o.2.mono (Nat.le_of_lt h.lt)), (o.2.block _ h.lt).trans h.par, h.lt⟩
theorem Ww.cell (h : Ww w0 T cs B g w l) {j : Nat} {v : Value} (hj : cs[j]? = some v) : w.cell? ⟨w0.heap.size, j, none⟩ = some v := by rw [cell_of_row _ _ j _ _ _ h.par]; exact hj
theorem Ww.start (w0 : World) (T : TypeId) (cs : Array Value) {w1 w2 : World} {g : Nat} {b : List Int} (hb : Below (w0.heap.size + 1) (w0.alloc (.cells cs T)) w1) (o : OutWX w1.heap.size g w1 b w2) : Ww w0 T cs w1.heap.size g w2 b := by
  have e : (w0.alloc (.cells cs T)).heap.size = w0.heap.size + 1 := by simp
  have hz := hb.size
  rw [e] at hz
  refine ⟨o.1, (below_alloc w0 _).trans ((hb.mono (by omega)).trans (o.2.mono (by omega))), ?_, by omega⟩
  rw [o.2.block _ (by omega), hb.block _ (by omega)]
  exact heap_alloc_new w0 _
end

/-- What a function that writes a reply leaves. -/
def OutP (w : World) (R : Option (List Int)) (e : Ending) (w' : World) : Prop :=
  match R with
  | none => e = .returned (.tuple #[.slice none 0 0, .int .i64 2]) ∧ Below w.heap.size w w'
  | some l => ∃ ao n c, e = .returned (.tuple #[.slice ao n c, .int .i64 0]) ∧ Mine w.heap.size w' ao n c l ∧ Below w.heap.size w w'
/-- .. without an error. -/
def OutB (w : World) (l : List Int) (e : Ending) (w' : World) : Prop := ∃ ao n c, e = .returned (.slice ao n c) ∧ Mine w.heap.size w' ao n c l ∧ Below w.heap.size w w'

set_option maxHeartbeats 4000000 in
set_option maxRecDepth 100000 in
theorem appendEof_any (bo : Option Addr) (bn bc : Nat) (b : List Int) (p : Eo) (w : World) (hb : Bs w bo bn bc b) (hK : EoK p) (hsz : b.length + 100 ≤ 1099511627776) :
    Calls Try.prog 13 #[.slice bo bn bc, .agg #[.int .u16 p.wa, .int .u16 p.st]] w fun e w' => OutB w (b ++ eoB p) e w' := by
  have b0 := below_alloc w (.cells #[.int .u16 p.wa, .int .u16 p.st] 41)
  have hbl := hb.len
  have cN := hide (newWriter_wx bo bn bc b _ (hb.later b0) (by omega))
  obtain ⟨l1, hl1⟩ : ∃ z, z = b ++ [254] := ⟨_, rfl⟩
  have m1 : l1.length ≤ b.length + 1 := by rw [hl1]; simp
  have c1 := hide (fun (B g : Nat) wx (hx : WX B g wx b) => wmark_wx B g wx b 254 (by omega) (by omega) (by omega) hx)
  rw [← hl1] at c1
  obtain ⟨l2, hl2⟩ : ∃ z, z = l1 ++ le p.wa 2 := ⟨_, rfl⟩
  have m2 : l2.length ≤ l1.length + 2 := by rw [hl2, List.length_append, le_length]; exact Nat.le_refl _
  have c2 := hide (fun (B g : Nat) wx (hx : WX B g wx l1) => wfixed_wx B g wx l1 p.wa 2 2 65536 rfl hK.wa.1 (by omega) (by omega) (by decide) hK.wa.2 (by omega) (by omega) hx)
  rw [← hl2] at c2
  obtain ⟨l3, hl3⟩ : ∃ z, z = l2 ++ le p.st 2 := ⟨_, rfl⟩
  have m3 : l3.length ≤ l2.length + 2 := by rw [hl3, List.length_append, le_length]; exact Nat.le_refl _
  have c3 := hide (fun (B g : Nat) wx (hx : WX B g wx l2) => wfixed_wx B g wx l2 p.st 2 2 65536 rfl hK.st.1 (by omega) (by omega) (by decide) hK.st.2 (by omega) (by omega) hx)
  rw [← hl3] at c3
  have HRES := hide (show b ++ eoB p = l3 by subst hl1 hl2 hl3; simp only [eoB, List.append_assoc])
  clear hl1 hl2 hl3
  generalize b ++ eoB p = RR at *
  have hwa1 := hK.wa.1
  have hwa2 := hK.wa.2
  have hst1 := hK.st.1
  have hst2 := hK.st.2
  clear hb b0
  go_enter Try.func13, Try.ntmps13
  go_wp2_with fail
  refine (unhide cN).mono ?_
  rintro e w2 ⟨g, rfl, ho⟩
  have HW0 := hide (Ww.start w 41 #[.int .u16 p.wa, .int .u16 p.st] (Below.refl _ _) ho)
  clear ho cN
  go_wp2_with fail
  refine (unhide c1 _ _ _ (unhide HW0).wx).mono ?_
  rintro e w3 ⟨rfl, ho⟩
  have HW1 := hide ((unhide HW0).call ho)
  clear ho c1 HW0
  have x1_0 := (unhide HW1).cell (j := 0) (v := .int .u16 p.wa) rfl
  go_wp2_with fail
  clear x1_0
  refine (unhide c2 _ _ _ (unhide HW1).wx).mono ?_
  rintro e w4 ⟨rfl, ho⟩
  have HW2 := hide ((unhide HW1).call ho)
  clear ho c2 HW1
  have x2_1 := (unhide HW2).cell (j := 1) (v := .int .u16 p.st) rfl
  go_wp2_with fail
  clear x2_1
  refine (unhide c3 _ _ _ (unhide HW2).wx).mono ?_
  rintro e w5 ⟨rfl, ho⟩
  have HW3 := hide ((unhide HW2).call ho)
  clear ho c3 HW2
  obtain ⟨ao, n, c0, k0, hm⟩ := (unhide HW3).wx.cell
  have HM := hide (hm.mono (Nat.le_of_lt (unhide HW3).lt))
  clear hm
  go_wp2_with fail
  go_ret
  rw [unhide HRES]
  exact ⟨ao, n, c0, rfl, unhide HM, (unhide HW3).bel⟩

set_option maxHeartbeats 4000000 in
set_option maxRecDepth 100000 in
theorem appendPrepared_any (bo : Option Addr) (bn bc : Nat) (b : List Int) (p : Pr) (w : World) (hb : Bs w bo bn bc b) (hK : PrK p) (hsz : b.length + 100 ≤ 1099511627776) :
    Calls Try.prog 26 #[.slice bo bn bc, .agg #[.int .u32 p.id, .int .u16 p.co, .int .u16 p.pa, .int .u16 p.wa]] w fun e w' => OutB w (b ++ prB p) e w' := by
  have b0 := below_alloc w (.cells #[.int .u32 p.id, .int .u16 p.co, .int .u16 p.pa, .int .u16 p.wa] 48)
  have hbl := hb.len
  have cN := hide (newWriter_wx bo bn bc b _ (hb.later b0) (by omega))
  obtain ⟨l1, hl1⟩ : ∃ z, z = b ++ [0] := ⟨_, rfl⟩
  have m1 : l1.length ≤ b.length + 1 := by rw [hl1]; simp
  have c1 := hide (fun (B g : Nat) wx (hx : WX B g wx b) => wmark_wx B g wx b 0 (by omega) (by omega) (by omega) hx)
  rw [← hl1] at c1
  obtain ⟨l2, hl2⟩ : ∃ z, z = l1 ++ le p.id 4 := ⟨_, rfl⟩
  have m2 : l2.length ≤ l1.length + 4 := by rw [hl2, List.length_append, le_length]; exact Nat.le_refl _
  have c2 := hide (fun (B g : Nat) wx (hx : WX B g wx l1) => wfixed_wx B g wx l1 p.id 4 4 4294967296 rfl hK.id.1 (by omega) (by omega) (by decide) hK.id.2 (by omega) (by omega) hx)
  rw [← hl2] at c2
  obtain ⟨l3, hl3⟩ : ∃ z, z = l2 ++ le p.co 2 := ⟨_, rfl⟩
  have m3 : l3.length ≤ l2.length + 2 := by rw [hl3, List.length_append, le_length]; exact Nat.le_refl _
  have c3 := hide (fun (B g : Nat) wx (hx : WX B g wx l2) => wfixed_wx B g wx l2 p.co 2 2 65536 rfl hK.co.1 (by omega) (by omega) (by decide) hK.co.2 (by omega) (by omega) hx)
  rw [← hl3] at c3
  obtain ⟨l4, hl4⟩ : ∃ z, z = l3 ++ le p.pa 2 := ⟨_, rfl⟩
  have m4 : l4.length ≤ l3.length + 2 := by rw [hl4, List.length_append, le_length]; exact Nat.le_refl _
  have c4 := hide (fun (B g : Nat) wx (hx : WX B g wx l3) => wfixed_wx B g wx l3 p.pa 2 2 65536 rfl hK.pa.1 (by omega) (by omega) (by decide) hK.pa.2 (by omega) (by omega) hx)
  rw [← hl4] at c4
  obtain ⟨l5, hl5⟩ : ∃ z, z = l4 ++ [0] := ⟨_, rfl⟩
  have m5 : l5.length ≤ l4.length + 1 := by rw [hl5]; simp
  have c5 := hide (fun (B g : Nat) wx (hx : WX B g wx l4) => wmark_wx B g wx l4 0 (by omega) (by omega) (by omega) hx)
  rw [← hl5] at c5
  obtain ⟨l6, hl6⟩ : ∃ z, z = l5 ++ le p.wa 2 := ⟨_, rfl⟩
  have m6 : l6.length ≤ l5.length + 2 := by rw [hl6, List.length_append, le_length]; exact Nat.le_refl _
  have c6 := hide (fun (B g : Nat) wx (hx : WX B g wx l5) => wfixed_wx B g wx l5 p.wa 2 2 65536 rfl hK.wa.1 (by omega) (by omega) (by decide) hK.wa.2 (by omega) (by omega) hx)
  rw [← hl6] at c6
  have HRES := hide (show b ++ prB p = l6 by subst hl1 hl2 hl3 hl4 hl5 hl6; simp only [prB, List.append_assoc])
  clear hl1 hl2 hl3 hl4 hl5 hl6
  generalize b ++ prB p = RR at *
  have hid1 := hK.id.1
  have hid2 := hK.id.2
  have hco1 := hK.co.1
  have hco2 := hK.co.2
  have hpa1 := hK.pa.1
  have hpa2 := hK.pa.2
  have hwa1 := hK.wa.1
  have hwa2 := hK.wa.2
  clear hb b0
  go_enter Try.func26, Try.ntmps26
  go_wp2_with fail
  refine (unhide cN).mono ?_
  rintro e w2 ⟨g, rfl, ho⟩
  have HW0 := hide (Ww.start w 48 #[.int .u32 p.id, .int .u16 p.co, .int .u16 p.pa, .int .u16 p.wa] (Below.refl _ _) ho)
  clear ho cN
  go_wp2_with fail
  refine (unhide c1 _ _ _ (unhide HW0).wx).mono ?_
  rintro e w3 ⟨rfl, ho⟩
  have HW1 := hide ((unhide HW0).call ho)
  clear ho c1 HW0
  have x1_0 := (unhide HW1).cell (j := 0) (v := .int .u32 p.id) rfl
  go_wp2_with fail
  clear x1_0
  refine (unhide c2 _ _ _ (unhide HW1).wx).mono ?_
  rintro e w4 ⟨rfl, ho⟩
  have HW2 := hide ((unhide HW1).call ho)
  clear ho c2 HW1
  have x2_1 := (unhide HW2).cell (j := 1) (v := .int .u16 p.co) rfl
  go_wp2_with fail
  clear x2_1
  refine (unhide c3 _ _ _ (unhide HW2).wx).mono ?_
  rintro e w5 ⟨rfl, ho⟩
  have HW3 := hide ((unhide HW2).call ho)
  clear ho c3 HW2
  have x3_2 := (unhide HW3).cell (j := 2) (v := .int .u16 p.pa) rfl
  go_wp2_with fail
  clear x3_2
  refine (unhide c4 _ _ _ (unhide HW3).wx).mono ?_
  rintro e w6 ⟨rfl, ho⟩
  have HW4 := hide ((unhide HW3).call ho)
  clear ho c4 HW3
  go_wp2_with fail
  refine (unhide c5 _ _ _ (unhide HW4).wx).mono ?_
  rintro e w7 ⟨rfl, ho⟩
  have HW5 := hide ((unhide HW4).call ho)
  clear ho c5 HW4
  have x5_3 := (unhide HW5).cell (j := 3) (v := .int .u16 p.wa) rfl
  go_wp2_with fail
  clear x5_3
  refine (unhide c6 _ _ _ (unhide HW5).wx).mono ?_
  rintro e w8 ⟨rfl, ho⟩
  have HW6 := hide ((unhide HW5).call ho)
  clear ho c6 HW5
  obtain ⟨ao, n, c0, k0, hm⟩ := (unhide HW6).wx.cell
  have HM := hide (hm.mono (Nat.le_of_lt (unhide HW6).lt))
  clear hm
  go_wp2_with fail
  go_ret
  rw [unhide HRES]
  exact ⟨ao, n, c0, rfl, unhide HM, (unhide HW6).bel⟩

set_option maxHeartbeats 4000000 in
set_option maxRecDepth 100000 in
theorem appendErr_any (bo : Option Addr) (bn bc : Nat) (b : List Int) (p : Er) (w : World) (hb : Bs w bo bn bc b) (hK : 0 ≤ p.co ∧ p.co < 65536) (hsz : b.length + p.st.size + p.tx.size + 100 ≤ 1099511627776) :
    Calls Try.prog 22 #[.slice bo bn bc, .agg #[.int .u16 p.co, .string p.st, .string p.tx]] w fun e w' => OutP w (if eOk p = true then some (b ++ erB p) else none) e w' := by
  have b0 := below_alloc w (.cells #[.int .u16 p.co, .string p.st, .string p.tx] 35)
  have hbl := hb.len
  by_cases q : p.st.size = 5
  · rw [if_pos (show eOk p = true by unfold eOk; simpa using q)]
    have q1 : ((p.st.size : Int) != 5) = false := by simp; omega
    have cN := hide (newWriter_wx bo bn bc b _ (hb.later b0) (by omega))
    obtain ⟨l1, hl1⟩ : ∃ z, z = b ++ [255] := ⟨_, rfl⟩
    have m1 : l1.length ≤ b.length + 1 := by rw [hl1]; simp
    have c1 := hide (fun (B g : Nat) wx (hx : WX B g wx b) => wmark_wx B g wx b 255 (by omega) (by omega) (by omega) hx)
    rw [← hl1] at c1
    obtain ⟨l2, hl2⟩ : ∃ z, z = l1 ++ le p.co 2 := ⟨_, rfl⟩
    have m2 : l2.length ≤ l1.length + 2 := by rw [hl2, List.length_append, le_length]; exact Nat.le_refl _
    have c2 := hide (fun (B g : Nat) wx (hx : WX B g wx l1) => wfixed_wx B g wx l1 p.co 2 2 65536 rfl hK.1 (by omega) (by omega) (by decide) hK.2 (by omega) (by omega) hx)
    rw [← hl2] at c2
    obtain ⟨l3, hl3⟩ : ∃ z, z = l2 ++ [35] := ⟨_, rfl⟩
    have m3 : l3.length ≤ l2.length + 1 := by rw [hl3]; simp
    have c3 := hide (fun (B g : Nat) wx (hx : WX B g wx l2) => wmark_wx B g wx l2 35 (by omega) (by omega) (by omega) hx)
    rw [← hl3] at c3
    obtain ⟨l4, hl4⟩ : ∃ z, z = l3 ++ nums p.st := ⟨_, rfl⟩
    have m4 : l4.length ≤ l3.length + p.st.size := by rw [hl4, List.length_append, nums_length]; exact Nat.le_refl _
    have c4 := hide (fun (B g : Nat) wx (hx : WX B g wx l3) => wraw_wx B g wx l3 p.st (by omega) hx)
    rw [← hl4] at c4
    obtain ⟨l5, hl5⟩ : ∃ z, z = l4 ++ nums p.tx := ⟨_, rfl⟩
    have m5 : l5.length ≤ l4.length + p.tx.size := by rw [hl5, List.length_append, nums_length]; exact Nat.le_refl _
    have c5 := hide (fun (B g : Nat) wx (hx : WX B g wx l4) => wraw_wx B g wx l4 p.tx (by omega) hx)
    rw [← hl5] at c5
    have HRES := hide (show b ++ erB p = l5 by subst hl1 hl2 hl3 hl4 hl5; simp only [erB, List.append_assoc])
    clear hl1 hl2 hl3 hl4 hl5 q
    generalize b ++ erB p = RR at *
    have hco1 := hK.1
    have hco2 := hK.2
    clear hb b0
    go_enter Try.func22, Try.ntmps22
    go_wp2_with fail
    refine (unhide cN).mono ?_
    rintro e w2 ⟨g, rfl, ho⟩
    have HW0 := hide (Ww.start w 35 #[.int .u16 p.co, .string p.st, .string p.tx] (Below.refl _ _) ho)
    clear ho cN
    go_wp2_with fail
    refine (unhide c1 _ _ _ (unhide HW0).wx).mono ?_
    rintro e w3 ⟨rfl, ho⟩
    have HW1 := hide ((unhide HW0).call ho)
    clear ho c1 HW0
    have x1_0 := (unhide HW1).cell (j := 0) (v := .int .u16 p.co) rfl
    go_wp2_with fail
    clear x1_0
    refine (unhide c2 _ _ _ (unhide HW1).wx).mono ?_
    rintro e w4 ⟨rfl, ho⟩
    have HW2 := hide ((unhide HW1).call ho)
    clear ho c2 HW1
    go_wp2_with fail
    refine (unhide c3 _ _ _ (unhide HW2).wx).mono ?_
    rintro e w5 ⟨rfl, ho⟩
    have HW3 := hide ((unhide HW2).call ho)
    clear ho c3 HW2
    have x3_1 := (unhide HW3).cell (j := 1) (v := .string p.st) rfl
    go_wp2_with fail
    clear x3_1
    refine (unhide c4 _ _ _ (unhide HW3).wx).mono ?_
    rintro e w6 ⟨rfl, ho⟩
    have HW4 := hide ((unhide HW3).call ho)
    clear ho c4 HW3
    have x4_2 := (unhide HW4).cell (j := 2) (v := .string p.tx) rfl
    go_wp2_with fail
    clear x4_2
    refine (unhide c5 _ _ _ (unhide HW4).wx).mono ?_
    rintro e w7 ⟨rfl, ho⟩
    have HW5 := hide ((unhide HW4).call ho)
    clear ho c5 HW4
    obtain ⟨ao, n, c0, k0, hm⟩ := (unhide HW5).wx.cell
    have HM := hide (hm.mono (Nat.le_of_lt (unhide HW5).lt))
    clear hm
    go_wp2_with fail
    go_ret2
    rw [unhide HRES]
    exact ⟨ao, n, c0, rfl, unhide HM, (unhide HW5).bel⟩
  · rw [if_neg (show ¬ eOk p = true by unfold eOk; simpa using q)]
    have q1 : ((p.st.size : Int) != 5) = true := by simp; omega
    have B0 := hide b0
    clear hb b0 q hbl
    go_enter Try.func22, Try.ntmps22
    go_wp2_with fail
    go_ret2
    exact ⟨rfl, unhide B0⟩

set_option maxHeartbeats 4000000 in
set_option maxRecDepth 100000 in
theorem appendFile_any (bo : Option Addr) (bn bc : Nat) (b : List Int) (s : ByteArray) (w : World) (hb : Bs w bo bn bc b) (hsz : b.length + s.size + 100 ≤ 1099511627776) :
    Calls Try.prog 14 #[.slice bo bn bc, .string s] w fun e w' => OutP w (if fOk s = true then some (b ++ fiB s) else none) e w' := by
  have hbl := hb.len
  by_cases q : s.size = 0
  · rw [if_neg (show ¬ fOk s = true by unfold fOk; simpa using q)]
    have q1 : s.toList.isEmpty = true := by rw [ba_isEmpty]; simpa using q
    clear hb q hbl
    go_enter Try.func14, Try.ntmps14
    go_wp2_with fail
    go_ret2
    exact ⟨rfl, Below.refl _ _⟩
  · rw [if_pos (show fOk s = true by unfold fOk; simpa using q)]
    have q1 : s.toList.isEmpty = false := by rw [ba_isEmpty]; simpa using q
    have cN := hide (newWriter_wx bo bn bc b w hb (by omega))
    obtain ⟨l1, hl1⟩ : ∃ z, z = b ++ [251] := ⟨_, rfl⟩
    have m1 : l1.length ≤ b.length + 1 := by rw [hl1]; simp
    have c1 := hide (fun (B g : Nat) wx (hx : WX B g wx b) => wmark_wx B g wx b 251 (by omega) (by omega) (by omega) hx)
    rw [← hl1] at c1
    have c2 := hide (fun (B g : Nat) wx (hx : WX B g wx l1) => wraw_wx B g wx l1 s (by omega) hx)
    have HRES := hide (show b ++ fiB s = l1 ++ nums s by subst hl1; simp only [fiB, List.append_assoc])
    clear hl1 q hb
    generalize l1 ++ nums s = l2 at *
    generalize b ++ fiB s = RR at *
    go_enter Try.func14, Try.ntmps14
    go_wp2_with fail
    refine (unhide cN).mono ?_
    rintro e w2 ⟨g, rfl, h1, b1⟩
    have HX1 := hide h1
    have HB1 := hide b1
    clear h1 b1 cN
    go_wp2_with fail
    refine (unhide c1 _ _ _ (unhide HX1)).mono ?_
    rintro e w3 ⟨rfl, h2, b2⟩
    have HX2 := hide h2
    have HB2 := hide ((unhide HB1).trans b2)
    clear h2 b2 c1 HX1 HB1
    go_wp2_with fail
    refine (unhide c2 _ _ _ (unhide HX2)).mono ?_
    rintro e w4 ⟨rfl, h3, b3⟩
    have HB3 := hide ((unhide HB2).trans b3)
    obtain ⟨ao, n, c0, k0, hm⟩ := h3.cell
    have HM := hide hm
    clear h3 b3 c2 HX2 HB2 hm
    go_wp2_with fail
    go_ret2
    rw [unhide HRES]
    exact ⟨ao, n, c0, rfl, unhide HM, unhide HB3⟩

end Go.Proofs.Ytkijdkbkbelliaa
