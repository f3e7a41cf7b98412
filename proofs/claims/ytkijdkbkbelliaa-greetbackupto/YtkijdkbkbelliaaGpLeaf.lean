/-
  What the small functions of package greet return: whether capabilities, texts and bytes may be; twenty bytes 1 (bytes.Repeat). They write nothing that was there. Conditions: the slices can be read; a part of a nonce has at most 20 bytes.
-/
import Derived.Test.YtkijdkbkbelliaaGpRd
import Derived.Test.YtkijdkbkbelliaaGrChk
import Derived.Laws.CopyOwn
import Derived.Lib.MakeNoZero
import Derived.Deep.RegionLaw
import Derived.BigQuiet
namespace Go.Proofs.Ytkijdkbkbelliaa
open Go.RowKit
set_option linter.unusedVariables false
set_option linter.unusedSimpArgs false

/-- Is a capability there? -/
def has (c x : Int) : Bool := !(bits .and .u32 c x == 0)
/-- Are Protocol41 and Secure there? -/
def cor (c : Int) : Bool := bits .and .u32 c 33280 == 33280
/-- Has a text no byte 0? -/
def pln (s : ByteArray) : Bool := decide (idx0 (nums s) < 0)
/-- May a text be, that is something only where a capability is there? -/
def mby (c x : Int) (s : ByteArray) : Bool := if has c x = true then pln s else decide (s.size = 0)
/-- The byte that tells how long a nonce is. -/
def nsz (c : Int) : Int := if has c 524288 = true then 21 else 0

theorem ba_empty (s : ByteArray) : s.toList.isEmpty = decide (s.size = 0) := by
  rw [Bool.eq_iff_iff]
  simp only [List.isEmpty_iff, decide_eq_true_eq]
  rw [ByteArray.toList_eq]
  constructor
  · intro h
    have := congrArg List.length h
    simpa using this
  · intro h
    apply List.eq_nil_of_length_eq_zero
    simpa using h

set_option maxHeartbeats 400000 in
theorem hasCore_any (c : Int) (w : World) :
    Calls Try.prog 102 #[.int .u32 c] w fun e w' => e = .returned (.bool (cor c)) ∧ w' = w := by
  go_enter Try.func102, Try.ntmps102
  go_wp2
  go_ret
  exact ⟨rfl, rfl⟩

set_option maxHeartbeats 400000 in
theorem hasNoZero_any (s : ByteArray) (w : World) :
    Calls Try.prog 129 #[.string s] w fun e w' => e = .returned (.bool (pln s)) ∧ w' = w := by
  have cI := hide (strIndex_any s w)
  unfold pln
  generalize idx0 (nums s) = i at *
  go_enter Try.func129, Try.ntmps129
  go_wp2_with fail
  refine (unhide cI).mono ?_
  rintro e w' ⟨rfl, rfl⟩
  go_wp2_with fail
  go_ret
  exact ⟨rfl, rfl⟩

set_option maxHeartbeats 400000 in
theorem mayBeBy_any (c x : Int) (s : ByteArray) (w : World) :
    Calls Try.prog 116 #[.int .u32 c, .int .u32 x, .string s] w fun e w' => e = .returned (.bool (mby c x s)) ∧ w' = w := by
  have cH := hide (hasNoZero_any s w)
  cases q : (bits .and .u32 c x == 0)
  · rw [show mby c x s = pln s by unfold mby has; rw [q]; rfl]
    go_enter Try.func116, Try.ntmps116
    go_wp2_with fail
    refine (unhide cH).mono ?_
    rintro e w' ⟨rfl, rfl⟩
    go_wp2_with fail
    go_ret
    exact ⟨rfl, rfl⟩
  · rw [show mby c x s = s.toList.isEmpty by unfold mby has; rw [q, ba_empty]; rfl]
    clear cH
    go_enter Try.func116, Try.ntmps116
    go_wp2_with fail
    go_ret
    exact ⟨by first | rfl | (simp), rfl⟩

set_option maxHeartbeats 400000 in
theorem nonceSize_any (c : Int) (w : World) :
    Calls Try.prog 94 #[.int .u32 c] w fun e w' => e = .returned (.int .u64 (nsz c)) ∧ w' = w := by
  cases q : (bits .and .u32 c 524288 == 0)
  · rw [show nsz c = 21 by unfold nsz has; rw [q]; rfl]
    go_enter Try.func94, Try.ntmps94
    go_wp2
    go_ret
    exact ⟨rfl, rfl⟩
  · rw [show nsz c = 0 by unfold nsz has; rw [q]; rfl]
    go_enter Try.func94, Try.ntmps94
    go_wp2
    go_ret
    exact ⟨rfl, rfl⟩

set_option maxHeartbeats 400000 in
theorem bytesEqual_any (ao : Option Addr) (n c : Nat) (cs : List Int) (bo : Option Addr) (m d : Nat) (bs : List Int) (w : World) (h : Bs w ao n c cs) (k : Bs w bo m d bs) :
    Calls Try.prog 136 #[.slice ao n c, .slice bo m d] w fun e w' => e = .returned (.bool (decide (cs = bs))) ∧ w' = w := by
  have h1 := h.str
  have h2 := k.str
  have he := hide (str_eq h.byt k.byt)
  clear h k
  go_enter Try.func136, Try.ntmps136
  go_wp2
  go_ret
  rw [← unhide he]
  exact ⟨rfl, rfl⟩

set_option maxHeartbeats 1000000 in
set_option maxRecDepth 100000 in
theorem mul64_one (w : World) :
    Calls Try.prog 156 #[.int .u64 1, .int .u64 20] w fun e w' => e = .returned (.tuple #[.int .u64 0, .int .u64 20]) ∧ w' = w := by
  go_enter Try.func156, Try.ntmps156
  go_wp2
  go_ret2
  exact ⟨rfl, rfl⟩

set_option maxHeartbeats 1000000 in
set_option maxRecDepth 100000 in
theorem mul_one20 (w : World) :
    Calls Try.prog 152 #[.int .u64 1, .int .u64 20] w fun e w' => e = .returned (.tuple #[.int .u64 0, .int .u64 20]) ∧ w' = w := by
  go_enter Try.func152, Try.ntmps152
  go_wp2_with (go_at_call 156; refine (mul64_one _).mono ?_; rintro e w' ⟨rfl, rfl⟩)
  go_ret2
  exact ⟨rfl, rfl⟩

/-- The first n cells of a row are bytes 1. -/
def Ones (cur : List Value) (n : Nat) : Prop := cur.take n = List.replicate n (.int .u8 1)
theorem Ones.more {cur : List Value} {n m : Nat} (h : Ones cur n) (hn : n + m ≤ cur.length) : Ones (splice cur n (List.replicate m (.int .u8 1))) (n + m) := by
  unfold Ones splice at *
  rw [h, ← List.append_assoc, List.take_append_of_le_length (by simp), List.take_of_length_le (by simp), List.replicate_append_replicate]
theorem Ones.at {cur : List Value} {n i : Nat} (h : Ones cur n) (hi : i < n) : cur[i]? = some (.int .u8 1) := by
  have := congrArg (fun l => l[i]?) h
  simpa [List.getElem?_take, hi, List.getElem?_replicate] using this
theorem splice_len {cur cs : List Value} {n : Nat} (h : n + cs.length ≤ cur.length) : (splice cur n cs).length = cur.length := by
  unfold splice
  simp
  omega
theorem Ones.start {cur : List Value} (h : 1 ≤ cur.length) : Ones (splice cur 0 [.int .u8 1]) 1 := by
  unfold Ones splice
  simp

theorem Try.byteOne : (Try.prog.info? 5).map (·.size) = some 1 := by kernel_rfl

set_option maxHeartbeats 4000000 in
set_option maxRecDepth 100000 in
theorem repeat_one (b : Nat) (w : World) (h : w.cell? ⟨b, 0, none⟩ = some (.int .u8 1)) :
    Calls Try.prog 148 #[.slice (some ⟨b, 0, none⟩) 1 1, .int .i64 20] w fun e w' => ∃ g cur, e = .returned (.slice (some ⟨g, 0, none⟩) 20 20) ∧ w.heap.size ≤ g ∧ w'.heap[g]? = some (.cells (List.toArray cur) 5 (0, 0)) ∧ 20 ≤ cur.length ∧ Ones cur 20 ∧ Below w.heap.size w w' := by
  have cM := hide (mul_one20 w)
  obtain ⟨cs, hrunM, hle, _⟩ := Lib.run_makeNoZero (P := Try.prog) w #[3] 22 5 Try.underlying22 20 (by omega)
  have hcall : (callFunc 153 #[.int .i64 20]).run Try.prog w = .ok (.value (.slice (some ⟨w.heap.size, 0, none⟩) 20 cs.size)) ((w.alloc (.cells cs 5)).drewN 2) := by
    have hm : (Extern.BytealgMakeNoZero.makeNoZero #[3] #[22] #[.int .i64 20]).run Try.prog w = .ok (.slice (some ⟨w.heap.size, 0, none⟩) 20 cs.size) (w.drew.drew.alloc (.cells cs 5)) := hrunM
    rw [run_callFunc_extern Try.func153 (by kernel_rfl) (by kernel_rfl) (by kernel_rfl) (e := Extern.BytealgMakeNoZero.makeNoZero #[3] #[22]) (by kernel_rfl), hm]
    rfl
  clear hrunM
  have hcs : (20 : Int) ≤ (cs.size : Int) := by omega
  have hb1 : Below w.heap.size w ((w.alloc (.cells cs 5)).drewN 2) := (below_alloc w _).trans ⟨rfl, rfl, rfl, Nat.le_refl _, fun _ _ => rfl⟩
  have hg1 : ((w.alloc (.cells cs 5)).drewN 2).heap[w.heap.size]? = some (.cells (List.toArray cs.toList) 5 (0, 0)) := by rw [Array.toArray_toList]; exact heap_alloc_new w _
  have hsrc : ((w.alloc (.cells cs 5)).drewN 2).cell? ⟨b, 0, none⟩ = some (.int .u8 1) := cell_later hb1 h
  have HS := hide (show ∀ j v, ([Value.int .u8 1] : List Value)[j]? = some v → ((w.alloc (.cells cs 5)).drewN 2).cell? (Addr.add ⟨b, 0, none⟩ j) = some v by
    intro j v hj
    have : j = 0 := by have := (List.getElem?_eq_some_iff.1 hj).1; simpa using this
    subst this
    simp at hj
    subst hj
    exact hsrc)
  have HG1 := hide hg1
  have HB1 := hide hb1
  have HL := hide (show 0 + [Value.int .u8 1].length ≤ cs.toList.length by simp; omega)
  have HO := hide (show ∀ v ∈ [Value.int .u8 1], v.oneCell' = true by simp [Value.oneCell'])
  clear hg1 hb1 hsrc
  obtain ⟨g, hg⟩ : ∃ g, g = w.heap.size := ⟨_, rfl⟩
  have HGE := hide hg
  rw [← hg] at hcall HG1
  clear hg
  go_enter Try.func148, Try.ntmps148
  go_wp2_with (first
    | (go_at_call 152; refine (unhide cM).mono ?_; rintro e w' ⟨rfl, hw'⟩; have hw'' := hw'.symm; subst hw''; clear hw')
    | (with_reducible show wpList Try.prog _ _ (Oper.mk (some 60) (Op.call _) _ _ _ none :: _) _ _; refine wpList_copy_splice rfl (.tmp 58) (.tmp 59) 22 22 rfl 5 Try.underlying22 Try.byteOne _ _ 20 20 1 1 rfl rfl g 0 cs.toList 5 (unhide HG1) [.int .u8 1] rfl (fun _ => ⟨rfl, ⟨b, 0, none⟩, rfl, unhide HS⟩) (unhide HL) (unhide HO) w.heap.size w (unhide HB1) (by rw [unhide HGE]; exact Nat.le_refl _) ?_; intro w1 hg hb; have HG := hide (unhide hg); have HB := hide hb; clear hg hb))
  go_loopw [10] (fun n ws => ∃ (k : Nat) (cur : List Value), 1 ≤ k ∧ k ≤ 20 ∧ n = .int .i64 (k : Int) ∧ ws.heap[g]? = some (.cells (List.toArray cur) 5 (0, 0)) ∧ 20 ≤ cur.length ∧ Ones cur k ∧ Below w.heap.size w ws) (fun n _ => 20 - (intOf n).toNat)
  case atStart => exact ⟨1, _, by omega, by omega, rfl, unhide HG, by rw [splice_len (unhide HL)]; simp; omega, Ones.start (by simp; omega), unhide HB⟩
  case round =>
    clear HG HB HG1 HB1 HS HL HO
    obtain ⟨k, cur, hk1, hk2, rfl, hg, hcl, hon, hb⟩ := hrel
    by_cases hlt : k < 20
    · have hmin : (if (20 : Int) < (k : Int) then (20 : Int) else (k : Int)) = (k : Int) := if_neg (by omega)
      have s1 : ∀ wx : World, (Instr.slice 22 (.slice (some ⟨g, 0, none⟩) 20 20) (some (.int .i64 (k : Int))) none none).run Try.prog wx = .ok (.slice (some ⟨g, k, none⟩) (20 - k) (20 - k)) wx := fun wx => by
        have := run_cut_l (some ⟨g, 0, none⟩) 20 20 k (by omega) (k : Int) rfl wx
        rw [show cutAt (some ⟨g, 0, none⟩) 20 k = some ⟨g, k, none⟩ by unfold cutAt; rw [if_neg (by omega)]; simp [Addr.add_lit]] at this
        exact this
      have s2 : ∀ wx : World, (Instr.slice 22 (.slice (some ⟨g, 0, none⟩) 20 20) none (some (.int .i64 (k : Int))) none).run Try.prog wx = .ok (.slice (some ⟨g, 0, none⟩) k 20) wx := fun wx => by
        have := run_cut_h (some ⟨g, 0, none⟩) 20 20 k (by omega) (k : Int) rfl wx
        rw [show cutAt (some ⟨g, 0, none⟩) 20 0 = some ⟨g, 0, none⟩ by unfold cutAt; rw [if_neg (by omega)]; simp [Addr.add_lit]] at this
        exact this
      have hmk : Nat.min k (20 - k) ≤ k ∧ Nat.min k (20 - k) ≤ 20 - k ∧ 1 ≤ Nat.min k (20 - k) := ⟨Nat.min_le_left _ _, Nat.min_le_right _ _, by have := Nat.le_min.2 (⟨hk1, (by omega : 1 ≤ 20 - k)⟩ : 1 ≤ k ∧ 1 ≤ 20 - k); exact this⟩
      obtain ⟨m, hm⟩ : ∃ m, m = Nat.min k (20 - k) := ⟨_, rfl⟩
      rw [← hm] at hmk
      have HX := hide (show ∀ j v, (List.replicate m (Value.int .u8 1))[j]? = some v → wr.cell? (Addr.add ⟨g, 0, none⟩ j) = some v by
        intro j v hj
        have hjl := (List.getElem?_eq_some_iff.1 hj).1
        rw [List.length_replicate] at hjl
        rw [List.getElem?_replicate, if_pos hjl] at hj
        rw [Addr.add_lit, Nat.zero_add, cell_of_row wr g j _ _ _ hg, ← hj]
        simpa using hon.at (show j < k by omega))
      have HM := hide (show (List.replicate m (Value.int .u8 1)).length = Nat.min k (20 - k) by rw [List.length_replicate]; exact hm)
      have HO := hide (show ∀ v ∈ List.replicate m (Value.int .u8 1), v.oneCell' = true by intro v hv; rw [List.eq_of_mem_replicate hv]; rfl)
      have HF := hide (show k + (List.replicate m (Value.int .u8 1)).length ≤ cur.length by simp; omega)
      have HON := hide (hon.more (m := m) (by omega))
      have HG := hide hg
      have HB := hide hb
      have hwr : IntKind.i64.wrap ((k : Int) + (m : Int)) = (k : Int) + (m : Int) := by rw [IntKind.wrap_i64]; omega
      clear hm hg hb hon
      go_wp2_with fail
      go_region_law (refine step_copy_splice rfl (.tmp 70) (.tmp 73) 22 22 rfl 5 Try.underlying22 Try.byteOne (some ⟨g, k, none⟩) (some ⟨g, 0, none⟩) (20 - k) (20 - k) k 20 (by simp [Act.eval, Act.put]) (by simp [Act.eval, Act.put]) g k cur 5 (unhide HG) (List.replicate m (.int .u8 1)) (unhide HM) (fun _ => ⟨rfl, ⟨g, 0, none⟩, rfl, unhide HX⟩) (unhide HF) (unhide HO) w.heap.size w (unhide HB).drew (by rw [unhide HGE]; exact Nat.le_refl _) ?_; intro w4 hg4 hb4)
      all_goals go_wp2_with fail
      refine ⟨⟨.int .i64 ((k : Int) + (m : Int)), _, _, _, _, _, _, _, _, _, _, _, _, _, _, _, _, ⟨k + m, _, by omega, by omega, by go_num, unhide hg4, by rw [splice_len (unhide HF)]; exact hcl, unhide HON, hb4⟩, rfl⟩, ?_⟩
      simp [intOf, Act.put]
      omega
    · have e : k = 20 := by omega
      subst e
      have HG := hide hg
      have HB := hide hb
      have HON := hide hon
      clear hg hb hon
      go_wp2_with fail
      go_ret
      exact ⟨g, cur, rfl, by rw [unhide HGE]; exact Nat.le_refl _, unhide HG, hcl, unhide HON, unhide HB⟩

/-- May a nonce begin so? -/
theorem nck_part {l : List Int} (h : l.length ≤ 20) : nck (l ++ List.replicate (20 - l.length) 1) = if l.all okb = true then 0 else 2 := by
  unfold nck
  have h1 : (l ++ List.replicate (20 - l.length) (1 : Int)).length = 20 := by simp; omega
  have h2 : (l ++ List.replicate (20 - l.length) (1 : Int)).all okb = l.all okb := by
    rw [List.all_append, List.all_replicate]
    have : okb 1 = true := by decide
    simp [this]
  rw [h1, h2]
  simp
theorem bs_part {cur : List Value} {n : Nat} {l : List Int} (hl : l.length = n) (hn : n ≤ 20) (h : Ones cur 20) (hc : 20 ≤ cur.length) {w : World} {g : Nat} (hb : Byt l)
    (hg : w.heap[g]? = some (.cells (List.toArray (splice cur 0 (l.map (Value.int .u8)))) 5 (0, 0))) : Bs w (some ⟨g, 0, none⟩) 20 20 (l ++ List.replicate (20 - l.length) 1) := by
  refine ⟨by simp; omega, Nat.le_refl _, by omega, (fun e => by cases e), hb.app (fun x hx => by have := List.eq_of_mem_replicate hx; omega), .inr ⟨g, 0, rfl, fun i hi => ?_⟩⟩
  rw [Nat.zero_add, cell_of_row w g i _ _ _ hg]
  unfold splice
  by_cases hi2 : i < n
  · simp [List.getElem?_append_left, hl, hi2, List.getElem?_eq_getElem (show i < l.length by omega)]
  · have := h.at hi
    simp [List.getElem?_append_right, hl, hi2, show n ≤ i by omega, this]
    rw [List.getElem?_replicate, if_pos (by omega)]
    rfl

set_option maxHeartbeats 1000000 in
set_option maxRecDepth 100000 in
theorem mayBePart_any (ao : Option Addr) (n c : Nat) (l : List Int) (w : World) (h : Bs w ao n c l) (hn : n ≤ 20) :
    Calls Try.prog 135 #[.slice ao n c] w fun e w' => e = .returned (.bool (l.all okb)) ∧ Below w.heap.size w w' := by
  have hl := h.len
  have hb0 := below_alloc w (.cells #[.int .u8 1] 5)
  have cR := hide (repeat_one w.heap.size (w.alloc (.cells #[.int .u8 1] 5)) (cell_top w _ _ 0 _ rfl))
  have HX := hide h
  have HB0 := hide hb0
  clear h hb0
  go_enter Try.func135, Try.ntmps135
  go_wp2_with fail
  refine (unhide cR).mono ?_
  rintro e w1 ⟨g, cur, rfl, hg0, hg, hcl, hon, hb⟩
  have b1 := (unhide HB0).trans (hb.mono (by simp))
  have hx1 := (unhide HX).later b1
  have hg1 : w.heap.size ≤ g := by simp at hg0; omega
  have HGE := hide hg1
  have HN := hide (show (l.map (Value.int .u8)).length = Nat.min n 20 by rw [List.length_map, hl]; exact (Nat.min_eq_left hn).symm)
  have HP := hide (show 0 < (l.map (Value.int .u8)).length → ∃ ad, ao = some ad ∧ ∀ j v, (l.map (Value.int .u8))[j]? = some v → w1.cell? (ad.add j) = some v by
    intro hp
    rw [List.length_map] at hp
    rcases hx1.at' with h0 | ⟨b, off, e, _⟩
    · omega
    · subst e
      exact ⟨_, rfl, hx1.news⟩)
  have HF := hide (show 0 + (l.map (Value.int .u8)).length ≤ cur.length by rw [List.length_map]; omega)
  have HO := hide (ints_oneCell .u8 l)
  have HG := hide hg
  have HB1 := hide b1
  have HC := hide (And.intro hcl hon)
  have HBY := hide hx1.byt
  have HL := hide hl
  clear hg hb b1 hx1 hcl hon hg0 hg1 HX HB0 cR hl
  go_wp2_with (with_reducible show wpList Try.prog _ _ (Oper.mk (some 8) (Op.call _) _ _ _ none :: _) _ _; refine wpList_copy_splice rfl (.tmp 6) (.tmp 7) 22 22 rfl 5 Try.underlying22 Try.byteOne _ _ 20 20 n c rfl rfl g 0 cur 5 (unhide HG) (l.map (Value.int .u8)) (unhide HN) (fun hp => ⟨rfl, unhide HP hp⟩) (unhide HF) (unhide HO) w.heap.size w (unhide HB1) (unhide HGE) ?_; intro w2 hg2 hb2; have cC := hide (check_any (some ⟨g, 0, none⟩) 20 20 _ w2 (bs_part (unhide HL) hn (unhide HC).2 (unhide HC).1 (unhide HBY) (unhide hg2))); rw [nck_part (by rw [unhide HL]; exact hn)] at cC; have HB2 := hide hb2; clear hg2 hb2)
  refine (unhide cC).mono ?_
  rintro e w3 ⟨rfl, rfl⟩
  cases q : l.all okb
  · rw [if_neg (by simp)]
    go_wp2_with fail
    go_ret
    exact ⟨by rw [q]; rfl, unhide HB2⟩
  · rw [if_pos rfl]
    go_wp2_with fail
    go_ret
    exact ⟨by rw [q]; rfl, unhide HB2⟩

end Go.Proofs.Ytkijdkbkbelliaa
