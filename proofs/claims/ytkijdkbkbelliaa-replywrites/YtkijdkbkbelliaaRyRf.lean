/-
  The document's own answer for replies: the number behind bytes, the EOF, the file. Conditions: the slices can be read; numbers within their kinds; lengths below 2 to the 40.
-/
import Derived.Test.YtkijdkbkbelliaaRyApp
import Derived.Test.YtkijdkbkbelliaaLeWritesRef2
import Derived.Test.YtkijdkbkbelliaaRyMem
import Derived.Deep.RegionHeld3
import Derived.BigQuiet
import Derived.BigRegion
namespace Go.Proofs.Ytkijdkbkbelliaa
open Go.RowKit Go.Shelf
set_option linter.unusedVariables false
set_option linter.unusedSimpArgs false

theorem mine_row0 {B : Nat} {w : World} {g : Nat} (h : w.heap[g]? = some (.cells #[] 5 (0, 0))) (hg : B ≤ g) : Mine B w (some ⟨g, 0, none⟩) 0 0 [] :=
  ⟨rfl, ⟨rfl, .inr ⟨g, 0, #[], rfl, hg, h, Nat.le_refl _, by unfold maxLen; omega, rfl, rfl⟩⟩, Byt.nil⟩
theorem bs_row1 {w : World} {g : Nat} {k : Int} (h : w.heap[g]? = some (.cells #[.int .u8 k] 5 (0, 0))) (h0 : 0 ≤ k) (h1 : k ≤ 255) : Bs w (some ⟨g, 0, none⟩) 1 1 [k] :=
  ⟨rfl, Nat.le_refl _, by omega, (fun e => by cases e), Byt.one h0 h1, .inr ⟨g, 0, rfl, fun i hi => by
    have : i = 0 := by omega
    subst this
    rw [cell_of_row w g _ _ _ _ h]
    rfl⟩⟩

set_option maxHeartbeats 400000 in
theorem fixed_ref (ao : Option Addr) (n c : Nat) (bs : List Int) (x X : Int) (k : Nat) (K M : Int) (w : World) (h : Bs w ao n c bs) (hX : X = x) (hK : K = (k : Int)) (hx0 : 0 ≤ x) (hM : (2 : Int) ^ (8 * k) = M) (hx : x < M) (hM2 : M ≤ 18446744073709551616) (hk1 : 1 ≤ k) (hk8 : k ≤ 8) (hn : n ≤ 1099511627776) :
    Calls Try.prog 74 #[.slice ao n c, .int .u64 X, .int .i64 K] w fun e w' => ∃ ao' c', e = .returned (.slice ao' (n + k) c') ∧ Mine w.heap.size w' ao' (n + k) c' (bs ++ le x k) ∧ Below w.heap.size w w' := by
  subst hK
  rw [hX]
  have cA := hide (appendFixed_ref ao n c bs x (k : Int) w h hx0 (by omega) (by omega) (by omega) (by omega) (by rw [Int.toNat_natCast, hM]; exact hx))
  rw [Int.toNat_natCast] at cA
  clear h hx hM hM2
  go_enter Try.func74, Try.ntmps74
  go_wp2_with fail
  refine (unhide cA).mono ?_
  rintro e w1 ⟨ao1, c1, rfl, hm, hb⟩
  have HM := hide hm
  have HB := hide hb
  clear hm hb cA
  go_wp2_with fail
  go_ret
  exact ⟨ao1, c1, rfl, unhide HM, unhide HB⟩

theorem fixed_rx (l : List Int) (x X : Int) (k : Nat) (K M : Int) (hX : X = x) (hK : K = (k : Int)) (hx : 0 ≤ x ∧ x < M) (hM : (2 : Int) ^ (8 * k) = M) (hM2 : M ≤ 18446744073709551616) (hk1 : 1 ≤ k) (hk8 : k ≤ 8) (hn : l.length ≤ 1099511627776) (w : World) (ao : Option Addr) (n c : Nat) (h : Bs w ao n c l) :
    Calls Try.prog 74 #[.slice ao n c, .int .u64 X, .int .i64 K] w fun e w' => ∃ ao' n' c', e = .returned (.slice ao' n' c') ∧ Mine w.heap.size w' ao' n' c' (l ++ le x k) ∧ Below w.heap.size w w' :=
  (fixed_ref ao n c l x X k K M w h hX hK hx.1 hM hx.2 hM2 hk1 hk8 (by rw [← h.len]; exact hn)).mono fun _ _ ⟨ao', c', e, hm, hb⟩ => ⟨ao', _, c', e, hm, hb⟩
theorem int_rx (l : List Int) (x : Int) (hx : 0 ≤ x ∧ x < 18446744073709551616) (hn : l.length ≤ 1099511627776) (w : World) (ao : Option Addr) (n c : Nat) (h : Bs w ao n c l) :
    Calls Try.prog 73 #[.slice ao n c, .int .u64 x] w fun e w' => ∃ ao' n' c', e = .returned (.slice ao' n' c') ∧ Mine w.heap.size w' ao' n' c' (l ++ form x) ∧ Below w.heap.size w w' :=
  (appendInt_ref ao n c l x w h hx.1 hx.2 (by have := h.len; omega)).mono fun _ _ ⟨ao', c', e, hm, hb⟩ => ⟨ao', _, c', e, hm, hb⟩
theorem text_rx (l : List Int) (s : ByteArray) (hn : l.length + s.size ≤ 1099511627776) (w : World) (ao : Option Addr) (n c : Nat) (h : Bs w ao n c l) :
    Calls Try.prog 76 #[.slice ao n c, .string s] w fun e w' => ∃ ao' n' c', e = .returned (.slice ao' n' c') ∧ Mine w.heap.size w' ao' n' c' (l ++ txB s) ∧ Below w.heap.size w w' :=
  (appendText_ref ao n c l s w h (by have := h.len; omega)).mono fun _ _ ⟨ao', c', e, hm, hb⟩ => ⟨ao', _, c', e, by unfold txB; rwa [← List.append_assoc], hb⟩

set_option maxHeartbeats 8000000 in
set_option maxRecDepth 100000 in
theorem appendEof_ref (bo : Option Addr) (bn bc : Nat) (b : List Int) (p : Eo) (w : World) (hb : Bs w bo bn bc b) (hK : EoK p) (hsz : b.length + 100 ≤ 1099511627776) :
    Calls Try.prog 25 #[.slice bo bn bc, .agg #[.int .u16 p.wa, .int .u16 p.st]] w fun e w' => OutB w (b ++ eoB p) e w' := by
  obtain ⟨w1, hw1⟩ : ∃ z, z = w.alloc (.cells #[.int .u16 p.wa, .int .u16 p.st] 41) := ⟨_, rfl⟩
  have b1 := below_alloc w (.cells #[.int .u16 p.wa, .int .u16 p.st] 41)
  have k0 : w1.cell? ⟨w.heap.size, 0, none⟩ = some (.int .u16 p.wa) := by rw [hw1]; exact cell_top w _ _ 0 _ rfl
  have k1 : w1.cell? ⟨w.heap.size, 1, none⟩ = some (.int .u16 p.st) := by rw [hw1]; exact cell_top w _ _ 1 _ rfl
  have hlt : w.heap.size < w1.heap.size := by rw [hw1]; simp
  rw [← hw1] at b1
  have hbl := hb.len
  have BB1 := hide (hb.later b1)
  have B1 := hide b1
  have HW1 := hide hw1
  have ewa : IntKind.u64.wrap p.wa = p.wa := by have := hK.wa; rw [IntKind.wrap_u64]; omega
  have est : IntKind.u64.wrap p.st = p.st := by have := hK.st; rw [IntKind.wrap_u64]; omega
  obtain ⟨l1, hl1⟩ : ∃ z, z = b ++ [254] := ⟨_, rfl⟩
  have ml1 : l1.length ≤ b.length + 1 := by rw [hl1]; simp
  obtain ⟨l2, hl2⟩ : ∃ z, z = l1 ++ le p.wa 2 := ⟨_, rfl⟩
  have ml2 : l2.length ≤ l1.length + 2 := by rw [hl2, List.length_append, le_length]; exact Nat.le_refl _
  obtain ⟨l3, hl3⟩ : ∃ z, z = l2 ++ le p.st 2 := ⟨_, rfl⟩
  have ml3 : l3.length ≤ l2.length + 2 := by rw [hl3, List.length_append, le_length]; exact Nat.le_refl _
  have HRES := hide (show b ++ eoB p = l3 by subst hl1 hl2 hl3; simp only [eoB, List.append_assoc])
  have cX := hide (fixed_rx l1 p.wa (IntKind.u64.wrap p.wa) 2 2 65536 ewa rfl hK.wa (by decide) (by omega) (by omega) (by omega) (by omega))
  have cY := hide (fixed_rx l2 p.st (IntKind.u64.wrap p.st) 2 2 65536 est rfl hK.st (by decide) (by omega) (by omega) (by omega) (by omega))
  rw [← hl2] at cX
  rw [← hl3] at cY
  have KC := hide (fun (w' : World) (hb : Below w1.heap.size w1 w') => (show w'.cell? ⟨w.heap.size, 0, none⟩ = some (.int .u16 p.wa) ∧ w'.cell? ⟨w.heap.size, 1, none⟩ = some (.int .u16 p.st) from ⟨(hb.cell (p := ⟨w.heap.size, 0, none⟩) hlt).trans k0, (hb.cell (p := ⟨w.heap.size, 1, none⟩) hlt).trans k1⟩))
  have HL1 := hide hl1
  clear hb hK b1 hw1 ewa est hl1 hl2 hl3
  generalize b ++ eoB p = RR at *
  have hbn : bn + 100 ≤ 1099511627776 := by omega
  clear hbl hsz
  go_enter Try.func25, Try.ntmps25
  have bW_a : Below w1.heap.size w1 ((w1.alloc (.cells #[] 5)).drew) := (below_alloc w1 _).drew
  have hR_a : ((w1.alloc (.cells #[] 5)).drew).heap[w1.heap.size]? = some (.cells #[] 5 (0, 0)) := heap_alloc_new w1 _
  have hW_a : w1.heap.size ≤ ((w1.alloc (.cells #[] 5)).drew).heap.size := bW_a.size
  have MA_a := hide (mine_row0 (B := w1.heap.size) hR_a (by omega))
  have BA_a := hide ((unhide BB1).later bW_a)
  have BW_a := hide bW_a
  have bW_b : Below w1.heap.size w1 (((w1.alloc (.cells #[] 5)).alloc (.cells #[.int .u8 254] 5)).drew) := (Below.alloc (below_alloc w1 _) (by simp) _).drew
  have hO_b : (((w1.alloc (.cells #[] 5)).alloc (.cells #[.int .u8 254] 5)).drew).heap[w1.heap.size]? = some (.cells #[] 5) := heap_alloc2_old w1 _ _
  have hN_b : (((w1.alloc (.cells #[] 5)).alloc (.cells #[.int .u8 254] 5)).drew).heap[w1.heap.size + 1]? = some (.cells #[.int .u8 254] 5) := heap_alloc2_new w1 _ _
  have hR_b := hO_b
  have RC_b := hide hN_b
  have hW_b : w1.heap.size ≤ (((w1.alloc (.cells #[] 5)).alloc (.cells #[.int .u8 254] 5)).drew).heap.size := bW_b.size
  have MA_b := hide (mine_row0 (B := w1.heap.size) hR_b (by omega))
  have BA_b := hide ((unhide BB1).later bW_b)
  have BW_b := hide bW_b
  have zW_b : w1.heap.size + 1 < (((w1.alloc (.cells #[] 5)).alloc (.cells #[.int .u8 254] 5)).drew).heap.size := (Array.getElem?_eq_some_iff.1 (unhide RC_b)).1
  have bW_c : Below w1.heap.size w1 (((w1.alloc (.cells #[.int .u8 254] 5)).alloc (.cells #[] 5)).drew) := (Below.alloc (below_alloc w1 _) (by simp) _).drew
  have hO_c : (((w1.alloc (.cells #[.int .u8 254] 5)).alloc (.cells #[] 5)).drew).heap[w1.heap.size]? = some (.cells #[.int .u8 254] 5) := heap_alloc2_old w1 _ _
  have hN_c : (((w1.alloc (.cells #[.int .u8 254] 5)).alloc (.cells #[] 5)).drew).heap[w1.heap.size + 1]? = some (.cells #[] 5) := heap_alloc2_new w1 _ _
  have hR_c := hN_c
  have RC_c := hide hO_c
  have hW_c : w1.heap.size ≤ (((w1.alloc (.cells #[.int .u8 254] 5)).alloc (.cells #[] 5)).drew).heap.size := bW_c.size
  have MA_c := hide (mine_row0 (B := w1.heap.size) hR_c (by omega))
  have BA_c := hide ((unhide BB1).later bW_c)
  have BW_c := hide bW_c
  have zW_c : w1.heap.size < (((w1.alloc (.cells #[.int .u8 254] 5)).alloc (.cells #[] 5)).drew).heap.size := (Array.getElem?_eq_some_iff.1 (unhide RC_c)).1
  clear bW_a bW_b bW_c hR_a hR_b hR_c hO_b hN_b hO_c hN_c
  go_wp2_with fail
  rw [← unhide HW1]
  go_region_held3 (fun w' => w'.cell? ⟨w.heap.size, 0, none⟩ = some (.int .u16 p.wa) ∧ w'.cell? ⟨w.heap.size, 1, none⟩ = some (.int .u16 p.st)) (first | exact unhide KC _ b6 | exact unhide KC _ b5 | exact unhide KC _ b3 | exact unhide KC _ b2 | (refine unhide KC _ ?_; (repeat' (first | with_reducible exact b2 | with_reducible exact b3 | with_reducible exact b5 | with_reducible exact Below.refl _ _ | with_reducible refine Below.drew ?_ | with_reducible refine Below.alloc ?_ ?_ _ | exact Nat.le_refl _ | exact b2.size | exact b3.size | omega | (simp; done) | (simp; omega))); done) | go_keep) (first | (refine step_appK rfl (.tmp 5) (.tmp 6) rfl w1.heap.size (some ⟨w1.heap.size, 0, none⟩) 0 0 [] (by simp [Act.eval, Act.put]) (unhide MA_a) bo bn bc b (by simp [Act.eval, Act.put]) (unhide BA_a) (by omega) hW_a ?_; intro ao2 c2 w2 m2 g2; rw [Nat.zero_add, List.nil_append] at m2; have b2 := (unhide BW_a).trans (mine_grown (unhide MA_a) hW_a g2)) | (refine step_appK rfl (.tmp 5) (.tmp 6) rfl w1.heap.size (some ⟨w1.heap.size, 0, none⟩) 0 0 [] (by simp [Act.eval, Act.put]) (unhide MA_b) bo bn bc b (by simp [Act.eval, Act.put]) (unhide BA_b) (by omega) hW_b ?_; intro ao2 c2 w2 m2 g2; rw [Nat.zero_add, List.nil_append] at m2; have b2 := (unhide BW_b).trans (mine_grown (unhide MA_b) hW_b g2); have r2b := bs_row1 ((g2.block (w1.heap.size + 1) zW_b (by simp [Value.ownBlock])).trans (unhide RC_b)) (by omega) (by omega)) | (refine step_appK rfl (.tmp 5) (.tmp 6) rfl w1.heap.size (some ⟨w1.heap.size + 1, 0, none⟩) 0 0 [] (by simp [Act.eval, Act.put]) (unhide MA_c) bo bn bc b (by simp [Act.eval, Act.put]) (unhide BA_c) (by omega) hW_c ?_; intro ao2 c2 w2 m2 g2; rw [Nat.zero_add, List.nil_append] at m2; have b2 := (unhide BW_c).trans (mine_grown (unhide MA_c) hW_c g2); have r2c := bs_row1 ((g2.block (w1.heap.size) zW_c (by simp [Value.ownBlock])).trans (unhide RC_c)) (by omega) (by omega)) | (refine step_appK rfl (.tmp 7) (.tmp 8) rfl w1.heap.size ao2 bn c2 b (by simp [Act.eval, Act.put]) (m2.later (Below.drew (below_alloc w2 (.cells #[.int .u8 254] 5)))) (some ⟨w2.heap.size, 0, none⟩) 1 1 [254] (by simp [Act.eval, Act.put]) ((Bs.one w2 254 (by omega) (by omega)).later (below_drew _)) (by omega) (Nat.le_trans b2.size (Below.drew (below_alloc w2 (.cells #[.int .u8 254] 5))).size) ?_; intro ao3 c3 w3 m3 g3; rw [← unhide HL1] at m3; have b3 := b2.trans ((Below.mono (Below.drew (below_alloc w2 (.cells #[.int .u8 254] 5))) b2.size).trans (mine_grown (m2.later (Below.drew (below_alloc w2 (.cells #[.int .u8 254] 5)))) (Nat.le_trans b2.size (Below.drew (below_alloc w2 (.cells #[.int .u8 254] 5))).size) g3))) | (refine step_appK rfl (.tmp 7) (.tmp 8) rfl w1.heap.size ao2 bn c2 b (by simp [Act.eval, Act.put]) (m2.later (below_alloc w2 (.cells #[.int .u8 254] 5))) (some ⟨w2.heap.size, 0, none⟩) 1 1 [254] (by simp [Act.eval, Act.put]) (Bs.one w2 254 (by omega) (by omega)) (by omega) (Nat.le_trans b2.size (below_alloc w2 (.cells #[.int .u8 254] 5)).size) ?_; intro ao3 c3 w3 m3 g3; rw [← unhide HL1] at m3; have b3 := b2.trans ((Below.mono (below_alloc w2 (.cells #[.int .u8 254] 5)) b2.size).trans (mine_grown (m2.later (below_alloc w2 (.cells #[.int .u8 254] 5))) (Nat.le_trans b2.size (below_alloc w2 (.cells #[.int .u8 254] 5)).size) g3))) | (refine step_appK rfl (.tmp 7) (.tmp 8) rfl w1.heap.size ao2 bn c2 b (by simp [Act.eval, Act.put]) (m2.later (below_drew w2)) (some ⟨w1.heap.size + 1, 0, none⟩) 1 1 [254] (by simp [Act.eval, Act.put]) (r2b.later (below_drew w2)) (by omega) (Nat.le_trans b2.size (below_drew w2).size) ?_; intro ao3 c3 w3 m3 g3; rw [← unhide HL1] at m3; have b3 := b2.trans ((Below.mono (below_drew w2) b2.size).trans (mine_grown (m2.later (below_drew w2)) (Nat.le_trans b2.size (below_drew w2).size) g3))) | (refine step_appK rfl (.tmp 7) (.tmp 8) rfl w1.heap.size ao2 bn c2 b (by simp [Act.eval, Act.put]) m2 (some ⟨w1.heap.size + 1, 0, none⟩) 1 1 [254] (by simp [Act.eval, Act.put]) r2b (by omega) (Nat.le_trans b2.size (Below.refl w2.heap.size w2).size) ?_; intro ao3 c3 w3 m3 g3; rw [← unhide HL1] at m3; have b3 := b2.trans ((Below.mono (Below.refl w2.heap.size w2) b2.size).trans (mine_grown m2 (Nat.le_trans b2.size (Below.refl w2.heap.size w2).size) g3))) | (refine step_appK rfl (.tmp 7) (.tmp 8) rfl w1.heap.size ao2 bn c2 b (by simp [Act.eval, Act.put]) (m2.later (below_drew w2)) (some ⟨w1.heap.size, 0, none⟩) 1 1 [254] (by simp [Act.eval, Act.put]) (r2c.later (below_drew w2)) (by omega) (Nat.le_trans b2.size (below_drew w2).size) ?_; intro ao3 c3 w3 m3 g3; rw [← unhide HL1] at m3; have b3 := b2.trans ((Below.mono (below_drew w2) b2.size).trans (mine_grown (m2.later (below_drew w2)) (Nat.le_trans b2.size (below_drew w2).size) g3))) | (refine step_appK rfl (.tmp 7) (.tmp 8) rfl w1.heap.size ao2 bn c2 b (by simp [Act.eval, Act.put]) m2 (some ⟨w1.heap.size, 0, none⟩) 1 1 [254] (by simp [Act.eval, Act.put]) r2c (by omega) (Nat.le_trans b2.size (Below.refl w2.heap.size w2).size) ?_; intro ao3 c3 w3 m3 g3; rw [← unhide HL1] at m3; have b3 := b2.trans ((Below.mono (Below.refl w2.heap.size w2) b2.size).trans (mine_grown m2 (Nat.le_trans b2.size (Below.refl w2.heap.size w2).size) g3))) | (go_at_call 74; with_reducible show Calls Try.prog 74 #[.slice ao3 _ c3, .int .u64 (IntKind.u64.wrap p.wa), _] w3 _; refine (unhide cX w3 ao3 _ c3 (m3.bs)).mono ?_; rintro e w5 ⟨ao5, n5, c5, rfl, m5, b50⟩; have b5 := b3.trans (Below.mono (b50) b3.size)) | (go_at_call 74; with_reducible show Calls Try.prog 74 #[.slice ao3 _ c3, .int .u64 (IntKind.u64.wrap p.wa), _] w3.drew _; refine (unhide cX w3.drew ao3 _ c3 (m3.bs.later (below_drew w3))).mono ?_; rintro e w5 ⟨ao5, n5, c5, rfl, m5, b50⟩; have b5 := b3.trans (Below.mono ((below_drew w3).trans b50) b3.size)) | (go_at_call 74; with_reducible show Calls Try.prog 74 #[.slice ao5 _ c5, .int .u64 (IntKind.u64.wrap p.st), _] w5 _; refine (unhide cY w5 ao5 _ c5 (m5.bs)).mono ?_; rintro e w6 ⟨ao6, n6, c6, rfl, m6, b60⟩; have b6 := b5.trans (Below.mono (b60) b5.size)) | (go_at_call 74; with_reducible show Calls Try.prog 74 #[.slice ao5 _ c5, .int .u64 (IntKind.u64.wrap p.st), _] w5.drew _; refine (unhide cY w5.drew ao5 _ c5 (m5.bs.later (below_drew w5))).mono ?_; rintro e w6 ⟨ao6, n6, c6, rfl, m6, b60⟩; have b6 := b5.trans (Below.mono ((below_drew w5).trans b60) b5.size)))
  all_goals
    have MQ := hide m6
    have BQ := hide b6
    clear m6 b6
    go_wp2_with fail
    go_ret
    rw [unhide HRES]
    exact ⟨_, _, _, rfl, (unhide MQ).mono (Nat.le_trans (Nat.le_of_lt hlt) b5.size), (unhide B1).trans ((unhide BQ).mono (Nat.le_of_lt hlt))⟩

set_option maxHeartbeats 8000000 in
set_option maxRecDepth 100000 in
theorem appendFile_ref (bo : Option Addr) (bn bc : Nat) (b : List Int) (s : ByteArray) (w : World) (hb : Bs w bo bn bc b) (hsz : b.length + s.size + 100 ≤ 1099511627776) :
    Calls Try.prog 24 #[.slice bo bn bc, .string s] w fun e w' => OutP w (if fOk s = true then some (b ++ fiB s) else none) e w' := by
  have hbl := hb.len
  by_cases q : s.size = 0
  · rw [if_neg (show ¬ fOk s = true by unfold fOk; simpa using q)]
    have q1 : s.toList.isEmpty = true := by rw [ba_isEmpty]; simpa using q
    clear hb q hbl
    go_enter Try.func24, Try.ntmps24
    go_wp2_with fail
    go_ret2
    exact ⟨rfl, Below.refl _ _⟩
  · rw [if_pos (show fOk s = true by unfold fOk; simpa using q)]
    have q1 : s.toList.isEmpty = false := by rw [ba_isEmpty]; simpa using q
    have hb0 := below_alloc w (.cells #[] 5)
    have HB0 := hide hb0
    have hm0 := hide (Mine.empty w)
    have HS0 := hide (hb.later hb0)
    have hbn : bn + s.size + 100 ≤ 1099511627776 := by omega
    have HR := hide (show b ++ fiB s = b ++ [251] ++ nums s by unfold fiB; rw [List.append_assoc])
    generalize b ++ fiB s = RR at *
    clear hb q hb0 hbl hsz
    go_enter Try.func24, Try.ntmps24
    go_wp2_with (first
      | (at_builtin; refine wpList_app rfl (.tmp 8) (.tmp 9) rfl w.heap.size _ _ _ _ rfl (unhide hm0) _ _ _ _ rfl (unhide HS0) (by omega) (by simp) ?_; intro ao1 c1 w1 m1 b1; rw [Nat.zero_add, List.nil_append] at m1; have M1 := hide m1; have B1 := hide ((unhide HB0).trans b1); have hz1 := (unhide B1).size; clear m1 b1)
      | (at_builtin; refine wpList_app rfl (.tmp 10) (.tmp 11) rfl w.heap.size _ _ _ _ rfl ((unhide M1).later (below_alloc w1 _)) _ _ _ _ rfl (Bs.one w1 251 (by omega) (by omega)) (by omega) (by simp; omega) ?_; intro ao2 c2 w2 m2 b2; have M2 := hide m2; have B2 := hide (((unhide B1).trans ((below_alloc w1 _).mono hz1)).trans b2); have hz2 := (unhide B2).size; clear m2 b2)
      | (at_builtin; refine wpList_appTG rfl (.tmp 12) (.tmp 13) rfl w.heap.size _ _ _ _ rfl (unhide M2) s rfl (by omega) hz2 ?_; intro ao3 c3 w3 m3 g3; have M3 := hide m3; have B3 := hide ((unhide B2).trans (mine_grown (unhide M2) hz2 g3)); clear m3 g3))
    go_ret2
    rw [unhide HR]
    exact ⟨_, _, _, rfl, unhide M3, unhide B3⟩

set_option maxHeartbeats 8000000 in
set_option maxRecDepth 100000 in
theorem appendErr_ref (bo : Option Addr) (bn bc : Nat) (b : List Int) (p : Er) (w : World) (hb : Bs w bo bn bc b) (hK : 0 ≤ p.co ∧ p.co < 65536) (hsz : b.length + p.st.size + p.tx.size + 100 ≤ 1099511627776) :
    Calls Try.prog 23 #[.slice bo bn bc, .agg #[.int .u16 p.co, .string p.st, .string p.tx]] w fun e w' => OutP w (if eOk p = true then some (b ++ erB p) else none) e w' := by
  obtain ⟨w1, hw1⟩ : ∃ z, z = w.alloc (.cells #[.int .u16 p.co, .string p.st, .string p.tx] 35) := ⟨_, rfl⟩
  have b1 := below_alloc w (.cells #[.int .u16 p.co, .string p.st, .string p.tx] 35)
  have k0 : w1.cell? ⟨w.heap.size, 0, none⟩ = some (.int .u16 p.co) := by rw [hw1]; exact cell_top w _ _ 0 _ rfl
  have k1 : w1.cell? ⟨w.heap.size, 1, none⟩ = some (.string p.st) := by rw [hw1]; exact cell_top w _ _ 1 _ rfl
  have k2 : w1.cell? ⟨w.heap.size, 2, none⟩ = some (.string p.tx) := by rw [hw1]; exact cell_top w _ _ 2 _ rfl
  have hlt : w.heap.size < w1.heap.size := by rw [hw1]; simp
  rw [← hw1] at b1
  have hbl := hb.len
  have BB1 := hide (hb.later b1)
  have B1 := hide b1
  have HW1 := hide hw1
  by_cases q : p.st.size = 5
  rotate_left
  · rw [if_neg (show ¬ eOk p = true by unfold eOk; simpa using q)]
    have q1 : ((p.st.size : Int) != 5) = true := by simp; omega
    have b1 := below_alloc w (.cells #[.int .u16 p.co, .string p.st, .string p.tx] 35)
    have B1 := hide b1
    clear hb q hbl b1 k0 k1 k2 hw1
    go_enter Try.func23, Try.ntmps23
    go_wp2_with fail
    go_ret2
    exact ⟨rfl, unhide B1⟩
  rw [if_pos (show eOk p = true by unfold eOk; simpa using q)]
  have q1 : ((p.st.size : Int) != 5) = false := by simp; omega
  have eco : IntKind.u64.wrap p.co = p.co := by rw [IntKind.wrap_u64]; omega
  obtain ⟨l1, hl1⟩ : ∃ z, z = b ++ [255] := ⟨_, rfl⟩
  have ml1 : l1.length ≤ b.length + 1 := by rw [hl1]; simp
  obtain ⟨l2, hl2⟩ : ∃ z, z = l1 ++ le p.co 2 := ⟨_, rfl⟩
  have ml2 : l2.length ≤ l1.length + 2 := by rw [hl2, List.length_append, le_length]; exact Nat.le_refl _
  obtain ⟨l3, hl3⟩ : ∃ z, z = l2 ++ [35] := ⟨_, rfl⟩
  have ml3 : l3.length ≤ l2.length + 1 := by rw [hl3]; simp
  obtain ⟨l4, hl4⟩ : ∃ z, z = l3 ++ nums p.st := ⟨_, rfl⟩
  have ml4 : l4.length ≤ l3.length + p.st.size := by rw [hl4, List.length_append, nums_length]; exact Nat.le_refl _
  obtain ⟨l5, hl5⟩ : ∃ z, z = l4 ++ nums p.tx := ⟨_, rfl⟩
  have ml5 : l5.length ≤ l4.length + p.tx.size := by rw [hl5, List.length_append, nums_length]; exact Nat.le_refl _
  have HRES := hide (show b ++ erB p = l5 by subst hl1 hl2 hl3 hl4 hl5; simp only [erB, List.append_assoc])
  have cX := hide (fixed_rx l1 p.co (IntKind.u64.wrap p.co) 2 2 65536 eco rfl hK (by decide) (by omega) (by omega) (by omega) (by omega))
  rw [← hl2] at cX
  have KC := hide (fun (w' : World) (hb : Below w1.heap.size w1 w') => (show w'.cell? ⟨w.heap.size, 0, none⟩ = some (.int .u16 p.co) ∧ w'.cell? ⟨w.heap.size, 1, none⟩ = some (.string p.st) ∧ w'.cell? ⟨w.heap.size, 2, none⟩ = some (.string p.tx) from ⟨(hb.cell (p := ⟨w.heap.size, 0, none⟩) hlt).trans k0, (hb.cell (p := ⟨w.heap.size, 1, none⟩) hlt).trans k1, (hb.cell (p := ⟨w.heap.size, 2, none⟩) hlt).trans k2⟩))
  have HL1 := hide hl1
  have HL3 := hide hl3
  have HL4 := hide hl4
  have HL5 := hide hl5
  have hbn : bn + p.st.size + p.tx.size + 100 ≤ 1099511627776 := by omega
  have LN := hide (show l2.length ≤ bn + 3 by omega)
  clear hb hK b1 hw1 eco hl1 hl2 hl3 hl4 hl5 hbl hsz q ml1 ml2 ml3 ml4 ml5
  generalize b ++ erB p = RR at *
  have HBX := hide (show k0 = k0 from rfl)
  clear HBX
  go_enter Try.func23, Try.ntmps23
  have k0a := cell_top w #[.int .u16 p.co, .string p.st, .string p.tx] 35 1 _ rfl
  go_upto_region 3 with fail
  rw [← unhide HW1]
  clear k0a
  go_cut [6] (fun v wx => ∃ ao n c, v = .slice ao n c ∧ Mine w1.heap.size wx ao n c l2 ∧ Below w1.heap.size w1 wx)
  case first =>
    have bW_a : Below w1.heap.size w1 ((w1.alloc (.cells #[] 5)).drew) := (below_alloc w1 _).drew
    have hR_a : ((w1.alloc (.cells #[] 5)).drew).heap[w1.heap.size]? = some (.cells #[] 5 (0, 0)) := heap_alloc_new w1 _
    have hW_a : w1.heap.size ≤ ((w1.alloc (.cells #[] 5)).drew).heap.size := bW_a.size
    have MA_a := hide (mine_row0 (B := w1.heap.size) hR_a (by omega))
    have BA_a := hide ((unhide BB1).later bW_a)
    have BW_a := hide bW_a
    have bW_b : Below w1.heap.size w1 (((w1.alloc (.cells #[] 5)).alloc (.cells #[.int .u8 255] 5)).drew) := (Below.alloc (below_alloc w1 _) (by simp) _).drew
    have hO_b : (((w1.alloc (.cells #[] 5)).alloc (.cells #[.int .u8 255] 5)).drew).heap[w1.heap.size]? = some (.cells #[] 5) := heap_alloc2_old w1 _ _
    have hN_b : (((w1.alloc (.cells #[] 5)).alloc (.cells #[.int .u8 255] 5)).drew).heap[w1.heap.size + 1]? = some (.cells #[.int .u8 255] 5) := heap_alloc2_new w1 _ _
    have hR_b := hO_b
    have RC_b := hide hN_b
    have hW_b : w1.heap.size ≤ (((w1.alloc (.cells #[] 5)).alloc (.cells #[.int .u8 255] 5)).drew).heap.size := bW_b.size
    have MA_b := hide (mine_row0 (B := w1.heap.size) hR_b (by omega))
    have BA_b := hide ((unhide BB1).later bW_b)
    have BW_b := hide bW_b
    have zW_b : w1.heap.size + 1 < (((w1.alloc (.cells #[] 5)).alloc (.cells #[.int .u8 255] 5)).drew).heap.size := (Array.getElem?_eq_some_iff.1 (unhide RC_b)).1
    have bW_c : Below w1.heap.size w1 (((w1.alloc (.cells #[.int .u8 255] 5)).alloc (.cells #[] 5)).drew) := (Below.alloc (below_alloc w1 _) (by simp) _).drew
    have hO_c : (((w1.alloc (.cells #[.int .u8 255] 5)).alloc (.cells #[] 5)).drew).heap[w1.heap.size]? = some (.cells #[.int .u8 255] 5) := heap_alloc2_old w1 _ _
    have hN_c : (((w1.alloc (.cells #[.int .u8 255] 5)).alloc (.cells #[] 5)).drew).heap[w1.heap.size + 1]? = some (.cells #[] 5) := heap_alloc2_new w1 _ _
    have hR_c := hN_c
    have RC_c := hide hO_c
    have hW_c : w1.heap.size ≤ (((w1.alloc (.cells #[.int .u8 255] 5)).alloc (.cells #[] 5)).drew).heap.size := bW_c.size
    have MA_c := hide (mine_row0 (B := w1.heap.size) hR_c (by omega))
    have BA_c := hide ((unhide BB1).later bW_c)
    have BW_c := hide bW_c
    have zW_c : w1.heap.size < (((w1.alloc (.cells #[.int .u8 255] 5)).alloc (.cells #[] 5)).drew).heap.size := (Array.getElem?_eq_some_iff.1 (unhide RC_c)).1
    clear bW_a bW_b bW_c hR_a hR_b hR_c hO_b hN_b hO_c hN_c
    go_wp2_with fail
    go_region_held3 (fun w' => w'.cell? ⟨w.heap.size, 0, none⟩ = some (.int .u16 p.co) ∧ w'.cell? ⟨w.heap.size, 1, none⟩ = some (.string p.st) ∧ w'.cell? ⟨w.heap.size, 2, none⟩ = some (.string p.tx)) (first | exact unhide KC _ b6 | exact unhide KC _ b5 | exact unhide KC _ b3 | exact unhide KC _ b2 | (refine unhide KC _ ?_; (repeat' (first | with_reducible exact b2 | with_reducible exact b3 | with_reducible exact b5 | with_reducible exact Below.refl _ _ | with_reducible refine Below.drew ?_ | with_reducible refine Below.alloc ?_ ?_ _ | exact Nat.le_refl _ | exact b2.size | exact b3.size | omega | (simp; done) | (simp; omega))); done) | go_keep) (first | (refine step_appK rfl (.tmp 11) (.tmp 12) rfl w1.heap.size (some ⟨w1.heap.size, 0, none⟩) 0 0 [] (by simp [Act.eval, Act.put]) (unhide MA_a) bo bn bc b (by simp [Act.eval, Act.put]) (unhide BA_a) (by omega) hW_a ?_; intro ao2 c2 w2 m2 g2; rw [Nat.zero_add, List.nil_append] at m2; have b2 := (unhide BW_a).trans (mine_grown (unhide MA_a) hW_a g2)) | (refine step_appK rfl (.tmp 11) (.tmp 12) rfl w1.heap.size (some ⟨w1.heap.size, 0, none⟩) 0 0 [] (by simp [Act.eval, Act.put]) (unhide MA_b) bo bn bc b (by simp [Act.eval, Act.put]) (unhide BA_b) (by omega) hW_b ?_; intro ao2 c2 w2 m2 g2; rw [Nat.zero_add, List.nil_append] at m2; have b2 := (unhide BW_b).trans (mine_grown (unhide MA_b) hW_b g2); have r2b := bs_row1 ((g2.block (w1.heap.size + 1) zW_b (by simp [Value.ownBlock])).trans (unhide RC_b)) (by omega) (by omega)) | (refine step_appK rfl (.tmp 11) (.tmp 12) rfl w1.heap.size (some ⟨w1.heap.size + 1, 0, none⟩) 0 0 [] (by simp [Act.eval, Act.put]) (unhide MA_c) bo bn bc b (by simp [Act.eval, Act.put]) (unhide BA_c) (by omega) hW_c ?_; intro ao2 c2 w2 m2 g2; rw [Nat.zero_add, List.nil_append] at m2; have b2 := (unhide BW_c).trans (mine_grown (unhide MA_c) hW_c g2); have r2c := bs_row1 ((g2.block (w1.heap.size) zW_c (by simp [Value.ownBlock])).trans (unhide RC_c)) (by omega) (by omega)) | (refine step_appK rfl (.tmp 13) (.tmp 14) rfl w1.heap.size ao2 bn c2 b (by simp [Act.eval, Act.put]) (m2.later (Below.drew (below_alloc w2 (.cells #[.int .u8 255] 5)))) (some ⟨w2.heap.size, 0, none⟩) 1 1 [255] (by simp [Act.eval, Act.put]) ((Bs.one w2 255 (by omega) (by omega)).later (below_drew _)) (by omega) (Nat.le_trans b2.size (Below.drew (below_alloc w2 (.cells #[.int .u8 255] 5))).size) ?_; intro ao3 c3 w3 m3 g3; rw [← unhide HL1] at m3; have b3 := b2.trans ((Below.mono (Below.drew (below_alloc w2 (.cells #[.int .u8 255] 5))) b2.size).trans (mine_grown (m2.later (Below.drew (below_alloc w2 (.cells #[.int .u8 255] 5)))) (Nat.le_trans b2.size (Below.drew (below_alloc w2 (.cells #[.int .u8 255] 5))).size) g3))) | (refine step_appK rfl (.tmp 13) (.tmp 14) rfl w1.heap.size ao2 bn c2 b (by simp [Act.eval, Act.put]) (m2.later (below_alloc w2 (.cells #[.int .u8 255] 5))) (some ⟨w2.heap.size, 0, none⟩) 1 1 [255] (by simp [Act.eval, Act.put]) (Bs.one w2 255 (by omega) (by omega)) (by omega) (Nat.le_trans b2.size (below_alloc w2 (.cells #[.int .u8 255] 5)).size) ?_; intro ao3 c3 w3 m3 g3; rw [← unhide HL1] at m3; have b3 := b2.trans ((Below.mono (below_alloc w2 (.cells #[.int .u8 255] 5)) b2.size).trans (mine_grown (m2.later (below_alloc w2 (.cells #[.int .u8 255] 5))) (Nat.le_trans b2.size (below_alloc w2 (.cells #[.int .u8 255] 5)).size) g3))) | (refine step_appK rfl (.tmp 13) (.tmp 14) rfl w1.heap.size ao2 bn c2 b (by simp [Act.eval, Act.put]) (m2.later (below_drew w2)) (some ⟨w1.heap.size + 1, 0, none⟩) 1 1 [255] (by simp [Act.eval, Act.put]) (r2b.later (below_drew w2)) (by omega) (Nat.le_trans b2.size (below_drew w2).size) ?_; intro ao3 c3 w3 m3 g3; rw [← unhide HL1] at m3; have b3 := b2.trans ((Below.mono (below_drew w2) b2.size).trans (mine_grown (m2.later (below_drew w2)) (Nat.le_trans b2.size (below_drew w2).size) g3))) | (refine step_appK rfl (.tmp 13) (.tmp 14) rfl w1.heap.size ao2 bn c2 b (by simp [Act.eval, Act.put]) m2 (some ⟨w1.heap.size + 1, 0, none⟩) 1 1 [255] (by simp [Act.eval, Act.put]) r2b (by omega) (Nat.le_trans b2.size (Below.refl w2.heap.size w2).size) ?_; intro ao3 c3 w3 m3 g3; rw [← unhide HL1] at m3; have b3 := b2.trans ((Below.mono (Below.refl w2.heap.size w2) b2.size).trans (mine_grown m2 (Nat.le_trans b2.size (Below.refl w2.heap.size w2).size) g3))) | (refine step_appK rfl (.tmp 13) (.tmp 14) rfl w1.heap.size ao2 bn c2 b (by simp [Act.eval, Act.put]) (m2.later (below_drew w2)) (some ⟨w1.heap.size, 0, none⟩) 1 1 [255] (by simp [Act.eval, Act.put]) (r2c.later (below_drew w2)) (by omega) (Nat.le_trans b2.size (below_drew w2).size) ?_; intro ao3 c3 w3 m3 g3; rw [← unhide HL1] at m3; have b3 := b2.trans ((Below.mono (below_drew w2) b2.size).trans (mine_grown (m2.later (below_drew w2)) (Nat.le_trans b2.size (below_drew w2).size) g3))) | (refine step_appK rfl (.tmp 13) (.tmp 14) rfl w1.heap.size ao2 bn c2 b (by simp [Act.eval, Act.put]) m2 (some ⟨w1.heap.size, 0, none⟩) 1 1 [255] (by simp [Act.eval, Act.put]) r2c (by omega) (Nat.le_trans b2.size (Below.refl w2.heap.size w2).size) ?_; intro ao3 c3 w3 m3 g3; rw [← unhide HL1] at m3; have b3 := b2.trans ((Below.mono (Below.refl w2.heap.size w2) b2.size).trans (mine_grown m2 (Nat.le_trans b2.size (Below.refl w2.heap.size w2).size) g3))) | (go_at_call 74; with_reducible show Calls Try.prog 74 #[.slice ao3 _ c3, .int .u64 (IntKind.u64.wrap p.co), _] w3 _; refine (unhide cX w3 ao3 _ c3 (m3.bs)).mono ?_; rintro e w5 ⟨ao5, n5, c5, rfl, m5, b50⟩; have b5 := b3.trans (Below.mono (b50) b3.size)) | (go_at_call 74; with_reducible show Calls Try.prog 74 #[.slice ao3 _ c3, .int .u64 (IntKind.u64.wrap p.co), _] w3.drew _; refine (unhide cX w3.drew ao3 _ c3 (m3.bs.later (below_drew w3))).mono ?_; rintro e w5 ⟨ao5, n5, c5, rfl, m5, b50⟩; have b5 := b3.trans (Below.mono ((below_drew w3).trans b50) b3.size)))
    all_goals have MQ := hide (m5.mono (B' := w1.heap.size) b3.size)
    all_goals have BQ := hide b5
    all_goals clear m5 b5
    all_goals go_wp2_with fail
    all_goals go_meet
    all_goals exact ⟨_, _, _, rfl, unhide MQ, unhide BQ⟩
  obtain ⟨ao5, n5, c5, rfl, m5, b5⟩ := hcut
  have hn5 : n5 ≤ bn + 3 := by rw [← m5.len]; exact unhide LN
  go_wp2_with fail
  go_region_held3 (fun w' => w'.cell? ⟨w.heap.size, 0, none⟩ = some (.int .u16 p.co) ∧ w'.cell? ⟨w.heap.size, 1, none⟩ = some (.string p.st) ∧ w'.cell? ⟨w.heap.size, 2, none⟩ = some (.string p.tx)) (first | exact unhide KC _ b8 | exact unhide KC _ b7 | exact unhide KC _ b6 | exact unhide KC _ b5 | (refine unhide KC _ ?_; (repeat' (first | with_reducible exact b8 | with_reducible exact b7 | with_reducible exact b6 | with_reducible exact b5 | with_reducible exact Below.refl _ _ | with_reducible refine Below.drew ?_ | with_reducible refine Below.alloc ?_ ?_ _ | exact Nat.le_refl _ | exact b8.size | exact b7.size | exact b6.size | exact b5.size | omega | (simp; done) | (simp; omega))); done) | go_keep) (first | (refine step_appK rfl (.tmp 20) (.tmp 21) rfl w1.heap.size ao5 n5 c5 l2 (by simp [Act.eval, Act.put]) (m5.later (Below.drew (below_alloc _ (.cells #[.int .u8 35] 5)))) _ 1 1 [35] (by simp [Act.eval, Act.put]) ((Bs.one _ 35 (by omega) (by omega)).later (below_drew _)) (by omega) (Nat.le_trans b5.size (Below.drew (below_alloc _ (.cells #[.int .u8 35] 5))).size) ?_; intro ao6 c6 w6 m6 g6; rw [← unhide HL3] at m6; have b6 := b5.trans ((Below.mono (Below.drew (below_alloc _ (.cells #[.int .u8 35] 5))) b5.size).trans (mine_grown (m5.later (Below.drew (below_alloc _ (.cells #[.int .u8 35] 5)))) (Nat.le_trans b5.size (Below.drew (below_alloc _ (.cells #[.int .u8 35] 5))).size) g6))) | (refine step_appK rfl (.tmp 20) (.tmp 21) rfl w1.heap.size ao5 n5 c5 l2 (by simp [Act.eval, Act.put]) (m5.later (below_alloc _ (.cells #[.int .u8 35] 5))) _ 1 1 [35] (by simp [Act.eval, Act.put]) (Bs.one _ 35 (by omega) (by omega)) (by omega) (Nat.le_trans b5.size (below_alloc _ (.cells #[.int .u8 35] 5)).size) ?_; intro ao6 c6 w6 m6 g6; rw [← unhide HL3] at m6; have b6 := b5.trans ((Below.mono (below_alloc _ (.cells #[.int .u8 35] 5)) b5.size).trans (mine_grown (m5.later (below_alloc _ (.cells #[.int .u8 35] 5))) (Nat.le_trans b5.size (below_alloc _ (.cells #[.int .u8 35] 5)).size) g6))) | (refine step_appT rfl (.tmp 22) (.tmp 24) rfl w1.heap.size ao6 _ c6 l3 (by simp [Act.eval, Act.put]) m6 p.st (by simp [Act.eval, Act.put]) (by omega) b6.size ?_; intro ao7 c7 w7 m7 g7; rw [← unhide HL4] at m7; have b7 := b6.trans (mine_grown m6 b6.size g7)) | (refine step_appT rfl (.tmp 25) (.tmp 27) rfl w1.heap.size ao7 _ c7 l4 (by simp [Act.eval, Act.put]) m7 p.tx (by simp [Act.eval, Act.put]) (by omega) b7.size ?_; intro ao8 c8 w8 m8 g8; rw [← unhide HL5] at m8; have b8 := b7.trans (mine_grown m7 b7.size g8)))
  all_goals
    have MQ := hide m8
    have BQ := hide b8
    clear m8 b8
    go_wp2_with fail
    go_ret2
    rw [unhide HRES]
    exact ⟨_, _, _, rfl, (unhide MQ).mono (Nat.le_of_lt hlt), (unhide B1).trans ((unhide BQ).mono (Nat.le_of_lt hlt))⟩

end Go.Proofs.Ytkijdkbkbelliaa
