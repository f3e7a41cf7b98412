/-
  The document's own answer for columns: Check, AppendCount, Append. They write nothing that was there. Conditions: the slices can be read; lengths below 100,000.
-/
import Derived.Test.YtgdjeooiimjjcaaDoorClApp
import Derived.Test.YtgdjeooiimjjcaaDoorClRn
import Derived.Test.YtgdjeooiimjjcaaDoorClBack
import Derived.Test.YtgdjeooiimjjcaaDoorRyMem
import Derived.Test.YtgdjeooiimjjcaaDoorLeWritesRef2
import Derived.Deep.RegionHeld3
import Derived.Deep.CutRange
import Derived.Deep.DeepCutAuto
import Derived.BigQuiet
import Derived.BigRegion
namespace Go.Proofs.YtgdjeooiimjjcaaDoor
open Go.RowKit Go.Shelf
set_option linter.unusedVariables false
set_option linter.unusedSimpArgs false

theorem mine_row0 {B : Nat} {w : World} {g : Nat} (h : w.heap[g]? = some (.cells #[] 5 (0, 0))) (hg : B ≤ g) : Mine B w (some ⟨g, 0, none⟩) 0 0 [] :=
  ⟨rfl, ⟨rfl, .inr ⟨g, 0, #[], rfl, hg, h, Nat.le_refl _, by unfold maxLen; omega, rfl, rfl⟩⟩, Byt.nil⟩
theorem bs_row1 {w : World} {g : Nat} {k : Int} (h : w.heap[g]? = some (.cells #[.int .u8 k] 5 (0, 0))) (h0 : 0 ≤ k) (h1 : k ≤ 255) : Bs w (some ⟨g, 0, none⟩) 1 1 [k] :=
  ⟨rfl, Nat.le_refl _, by omega, (fun e => by cases e), Byt.one h0 h1, .inr ⟨g, 0, rfl, fun i hi => by
    have : i = 0 := by omega
    subst this
    rw [cell_of_row w g _ _ _ _ h]
    rfl⟩⟩

set_option maxHeartbeats 400000 in
theorem fixed_ref (ao : Option Addr) (n c : Nat) (bs : List Int) (x X : Int) (k : Nat) (K M : Int) (w : World) (h : Bs w ao n c bs) (hX : X = x) (hK : K = (k : Int)) (hx0 : 0 ≤ x) (hM : (2 : Int) ^ (8 * k) = M) (hx : x < M) (hM2 : M ≤ 18446744073709551616) (hk1 : 1 ≤ k) (hk8 : k ≤ 8) (hn : n ≤ 1099511627776) :
    Calls Tryd.prog 30 #[.slice ao n c, .int .u64 X, .int .i64 K] w fun e w' => ∃ ao' c', e = .returned (.slice ao' (n + k) c') ∧ Mine w.heap.size w' ao' (n + k) c' (bs ++ le x k) ∧ Below w.heap.size w w' := by
  subst hK
  rw [hX]
  have cA := hide (appendFixed_ref ao n c bs x (k : Int) w h hx0 (by omega) (by omega) (by omega) (by omega) (by rw [Int.toNat_natCast, hM]; exact hx))
  rw [Int.toNat_natCast] at cA
  clear h hx hM hM2
  go_enter Tryd.func30, Tryd.ntmps30
  go_wp2_with fail
  refine (unhide cA).mono ?_
  rintro e w1 ⟨ao1, c1, rfl, hm, hb⟩
  have HM := hide hm
  have HB := hide hb
  clear hm hb cA
  go_wp2_with fail
  go_ret
  exact ⟨ao1, c1, rfl, unhide HM, unhide HB⟩

theorem fixed_rx (l : List Int) (x X : Int) (k : Nat) (K M : Int) (hX : X = x) (hK : K = (k : Int)) (hx : 0 ≤ x ∧ x < M) (hM : (2 : Int) ^ (8 * k) = M) (hM2 : M ≤ 18446744073709551616) (hk1 : 1 ≤ k) (hk8 : k ≤ 8) (hn : l.length ≤ 1099511627776) (w : World) (ao : Option Addr) (n c : Nat) (h : Bs w ao n c l) :
    Calls Tryd.prog 30 #[.slice ao n c, .int .u64 X, .int .i64 K] w fun e w' => ∃ ao' n' c', e = .returned (.slice ao' n' c') ∧ Mine w.heap.size w' ao' n' c' (l ++ le x k) ∧ Below w.heap.size w w' :=
  (fixed_ref ao n c l x X k K M w h hX hK hx.1 hM hx.2 hM2 hk1 hk8 (by rw [← h.len]; exact hn)).mono fun _ _ ⟨ao', c', e, hm, hb⟩ => ⟨ao', _, c', e, hm, hb⟩
theorem int_rx (l : List Int) (x : Int) (hx : 0 ≤ x ∧ x < 18446744073709551616) (hn : l.length ≤ 1099511627776) (w : World) (ao : Option Addr) (n c : Nat) (h : Bs w ao n c l) :
    Calls Tryd.prog 31 #[.slice ao n c, .int .u64 x] w fun e w' => ∃ ao' n' c', e = .returned (.slice ao' n' c') ∧ Mine w.heap.size w' ao' n' c' (l ++ form x) ∧ Below w.heap.size w w' :=
  (appendInt_ref ao n c l x w h hx.1 hx.2 (by have := h.len; omega)).mono fun _ _ ⟨ao', c', e, hm, hb⟩ => ⟨ao', _, c', e, hm, hb⟩
theorem text_rx (l : List Int) (s : ByteArray) (hn : l.length + s.size ≤ 1099511627776) (w : World) (ao : Option Addr) (n c : Nat) (h : Bs w ao n c l) :
    Calls Tryd.prog 29 #[.slice ao n c, .string s] w fun e w' => ∃ ao' n' c', e = .returned (.slice ao' n' c') ∧ Mine w.heap.size w' ao' n' c' (l ++ txB s) ∧ Below w.heap.size w w' :=
  (appendText_ref ao n c l s w h (by have := h.len; omega)).mono fun _ _ ⟨ao', c', e, hm, hb⟩ => ⟨ao', _, c', e, by unfold txB; rwa [← List.append_assoc], hb⟩

set_option maxHeartbeats 4000000 in
set_option maxRecDepth 100000 in
theorem check_ref (p : Co) (w : World) (hK : CoK p) : Calls Tryd.prog 18 #[.agg #[.string p.sc, .string p.ta, .string p.ot, .string p.na, .string p.on, .int .u16 p.ch, .int .u32 p.le, .int .u8 p.ty, .int .u16 p.fl, .int .u8 p.de]] w fun e w' => e = .returned (.int .i64 (if cOk p = true then 0 else 2)) ∧ Below w.heap.size w w' := by
  obtain ⟨w1, hw1⟩ : ∃ z, z = w.alloc (.cells #[.string p.sc, .string p.ta, .string p.ot, .string p.na, .string p.on, .int .u16 p.ch, .int .u32 p.le, .int .u8 p.ty, .int .u16 p.fl, .int .u8 p.de] 35) := ⟨_, rfl⟩
  have b1 := below_alloc w (.cells #[.string p.sc, .string p.ta, .string p.ot, .string p.na, .string p.on, .int .u16 p.ch, .int .u32 p.le, .int .u8 p.ty, .int .u16 p.fl, .int .u8 p.de] 35)
  have r1 := heap_alloc_new w (.cells #[.string p.sc, .string p.ta, .string p.ot, .string p.na, .string p.on, .int .u16 p.ch, .int .u32 p.le, .int .u8 p.ty, .int .u16 p.fl, .int .u8 p.de] 35)
  rw [← hw1] at b1 r1
  have cK := hide (known_ref p.ty w1 hK.ty.1 hK.ty.2)
  have HW := hide hw1
  have R1 := hide r1
  have B1 := hide b1
  obtain ⟨E, hE⟩ : ∃ z : Int, z = if cOk p = true then 0 else 2 := ⟨_, rfl⟩
  rw [← hE]
  have HE := hide (show E = if (kn p.ty && (decide (p.sc.size ≤ 255) && (decide (p.ta.size ≤ 255) && (decide (p.ot.size ≤ 255) && (decide (p.na.size ≤ 255) && decide (p.on.size ≤ 255)))))) = true then 0 else 2 from hE)
  clear hE hK hw1 b1 r1
  go_enter Tryd.func18, Tryd.ntmps18
  go_wp2_with fail
  rw [← unhide HW]
  refine (unhide cK).mono ?_
  rintro e w3 ⟨rfl, b3⟩
  have B3 := hide (bup (unhide B1) b3)
  have R3 := row_later (unhide R1) b3
  clear cK R1 B1 HW b3
  generalize kn p.ty = KN at *
  have k0 := row_cell R3 (j := 0) (v := .string p.sc) rfl
  have k1 := row_cell R3 (j := 1) (v := .string p.ta) rfl
  have k2 := row_cell R3 (j := 2) (v := .string p.ot) rfl
  have k3 := row_cell R3 (j := 3) (v := .string p.na) rfl
  have k4 := row_cell R3 (j := 4) (v := .string p.on) rfl
  clear R3
  generalize p.sc = Ssc at *
  generalize p.ta = Sta at *
  generalize p.ot = Sot at *
  generalize p.na = Sna at *
  generalize p.on = Son at *
  cases KN
  · have E2 := hide (show E = 2 by rw [unhide HE]; simp)
    clear HE
    go_wp2_with fail
    go_ret
    exact ⟨by rw [unhide E2]; rfl, unhide B3⟩
  by_cases h0 : Ssc.size ≤ 255
  rotate_left
  · have g0 : (255 : Int) < (Ssc.size : Int) := by omega
    have E2 := hide (show E = 2 by rw [unhide HE, decide_eq_false h0]; simp)
    clear HE h0
    go_wp2_with fail
    go_ret
    exact ⟨by rw [unhide E2]; rfl, unhide B3⟩
  have g0 : ¬ (255 : Int) < (Ssc.size : Int) := by omega
  have E0 := hide (decide_eq_true h0)
  clear h0
  by_cases h1 : Sta.size ≤ 255
  rotate_left
  · have g1 : (255 : Int) < (Sta.size : Int) := by omega
    have E2 := hide (show E = 2 by rw [unhide HE, unhide E0, decide_eq_false h1]; simp)
    clear HE h1
    go_wp2_with fail
    go_ret
    exact ⟨by rw [unhide E2]; rfl, unhide B3⟩
  have g1 : ¬ (255 : Int) < (Sta.size : Int) := by omega
  have E1 := hide (decide_eq_true h1)
  clear h1
  by_cases h2 : Sot.size ≤ 255
  rotate_left
  · have g2 : (255 : Int) < (Sot.size : Int) := by omega
    have E2 := hide (show E = 2 by rw [unhide HE, unhide E0, unhide E1, decide_eq_false h2]; simp)
    clear HE h2
    go_wp2_with fail
    go_ret
    exact ⟨by rw [unhide E2]; rfl, unhide B3⟩
  have g2 : ¬ (255 : Int) < (Sot.size : Int) := by omega
  have E2 := hide (decide_eq_true h2)
  clear h2
  by_cases h3 : Sna.size ≤ 255
  rotate_left
  · have g3 : (255 : Int) < (Sna.size : Int) := by omega
    have E2 := hide (show E = 2 by rw [unhide HE, unhide E0, unhide E1, unhide E2, decide_eq_false h3]; simp)
    clear HE h3
    go_wp2_with fail
    go_ret
    exact ⟨by rw [unhide E2]; rfl, unhide B3⟩
  have g3 : ¬ (255 : Int) < (Sna.size : Int) := by omega
  have E3 := hide (decide_eq_true h3)
  clear h3
  by_cases h4 : Son.size ≤ 255
  rotate_left
  · have g4 : (255 : Int) < (Son.size : Int) := by omega
    have E2 := hide (show E = 2 by rw [unhide HE, unhide E0, unhide E1, unhide E2, unhide E3, decide_eq_false h4]; simp)
    clear HE h4
    go_wp2_with fail
    go_ret
    exact ⟨by rw [unhide E2]; rfl, unhide B3⟩
  have g4 : ¬ (255 : Int) < (Son.size : Int) := by omega
  have E4 := hide (decide_eq_true h4)
  clear h4
  go_wp2_with fail
  go_ret
  exact ⟨by rw [unhide HE, unhide E0, unhide E1, unhide E2, unhide E3, unhide E4]; rfl, unhide B3⟩

set_option maxHeartbeats 4000000 in
set_option maxRecDepth 100000 in
theorem appendCount_ref (bo : Option Addr) (bn bc : Nat) (b : List Int) (n : Int) (w : World) (hb : Bs w bo bn bc b) (hsz : b.length ≤ 100000) :
    Calls Tryd.prog 16 #[.slice bo bn bc, .int .i64 n] w fun e w' => OutP w (if nOk n = true then some (b ++ form n) else none) e w' := by
  have hbl := hb.len
  by_cases q : 1 ≤ n ∧ n ≤ 4096
  · rw [if_pos (show nOk n = true from decide_eq_true q)]
    obtain ⟨q1, q2⟩ := q
    have cA := hide (appendInt_ref bo bn bc b n w hb (by omega) (by omega) (by omega))
    have g1 : ¬ n < 1 := by omega
    have g2 : ¬ (4096 : Int) < n := by omega
    clear hb hbl
    go_enter Tryd.func16, Tryd.ntmps16
    go_wp2_with fail
    refine (unhide cA).mono ?_
    rintro e w1 ⟨a1, c1, rfl, m1, b1⟩
    have M1 := hide m1
    have B1 := hide b1
    clear m1 b1 cA
    go_wp2_with fail
    go_ret2
    exact ⟨_, _, _, rfl, unhide M1, unhide B1⟩
  · rw [if_neg (show ¬ nOk n = true from fun z => q (of_decide_eq_true z))]
    by_cases q1 : n < 1
    · clear hb hbl q
      go_enter Tryd.func16, Tryd.ntmps16
      go_wp2_with fail
      go_ret2
      exact ⟨rfl, Below.refl _ _⟩
    · have q2 : (4096 : Int) < n := by omega
      clear hb hbl q
      go_enter Tryd.func16, Tryd.ntmps16
      go_wp2_with fail
      go_ret2
      exact ⟨rfl, Below.refl _ _⟩

set_option maxHeartbeats 8000000 in
set_option maxRecDepth 100000 in
theorem append_ref (bo : Option Addr) (bn bc : Nat) (b : List Int) (p : Co) (w : World) (hb : Bs w bo bn bc b) (hK : CoK p) (hsz : b.length ≤ 100000) :
    Calls Tryd.prog 15 #[.slice bo bn bc, .agg #[.string p.sc, .string p.ta, .string p.ot, .string p.na, .string p.on, .int .u16 p.ch, .int .u32 p.le, .int .u8 p.ty, .int .u16 p.fl, .int .u8 p.de]] w fun e w' => OutP w (if cOk p = true then some (b ++ coB p) else none) e w' := by
  obtain ⟨w1, hw1⟩ : ∃ z, z = w.alloc (.cells #[.string p.sc, .string p.ta, .string p.ot, .string p.na, .string p.on, .int .u16 p.ch, .int .u32 p.le, .int .u8 p.ty, .int .u16 p.fl, .int .u8 p.de] 35) := ⟨_, rfl⟩
  have b1 := below_alloc w (.cells #[.string p.sc, .string p.ta, .string p.ot, .string p.na, .string p.on, .int .u16 p.ch, .int .u32 p.le, .int .u8 p.ty, .int .u16 p.fl, .int .u8 p.de] 35)
  have r1 := heap_alloc_new w (.cells #[.string p.sc, .string p.ta, .string p.ot, .string p.na, .string p.on, .int .u16 p.ch, .int .u32 p.le, .int .u8 p.ty, .int .u16 p.fl, .int .u8 p.de] 35)
  have hlt : w.heap.size < w1.heap.size := by rw [hw1]; simp
  rw [← hw1] at b1 r1
  have SZ := hide (show (Tryd.prog.info? 35).map (·.size) = some (#[.string p.sc, .string p.ta, .string p.ot, .string p.na, .string p.on, .int .u16 p.ch, .int .u32 p.le, .int .u8 p.ty, .int .u16 p.fl, .int .u8 p.de] : Array Value).size by kernel_rfl)
  have cC := hide (check_ref p w1 hK)
  have HW := hide hw1
  have R1 := hide r1
  have BW := hide b1
  have hbl := hb.len
  cases q : cOk p
  · rw [q, if_neg (by decide)] at cC
    rw [if_neg (by decide)]
    clear hb hK hw1 r1 b1 hbl q hsz
    go_enter Tryd.func15, Tryd.ntmps15
    go_wp2_with (with_reducible show wpList Tryd.prog _ _ (Oper.mk _ (Op.load 35 _) _ _ _ none :: _) _ _; rw [← unhide HW]; refine wpList_load_row rfl _ (.tmp 3) rfl w.heap.size rfl _ #[.string p.sc, .string p.ta, .string p.ot, .string p.na, .string p.on, .int .u16 p.ch, .int .u32 p.le, .int .u8 p.ty, .int .u16 p.fl, .int .u8 p.de] (0, 0) _ (unhide R1) Tryd.underlying35 rfl (unhide SZ) ?_)
    refine (unhide cC).mono ?_
    rintro e w2 ⟨rfl, b2⟩
    have B2 := hide (bup (unhide BW) b2)
    clear b2 cC
    go_wp2_with fail
    go_ret2
    exact ⟨rfl, unhide B2⟩
  rw [q, if_pos rfl] at cC
  rw [if_pos rfl]
  obtain ⟨_, y0, y1, y2, y3, y4⟩ := cOk_all q
  obtain ⟨l0, hl0⟩ : ∃ z, z = b ++ txB ⟨#[100, 101, 102]⟩ := ⟨_, rfl⟩
  have ml0 : l0.length ≤ b.length + 12 := by rw [hl0, List.length_append]; exact Nat.add_le_add_left (by decide) _
  have c0 := hide (text_rx b ⟨#[100, 101, 102]⟩ (by show _ + 3 ≤ _; omega))
  rw [← hl0] at c0
  obtain ⟨l1, hl1⟩ : ∃ z, z = l0 ++ txB p.sc := ⟨_, rfl⟩
  have ml1 : l1.length ≤ l0.length + 264 := by have := txB_len p.sc; rw [hl1, List.length_append]; omega
  have c1 := hide (text_rx l0 p.sc (by omega))
  rw [← hl1] at c1
  obtain ⟨l2, hl2⟩ : ∃ z, z = l1 ++ txB p.ta := ⟨_, rfl⟩
  have ml2 : l2.length ≤ l1.length + 264 := by have := txB_len p.ta; rw [hl2, List.length_append]; omega
  have c2 := hide (text_rx l1 p.ta (by omega))
  rw [← hl2] at c2
  obtain ⟨l3, hl3⟩ : ∃ z, z = l2 ++ txB p.ot := ⟨_, rfl⟩
  have ml3 : l3.length ≤ l2.length + 264 := by have := txB_len p.ot; rw [hl3, List.length_append]; omega
  have c3 := hide (text_rx l2 p.ot (by omega))
  rw [← hl3] at c3
  obtain ⟨l4, hl4⟩ : ∃ z, z = l3 ++ txB p.na := ⟨_, rfl⟩
  have ml4 : l4.length ≤ l3.length + 264 := by have := txB_len p.na; rw [hl4, List.length_append]; omega
  have c4 := hide (text_rx l3 p.na (by omega))
  rw [← hl4] at c4
  obtain ⟨l5, hl5⟩ : ∃ z, z = l4 ++ txB p.on := ⟨_, rfl⟩
  have ml5 : l5.length ≤ l4.length + 264 := by have := txB_len p.on; rw [hl5, List.length_append]; omega
  have c5 := hide (text_rx l4 p.on (by omega))
  rw [← hl5] at c5
  obtain ⟨l6, hl6⟩ : ∃ z, z = l5 ++ [12] := ⟨_, rfl⟩
  have ml6 : l6.length ≤ l5.length + 3 := by rw [hl6]; simp
  obtain ⟨l7, hl7⟩ : ∃ z, z = l6 ++ le p.ch 2 := ⟨_, rfl⟩
  have ml7 : l7.length ≤ l6.length + 4 := by rw [hl7, List.length_append, le_length]; omega
  have e7 : IntKind.u64.wrap p.ch = p.ch := by have := hK.ch; rw [IntKind.wrap_u64]; omega
  have c7 := hide (fixed_rx l6 p.ch (IntKind.u64.wrap p.ch) 2 2 65536 e7 rfl hK.ch (by decide) (by omega) (by omega) (by omega) (by omega))
  rw [← hl7] at c7
  obtain ⟨l8, hl8⟩ : ∃ z, z = l7 ++ le p.le 4 := ⟨_, rfl⟩
  have ml8 : l8.length ≤ l7.length + 4 := by rw [hl8, List.length_append, le_length]; omega
  have e8 : IntKind.u64.wrap p.le = p.le := by have := hK.le; rw [IntKind.wrap_u64]; omega
  have c8 := hide (fixed_rx l7 p.le (IntKind.u64.wrap p.le) 4 4 4294967296 e8 rfl hK.le (by decide) (by omega) (by omega) (by omega) (by omega))
  rw [← hl8] at c8
  obtain ⟨l9, hl9⟩ : ∃ z, z = l8 ++ [p.ty] := ⟨_, rfl⟩
  have ml9 : l9.length ≤ l8.length + 3 := by rw [hl9]; simp
  obtain ⟨l10, hl10⟩ : ∃ z, z = l9 ++ le p.fl 2 := ⟨_, rfl⟩
  have ml10 : l10.length ≤ l9.length + 4 := by rw [hl10, List.length_append, le_length]; omega
  have e10 : IntKind.u64.wrap p.fl = p.fl := by have := hK.fl; rw [IntKind.wrap_u64]; omega
  have c10 := hide (fixed_rx l9 p.fl (IntKind.u64.wrap p.fl) 2 2 65536 e10 rfl hK.fl (by decide) (by omega) (by omega) (by omega) (by omega))
  rw [← hl10] at c10
  obtain ⟨l11, hl11⟩ : ∃ z, z = l10 ++ [p.de, 0, 0] := ⟨_, rfl⟩
  have ml11 : l11.length ≤ l10.length + 3 := by rw [hl11]; simp
  have HRES := hide (show b ++ coB p = l11 by rw [show coB p = txB ⟨#[100, 101, 102]⟩ ++ (txB p.sc ++ (txB p.ta ++ (txB p.ot ++ (txB p.na ++ (txB p.on ++ ([12] ++ (le p.ch 2 ++ (le p.le 4 ++ ([p.ty] ++ (le p.fl 2 ++ [p.de, 0, 0])))))))))) from by rw [show txB ⟨#[100, 101, 102]⟩ = defB by kernel_rfl]; rfl]; subst hl0 hl1 hl2 hl3 hl4 hl5 hl6 hl7 hl8 hl9 hl10 hl11; simp only [List.append_assoc])
  have HL6 := hide hl6
  have HL9 := hide hl9
  have HL11 := hide hl11
  have HN0 := hide (show l0.length ≤ 200000 by omega)
  have HN1 := hide (show l1.length ≤ 200000 by omega)
  have HN2 := hide (show l2.length ≤ 200000 by omega)
  have HN3 := hide (show l3.length ≤ 200000 by omega)
  have HN4 := hide (show l4.length ≤ 200000 by omega)
  have HN5 := hide (show l5.length ≤ 200000 by omega)
  have HN6 := hide (show l6.length ≤ 200000 by omega)
  have HN7 := hide (show l7.length ≤ 200000 by omega)
  have HN8 := hide (show l8.length ≤ 200000 by omega)
  have HN9 := hide (show l9.length ≤ 200000 by omega)
  have HN10 := hide (show l10.length ≤ 200000 by omega)
  have HN11 := hide (show l11.length ≤ 200000 by omega)
  have hty := hK.ty
  have hde := hK.de
  have lbd := hide (fun (wx : World) => (show Bs (wx.alloc (.cells #[.int .u8 p.de, .int .u8 0, .int .u8 0] 5)) (some ⟨wx.heap.size, 0, none⟩) 3 3 [p.de, 0, 0] from Bs.lit wx [p.de, 0, 0] (Byt.cons hde.1 (by omega) (Byt.cons (by omega) (by omega) (Byt.one (by omega) (by omega)))) (by simp)))
  have hbn : bn ≤ 100000 := by omega
  have HB1 := hide (hb.later b1)
  clear hb hK hw1 b1 r1 q y0 y1 y2 y3 y4 hsz hbl e7 e8 e10 hl0 hl1 hl2 hl3 hl4 hl5 hl6 hl7 hl8 hl9 hl10 hl11 ml0 ml1 ml2 ml3 ml4 ml5 ml6 ml7 ml8 ml9 ml10 ml11
  generalize b ++ coB p = RR at *
  go_enter Tryd.func15, Tryd.ntmps15
  go_wp2_with (with_reducible show wpList Tryd.prog _ _ (Oper.mk _ (Op.load 35 _) _ _ _ none :: _) _ _; rw [← unhide HW]; refine wpList_load_row rfl _ (.tmp 3) rfl w.heap.size rfl _ #[.string p.sc, .string p.ta, .string p.ot, .string p.na, .string p.on, .int .u16 p.ch, .int .u32 p.le, .int .u8 p.ty, .int .u16 p.fl, .int .u8 p.de] (0, 0) _ (unhide R1) Tryd.underlying35 rfl (unhide SZ) ?_)
  refine (unhide cC).mono ?_
  rintro e w2 ⟨rfl, b2⟩
  have HB2 := hide ((unhide HB1).later b2)
  have X2 := hide (show Below w1.heap.size w1 w2 from b2)
  have R2 := row_later (unhide R1) b2
  have k0 := row_cell R2 (j := 0) (v := .string p.sc) rfl
  have k1 := row_cell R2 (j := 1) (v := .string p.ta) rfl
  have k2 := row_cell R2 (j := 2) (v := .string p.ot) rfl
  have k3 := row_cell R2 (j := 3) (v := .string p.na) rfl
  have k4 := row_cell R2 (j := 4) (v := .string p.on) rfl
  obtain ⟨w3, hw3⟩ : ∃ z, z = w2.alloc (.cells #[.string ⟨#[100, 101, 102]⟩, .string p.sc, .string p.ta, .string p.ot, .string p.na, .string p.on] 9) := ⟨_, rfl⟩
  have b3 := below_alloc w2 (.cells #[.string ⟨#[100, 101, 102]⟩, .string p.sc, .string p.ta, .string p.ot, .string p.na, .string p.on] 9)
  have r3 := heap_alloc_new w2 (.cells #[.string ⟨#[100, 101, 102]⟩, .string p.sc, .string p.ta, .string p.ot, .string p.na, .string p.on] 9)
  rw [← hw3] at b3 r3
  have X3 := hide ((unhide X2).trans (b3.mono (unhide X2).size))
  have HB3 := hide ((unhide HB2).later b3)
  have HW3 := hide hw3
  have R3 := hide r3
  have hz3 : w2.heap.size < w3.heap.size := by rw [hw3]; simp
  have hz3e : w3.heap.size = w2.heap.size + 1 := by rw [hw3]; simp
  have ME := hide (show Mine w3.heap.size (w3.alloc (.cells #[] 5)) (some ⟨w2.heap.size + 1, 0, none⟩) 0 0 [] by rw [← hz3e]; exact Mine.empty w3)
  clear hz3e
  clear b2 cC HB1 HB2 R2 X2 b3 r3 hw3
  have hzz : w1.heap.size ≤ w3.heap.size := (unhide X3).size
  go_wp2_with (at_builtin; rw [← unhide HW3]; refine wpList_app rfl (.tmp 26) (.tmp 27) rfl w3.heap.size _ _ _ _ rfl (unhide ME) bo bn bc b rfl ((unhide HB3).later (below_alloc w3 _)) (by omega) (by simp) ?_; intro o4 q4 w4 m b'; rw [Nat.zero_add, List.nil_append] at m; have HM4 := hide m; have HY4 := hide ((below_alloc w3 (.cells #[] 5)).trans b'); clear m b' HB3)
  clear k0 k1 k2 k3 k4
  refine wp_loop_rounds 7 ?_
  rw [rounds_succ]
  have kk := row_cell (((unhide HY4).block w2.heap.size hz3).trans (unhide R3)) (j := 0) (v := .string ⟨#[100, 101, 102]⟩) rfl
  go_wp2_with fail
  clear kk
  refine (unhide c0 _ _ _ _ (unhide HM4).bs).mono ?_
  rintro e w5 ⟨o5, n5, q5, rfl, m, b'⟩
  have HM5 := hide (m.mono (unhide HY4).size)
  have HY5 := hide ((unhide HY4).trans (b'.mono (unhide HY4).size))
  clear m b' c0 HM4 HY4
  go_wp2_with fail
  rw [rounds_succ]
  have kk := row_cell (((unhide HY5).block w2.heap.size hz3).trans (unhide R3)) (j := 1) (v := .string p.sc) rfl
  go_wp2_with fail
  clear kk
  refine (unhide c1 _ _ _ _ (unhide HM5).bs).mono ?_
  rintro e w6 ⟨o6, n6, q6, rfl, m, b'⟩
  have HM6 := hide (m.mono (unhide HY5).size)
  have HY6 := hide ((unhide HY5).trans (b'.mono (unhide HY5).size))
  clear m b' c1 HM5 HY5
  go_wp2_with fail
  rw [rounds_succ]
  have kk := row_cell (((unhide HY6).block w2.heap.size hz3).trans (unhide R3)) (j := 2) (v := .string p.ta) rfl
  go_wp2_with fail
  clear kk
  refine (unhide c2 _ _ _ _ (unhide HM6).bs).mono ?_
  rintro e w7 ⟨o7, n7, q7, rfl, m, b'⟩
  have HM7 := hide (m.mono (unhide HY6).size)
  have HY7 := hide ((unhide HY6).trans (b'.mono (unhide HY6).size))
  clear m b' c2 HM6 HY6
  go_wp2_with fail
  rw [rounds_succ]
  have kk := row_cell (((unhide HY7).block w2.heap.size hz3).trans (unhide R3)) (j := 3) (v := .string p.ot) rfl
  go_wp2_with fail
  clear kk
  refine (unhide c3 _ _ _ _ (unhide HM7).bs).mono ?_
  rintro e w8 ⟨o8, n8, q8, rfl, m, b'⟩
  have HM8 := hide (m.mono (unhide HY7).size)
  have HY8 := hide ((unhide HY7).trans (b'.mono (unhide HY7).size))
  clear m b' c3 HM7 HY7
  go_wp2_with fail
  rw [rounds_succ]
  have kk := row_cell (((unhide HY8).block w2.heap.size hz3).trans (unhide R3)) (j := 4) (v := .string p.na) rfl
  go_wp2_with fail
  clear kk
  refine (unhide c4 _ _ _ _ (unhide HM8).bs).mono ?_
  rintro e w9 ⟨o9, n9, q9, rfl, m, b'⟩
  have HM9 := hide (m.mono (unhide HY8).size)
  have HY9 := hide ((unhide HY8).trans (b'.mono (unhide HY8).size))
  clear m b' c4 HM8 HY8
  go_wp2_with fail
  rw [rounds_succ]
  have kk := row_cell (((unhide HY9).block w2.heap.size hz3).trans (unhide R3)) (j := 5) (v := .string p.on) rfl
  go_wp2_with fail
  clear kk
  refine (unhide c5 _ _ _ _ (unhide HM9).bs).mono ?_
  rintro e w10 ⟨o10, n10, q10, rfl, m, b'⟩
  have HM10 := hide (m.mono (unhide HY9).size)
  have HY10 := hide ((unhide HY9).trans (b'.mono (unhide HY9).size))
  clear m b' c5 HM9 HY9
  go_wp2_with fail
  rw [rounds_succ]
  have m5 := (unhide HM10).mono hzz
  have b5 : Below w1.heap.size w1 w10 := (unhide X3).trans ((unhide HY10).mono hzz)
  have KC := hide (fun (w' : World) (hb : Below w1.heap.size w1 w') => (show w'.cell? ⟨w.heap.size, 5, none⟩ = some (.int .u16 p.ch) ∧ w'.cell? ⟨w.heap.size, 6, none⟩ = some (.int .u32 p.le) ∧ w'.cell? ⟨w.heap.size, 7, none⟩ = some (.int .u8 p.ty) ∧ w'.cell? ⟨w.heap.size, 8, none⟩ = some (.int .u16 p.fl) ∧ w'.cell? ⟨w.heap.size, 9, none⟩ = some (.int .u8 p.de) from ⟨row_cell ((hb.block w.heap.size hlt).trans (unhide R1)) (j := 5) (v := .int .u16 p.ch) rfl, row_cell ((hb.block w.heap.size hlt).trans (unhide R1)) (j := 6) (v := .int .u32 p.le) rfl, row_cell ((hb.block w.heap.size hlt).trans (unhide R1)) (j := 7) (v := .int .u8 p.ty) rfl, row_cell ((hb.block w.heap.size hlt).trans (unhide R1)) (j := 8) (v := .int .u16 p.fl) rfl, row_cell ((hb.block w.heap.size hlt).trans (unhide R1)) (j := 9) (v := .int .u8 p.de) rfl⟩))
  have hn5 : n10 ≤ 200000 := by rw [← m5.len]; exact unhide HN5
  go_upto_region 10 with fail
  go_cut [8] (fun v wx => ∃ ao n c, v = .slice ao n c ∧ Mine w1.heap.size wx ao n c l8 ∧ Below w1.heap.size w1 wx)
  case first =>
    go_wp2_with fail
    go_region_held3 (fun w' => w'.cell? ⟨w.heap.size, 5, none⟩ = some (.int .u16 p.ch) ∧ w'.cell? ⟨w.heap.size, 6, none⟩ = some (.int .u32 p.le) ∧ w'.cell? ⟨w.heap.size, 7, none⟩ = some (.int .u8 p.ty) ∧ w'.cell? ⟨w.heap.size, 8, none⟩ = some (.int .u16 p.fl) ∧ w'.cell? ⟨w.heap.size, 9, none⟩ = some (.int .u8 p.de)) (first | exact unhide KC _ bC | exact unhide KC _ bB | exact unhide KC _ bA | exact unhide KC _ b5 | (refine unhide KC _ ?_; (repeat' (first | with_reducible exact bC | with_reducible exact bB | with_reducible exact bA | with_reducible exact b5 | with_reducible exact Below.refl _ _ | with_reducible refine Below.drew ?_ | with_reducible refine Below.alloc ?_ ?_ _ | exact Nat.le_refl _ | exact bC.size | exact bB.size | exact bA.size | exact b5.size | omega | (simp; done) | (simp; omega))); done) | go_keep) (first | (refine step_appK rfl (.tmp 41) (.tmp 42) rfl w1.heap.size o10 n10 q10 l5 (by simp [Act.eval, Act.put]) (m5.later (Below.drew (below_alloc _ (.cells #[.int .u8 12] 5)))) _ 1 1 [12] (by simp [Act.eval, Act.put]) ((Bs.one _ (12) (by omega) (by omega)).later (below_drew _)) (by omega) (Nat.le_trans b5.size (Below.drew (below_alloc _ (.cells #[.int .u8 12] 5))).size) ?_; intro aoA cA wA mA gA; rw [← unhide HL6] at mA; have bA := b5.trans ((Below.mono (Below.drew (below_alloc _ (.cells #[.int .u8 12] 5))) b5.size).trans (mine_grown (m5.later (Below.drew (below_alloc _ (.cells #[.int .u8 12] 5)))) (Nat.le_trans b5.size (Below.drew (below_alloc _ (.cells #[.int .u8 12] 5))).size) gA))) | (refine step_appK rfl (.tmp 41) (.tmp 42) rfl w1.heap.size o10 n10 q10 l5 (by simp [Act.eval, Act.put]) (m5.later (below_alloc _ (.cells #[.int .u8 12] 5))) _ 1 1 [12] (by simp [Act.eval, Act.put]) (Bs.one _ (12) (by omega) (by omega)) (by omega) (Nat.le_trans b5.size (below_alloc _ (.cells #[.int .u8 12] 5)).size) ?_; intro aoA cA wA mA gA; rw [← unhide HL6] at mA; have bA := b5.trans ((Below.mono (below_alloc _ (.cells #[.int .u8 12] 5)) b5.size).trans (mine_grown (m5.later (below_alloc _ (.cells #[.int .u8 12] 5))) (Nat.le_trans b5.size (below_alloc _ (.cells #[.int .u8 12] 5)).size) gA))) | (go_at_call 30; with_reducible show Calls Tryd.prog 30 #[.slice aoA _ cA, .int .u64 (IntKind.u64.wrap p.ch), _] wA _; refine (unhide c7 wA aoA _ cA (mA.bs)).mono ?_; rintro e wB ⟨aoB, nB, cB, rfl, mB, bB0⟩; have bB := bA.trans (Below.mono (bB0) bA.size)) | (go_at_call 30; with_reducible show Calls Tryd.prog 30 #[.slice aoA _ cA, .int .u64 (IntKind.u64.wrap p.ch), _] wA.drew _; refine (unhide c7 wA.drew aoA _ cA (mA.bs.later (below_drew wA))).mono ?_; rintro e wB ⟨aoB, nB, cB, rfl, mB, bB0⟩; have bB := bA.trans (Below.mono ((below_drew wA).trans bB0) bA.size)) | (go_at_call 30; with_reducible show Calls Tryd.prog 30 #[.slice aoB _ cB, .int .u64 (IntKind.u64.wrap p.le), _] wB _; refine (unhide c8 wB aoB _ cB (mB.bs)).mono ?_; rintro e wC ⟨aoC, nC, cC, rfl, mC, bC0⟩; have bC := bB.trans (Below.mono (bC0) bB.size)) | (go_at_call 30; with_reducible show Calls Tryd.prog 30 #[.slice aoB _ cB, .int .u64 (IntKind.u64.wrap p.le), _] wB.drew _; refine (unhide c8 wB.drew aoB _ cB (mB.bs.later (below_drew wB))).mono ?_; rintro e wC ⟨aoC, nC, cC, rfl, mC, bC0⟩; have bC := bB.trans (Below.mono ((below_drew wB).trans bC0) bB.size)))
    all_goals have MQ := hide (mC.mono (B' := w1.heap.size) bB.size)
    all_goals have BQ := hide bC
    all_goals clear mC bC
    all_goals go_wp2_with fail
    all_goals go_meet
    all_goals exact ⟨_, _, _, rfl, unhide MQ, unhide BQ⟩
  clear m5 b5 hn5 HM10 HY10
  obtain ⟨o11, n11, q11, rfl, m5, b5⟩ := hcut
  have hn5 : n11 ≤ 200000 := by rw [← m5.len]; exact unhide HN8
  go_upto_region 11 with fail
  go_cut [8] (fun v wx => ∃ ao n c, v = .slice ao n c ∧ Mine w1.heap.size wx ao n c l10 ∧ Below w1.heap.size w1 wx)
  case first =>
    go_wp2_with fail
    go_region_held3 (fun w' => w'.cell? ⟨w.heap.size, 5, none⟩ = some (.int .u16 p.ch) ∧ w'.cell? ⟨w.heap.size, 6, none⟩ = some (.int .u32 p.le) ∧ w'.cell? ⟨w.heap.size, 7, none⟩ = some (.int .u8 p.ty) ∧ w'.cell? ⟨w.heap.size, 8, none⟩ = some (.int .u16 p.fl) ∧ w'.cell? ⟨w.heap.size, 9, none⟩ = some (.int .u8 p.de)) (first | exact unhide KC _ bB | exact unhide KC _ bA | exact unhide KC _ b5 | (refine unhide KC _ ?_; (repeat' (first | with_reducible exact bB | with_reducible exact bA | with_reducible exact b5 | with_reducible exact Below.refl _ _ | with_reducible refine Below.drew ?_ | with_reducible refine Below.alloc ?_ ?_ _ | exact Nat.le_refl _ | exact bB.size | exact bA.size | exact b5.size | omega | (simp; done) | (simp; omega))); done) | go_keep) (first | (refine step_appK rfl (.tmp 52) (.tmp 55) rfl w1.heap.size o11 n11 q11 l8 (by simp [Act.eval, Act.put]) (m5.later (Below.drew (below_alloc _ (.cells #[.int .u8 p.ty] 5)))) _ 1 1 [p.ty] (by simp [Act.eval, Act.put]) ((Bs.one _ (p.ty) hty.1 (by omega)).later (below_drew _)) (by omega) (Nat.le_trans b5.size (Below.drew (below_alloc _ (.cells #[.int .u8 p.ty] 5))).size) ?_; intro aoA cA wA mA gA; rw [← unhide HL9] at mA; have bA := b5.trans ((Below.mono (Below.drew (below_alloc _ (.cells #[.int .u8 p.ty] 5))) b5.size).trans (mine_grown (m5.later (Below.drew (below_alloc _ (.cells #[.int .u8 p.ty] 5)))) (Nat.le_trans b5.size (Below.drew (below_alloc _ (.cells #[.int .u8 p.ty] 5))).size) gA))) | (refine step_appK rfl (.tmp 52) (.tmp 55) rfl w1.heap.size o11 n11 q11 l8 (by simp [Act.eval, Act.put]) (m5.later (below_alloc _ (.cells #[.int .u8 p.ty] 5))) _ 1 1 [p.ty] (by simp [Act.eval, Act.put]) (Bs.one _ (p.ty) hty.1 (by omega)) (by omega) (Nat.le_trans b5.size (below_alloc _ (.cells #[.int .u8 p.ty] 5)).size) ?_; intro aoA cA wA mA gA; rw [← unhide HL9] at mA; have bA := b5.trans ((Below.mono (below_alloc _ (.cells #[.int .u8 p.ty] 5)) b5.size).trans (mine_grown (m5.later (below_alloc _ (.cells #[.int .u8 p.ty] 5))) (Nat.le_trans b5.size (below_alloc _ (.cells #[.int .u8 p.ty] 5)).size) gA))) | (go_at_call 30; with_reducible show Calls Tryd.prog 30 #[.slice aoA _ cA, .int .u64 (IntKind.u64.wrap p.fl), _] wA _; refine (unhide c10 wA aoA _ cA (mA.bs)).mono ?_; rintro e wB ⟨aoB, nB, cB, rfl, mB, bB0⟩; have bB := bA.trans (Below.mono (bB0) bA.size)) | (go_at_call 30; with_reducible show Calls Tryd.prog 30 #[.slice aoA _ cA, .int .u64 (IntKind.u64.wrap p.fl), _] wA.drew _; refine (unhide c10 wA.drew aoA _ cA (mA.bs.later (below_drew wA))).mono ?_; rintro e wB ⟨aoB, nB, cB, rfl, mB, bB0⟩; have bB := bA.trans (Below.mono ((below_drew wA).trans bB0) bA.size)))
    all_goals have MQ := hide (mB.mono (B' := w1.heap.size) bA.size)
    all_goals have BQ := hide bB
    all_goals clear mB bB
    all_goals go_wp2_with fail
    all_goals go_meet
    all_goals exact ⟨_, _, _, rfl, unhide MQ, unhide BQ⟩
  clear m5 b5 hn5
  obtain ⟨o12, n12, q12, rfl, m5, b5⟩ := hcut
  have hn5 : n12 ≤ 200000 := by rw [← m5.len]; exact unhide HN10
  obtain ⟨k5, k6, k7, k8, k9⟩ := unhide KC _ b5
  have M5 := hide m5
  have B5 := hide b5
  have hz5 := b5.size
  clear m5 b5 k5 k6 k7 k8
  go_wp2_with (at_builtin; refine wpList_app rfl (.tmp 61) (.tmp 64) rfl w1.heap.size o12 n12 q12 l10 rfl ((unhide M5).later (below_alloc _ _)) _ 3 3 [p.de, 0, 0] rfl (unhide lbd _) (by omega) (by simp; omega) ?_; intro o13 q13 w13 m b'; rw [← unhide HL11] at m; have MF := hide m; have BF := hide (((unhide B5).trans ((below_alloc _ _).mono (unhide B5).size)).trans b'); clear m b')
  go_ret2
  rw [unhide HRES]
  exact ⟨_, _, _, rfl, (unhide MF).mono (Nat.le_of_lt hlt), (unhide BW).trans ((unhide BF).mono (Nat.le_of_lt hlt))⟩

end Go.Proofs.YtgdjeooiimjjcaaDoor
