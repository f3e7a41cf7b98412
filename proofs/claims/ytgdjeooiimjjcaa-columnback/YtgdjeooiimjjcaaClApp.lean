/-
  What AppendCount, ReadCount, bytesOf and Append return: new memory, or an error. They write nothing that was there. Conditions: the slices can be read; lengths below 100,000.
-/
import Derived.Test.YtgdjeooiimjjcaaClTx
import Derived.Test.YtgdjeooiimjjcaaClRow
import Derived.Test.YtgdjeooiimjjcaaGpCat
import Derived.BigQuiet
namespace Go.Proofs.Ytgdjeooiimjjcaa
open Go.RowKit
set_option linter.unusedVariables false
set_option linter.unusedSimpArgs false

/-- What a function that writes returns: nothing and ErrArg, or bytes. -/
def OutP (w : World) (R : Option (List Int)) (e : Ending) (w' : World) : Prop :=
  match R with
  | none => e = .returned (.tuple #[.slice none 0 0, .int .i64 2]) ∧ Below w.heap.size w w'
  | some l => ∃ ao n c, e = .returned (.tuple #[.slice ao n c, .int .i64 0]) ∧ Mine w.heap.size w' ao n c l ∧ Below w.heap.size w w'
/-- .. without an error. -/
def OutB (w : World) (l : List Int) (e : Ending) (w' : World) : Prop := ∃ ao n c, e = .returned (.slice ao n c) ∧ Mine w.heap.size w' ao n c l ∧ Below w.heap.size w w'

theorem text_ax (l : List Int) (s : ByteArray) (hn : l.length + s.size ≤ 1099511627776) (w : World) (ao : Option Addr) (n c : Nat) (h : Bs w ao n c l) :
    Calls Try.prog 52 #[.slice ao n c, .string s] w fun e w' => ∃ ao' n' c', e = .returned (.slice ao' n' c') ∧ Mine w.heap.size w' ao' n' c' (l ++ txB s) ∧ Below w.heap.size w w' :=
  (appendText_any ao n c l s w h (by have := h.len; omega)).mono fun _ _ ⟨ao', c', e, hm, hb⟩ => ⟨ao', _, c', e, by unfold txB; rwa [← List.append_assoc], hb⟩
theorem fixed_ax (l : List Int) (x : Int) (k : Nat) (K M : Int) (hK : K = (k : Int)) (hx : 0 ≤ x ∧ x < M) (hM : (2 : Int) ^ (8 * k) = M) (hM2 : M ≤ 18446744073709551616) (hk1 : 1 ≤ k) (hk8 : k ≤ 8) (hn : l.length ≤ 1099511627776) (w : World) (ao : Option Addr) (n c : Nat) (h : Bs w ao n c l) :
    Calls Try.prog 53 #[.slice ao n c, .int .u64 x, .int .i64 K] w fun e w' => ∃ ao' n' c', e = .returned (.tuple #[.slice ao' n' c', .int .i64 0]) ∧ Mine w.heap.size w' ao' n' c' (l ++ le x k) ∧ Below w.heap.size w w' := by
  subst hK
  have q := appendFixed_ok ao n c l x (k : Int) w h hx.1 (by omega) (by have := h.len; omega) (by omega) (by omega) (by rw [Int.toNat_natCast, hM]; exact hx.2)
  rw [Int.toNat_natCast] at q
  exact q.mono fun _ _ ⟨ao', c', e, hm, hb⟩ => ⟨ao', _, c', e, hm, hb⟩

set_option maxHeartbeats 4000000 in
set_option maxRecDepth 100000 in
theorem appendCount_any (bo : Option Addr) (bn bc : Nat) (b : List Int) (n : Int) (w : World) (hb : Bs w bo bn bc b) (hsz : b.length ≤ 100000) :
    Calls Try.prog 13 #[.slice bo bn bc, .int .i64 n] w fun e w' => OutP w (if nOk n = true then some (b ++ form n) else none) e w' := by
  have hbl := hb.len
  by_cases q : 1 ≤ n ∧ n ≤ 4096
  · rw [if_pos (show nOk n = true from decide_eq_true q)]
    obtain ⟨q1, q2⟩ := q
    have cA := hide (appendInt_any bo bn bc b n w hb (by omega) (by omega) (by omega))
    have g1 : ¬ n < 1 := by omega
    have g2 : ¬ (4096 : Int) < n := by omega
    clear hb hbl
    go_enter Try.func13, Try.ntmps13
    go_wp2_with fail
    refine (unhide cA).mono ?_
    rintro e w1 ⟨a1, c1, rfl, m1, b1⟩
    have M1 := hide m1
    have B1 := hide b1
    clear m1 b1 cA
    go_wp2_with fail
    go_ret2
    exact ⟨_, _, _, rfl, unhide M1, unhide B1⟩
  · rw [if_neg (show ¬ nOk n = true from fun z => q (of_decide_eq_true z))]
    by_cases q1 : n < 1
    · clear hb hbl q
      go_enter Try.func13, Try.ntmps13
      go_wp2_with fail
      go_ret2
      exact ⟨rfl, Below.refl _ _⟩
    · have q2 : (4096 : Int) < n := by omega
      clear hb hbl q
      go_enter Try.func13, Try.ntmps13
      go_wp2_with fail
      go_ret2
      exact ⟨rfl, Below.refl _ _⟩

set_option maxHeartbeats 4000000 in
set_option maxRecDepth 100000 in
theorem readCount_any (bo : Option Addr) (bn bc : Nat) (b : List Int) (w : World) (hb : Bs w bo bn bc b) :
    Calls Try.prog 9 #[.slice bo bn bc] w fun e w' => e = .returned (.tuple #[.int .i64 (ctR b).1, .int .i64 (ctR b).2]) ∧ w' = w := by
  have hbl := hb.len
  have cR := hide (readInt_any bo bn bc b w hb)
  have bd := readInt_bd hb.byt
  have hR := hide (show ctR b = if (readInt b).2.2 ≠ 0 then (0, (readInt b).2.2) else if nOk (readInt b).1 = true ∧ (readInt b).2.1 = ((form (readInt b).1).length : Int) ∧ (readInt b).2.1 = (b.length : Int) then ((readInt b).1, 0) else (0, 5) from rfl)
  rw [hbl] at hR bd
  generalize ctR b = RR at *
  generalize (readInt b).1 = X at *
  generalize (readInt b).2.1 = Q at *
  generalize (readInt b).2.2 = E at *
  have hle := hb.le
  have hmx := hb.max
  clear hb hbl
  by_cases he : E = 0
  · subst he
    have cS := hide (fun wx => size_any X wx bd.2.2.1 bd.2.2.2)
    rw [if_neg (by decide)] at hR
    by_cases h1 : X < 1
    · rw [if_neg (fun z => by have := of_decide_eq_true z.1; omega)] at hR
      rw [unhide hR]
      clear bd hR cS
      go_enter Try.func9, Try.ntmps9
      go_wp2_with fail
      refine same_world (unhide cR) ?_
      clear cR
      go_wp2_with fail
      go_ret2
      exact ⟨rfl, rfl⟩
    by_cases h2 : 4096 < X
    · rw [if_neg (fun z => by have := of_decide_eq_true z.1; omega)] at hR
      rw [unhide hR]
      clear bd hR cS
      go_enter Try.func9, Try.ntmps9
      go_wp2_with fail
      refine same_world (unhide cR) ?_
      clear cR
      go_wp2_with fail
      go_ret2
      exact ⟨rfl, rfl⟩
    generalize ((form X).length : Int) = Z at *
    by_cases h3 : Q = Z
    · subst h3
      have h3 : (Q != Q) = false := by simp
      by_cases h4 : Q = (bn : Int)
      · rw [if_pos ⟨decide_eq_true ⟨by omega, by omega⟩, rfl, h4⟩] at hR
        rw [unhide hR]
        have h4' : (Q != (bn : Int)) = false := by simpa using h4
        have HH := hide h4
        clear hR h4 bd
        go_enter Try.func9, Try.ntmps9
        go_wp2_with fail
        refine same_world (unhide cR) ?_
        clear cR
        go_wp2_with (go_at_call 33; refine same_world (unhide cS _) ?_)
        go_ret2
        exact ⟨rfl, rfl⟩
      · rw [if_neg (fun z => h4 z.2.2)] at hR
        rw [unhide hR]
        have h4' : (Q != (bn : Int)) = true := by simpa using h4
        clear hR h4 bd
        go_enter Try.func9, Try.ntmps9
        go_wp2_with fail
        refine same_world (unhide cR) ?_
        clear cR
        go_wp2_with (go_at_call 33; refine same_world (unhide cS _) ?_)
        go_ret2
        exact ⟨rfl, rfl⟩
    · rw [if_neg (fun z => h3 z.2.1)] at hR
      rw [unhide hR]
      have h3' : (Q != Z) = true := by simpa using h3
      clear hR h3 bd
      go_enter Try.func9, Try.ntmps9
      go_wp2_with fail
      refine same_world (unhide cR) ?_
      clear cR
      go_wp2_with (go_at_call 33; refine same_world (unhide cS _) ?_)
      go_ret2
      exact ⟨rfl, rfl⟩
  · rw [if_pos he] at hR
    rw [unhide hR]
    have he' : (E != 0) = true := by simpa using he
    clear hR he bd
    go_enter Try.func9, Try.ntmps9
    go_wp2_with fail
    refine same_world (unhide cR) ?_
    clear cR
    go_wp2_with fail
    go_ret2
    exact ⟨rfl, rfl⟩

set_option maxHeartbeats 4000000 in
set_option maxRecDepth 100000 in
theorem bytesOf_any (p : Co) (w : World) (hK : CoK p) (h0 : p.sc.size ≤ 255) (h1 : p.ta.size ≤ 255) (h2 : p.ot.size ≤ 255) (h3 : p.na.size ≤ 255) (h4 : p.on.size ≤ 255) :
    Calls Try.prog 38 #[.agg #[.string p.sc, .string p.ta, .string p.ot, .string p.na, .string p.on, .int .u16 p.ch, .int .u32 p.le, .int .u8 p.ty, .int .u16 p.fl, .int .u8 p.de]] w fun e w' => OutB w (coB p) e w' := by
  obtain ⟨w1, hw1⟩ : ∃ z, z = w.alloc (.cells #[.string p.sc, .string p.ta, .string p.ot, .string p.na, .string p.on, .int .u16 p.ch, .int .u32 p.le, .int .u8 p.ty, .int .u16 p.fl, .int .u8 p.de] 28) := ⟨_, rfl⟩
  have b1 := below_alloc w (.cells #[.string p.sc, .string p.ta, .string p.ot, .string p.na, .string p.on, .int .u16 p.ch, .int .u32 p.le, .int .u8 p.ty, .int .u16 p.fl, .int .u8 p.de] 28)
  have r1 := heap_alloc_new w (.cells #[.string p.sc, .string p.ta, .string p.ot, .string p.na, .string p.on, .int .u16 p.ch, .int .u32 p.le, .int .u8 p.ty, .int .u16 p.fl, .int .u8 p.de] 28)
  have hlt : w.heap.size < w1.heap.size := by rw [hw1]; simp
  rw [← hw1] at b1 r1
  have d0 : ([] : List Int) ++ txB ⟨#[100, 101, 102]⟩ = defB := by kernel_rfl
  have cD := hide (text_ax [] ⟨#[100, 101, 102]⟩ (by decide) w1 none 0 0 (Bs.nought w1))
  rw [d0] at cD
  have m0 : defB.length = 4 := rfl
  obtain ⟨l1, hl1⟩ : ∃ z, z = defB ++ txB p.sc := ⟨_, rfl⟩
  have m1 : l1.length ≤ defB.length + 264 := by have := txB_len p.sc; rw [hl1, List.length_append]; omega
  have c1 := hide (text_ax defB p.sc (by omega))
  rw [← hl1] at c1
  obtain ⟨l2, hl2⟩ : ∃ z, z = l1 ++ txB p.ta := ⟨_, rfl⟩
  have m2 : l2.length ≤ l1.length + 264 := by have := txB_len p.ta; rw [hl2, List.length_append]; omega
  have c2 := hide (text_ax l1 p.ta (by omega))
  rw [← hl2] at c2
  obtain ⟨l3, hl3⟩ : ∃ z, z = l2 ++ txB p.ot := ⟨_, rfl⟩
  have m3 : l3.length ≤ l2.length + 264 := by have := txB_len p.ot; rw [hl3, List.length_append]; omega
  have c3 := hide (text_ax l2 p.ot (by omega))
  rw [← hl3] at c3
  obtain ⟨l4, hl4⟩ : ∃ z, z = l3 ++ txB p.na := ⟨_, rfl⟩
  have m4 : l4.length ≤ l3.length + 264 := by have := txB_len p.na; rw [hl4, List.length_append]; omega
  have c4 := hide (text_ax l3 p.na (by omega))
  rw [← hl4] at c4
  obtain ⟨l5, hl5⟩ : ∃ z, z = l4 ++ txB p.on := ⟨_, rfl⟩
  have m5 : l5.length ≤ l4.length + 264 := by have := txB_len p.on; rw [hl5, List.length_append]; omega
  have c5 := hide (text_ax l4 p.on (by omega))
  rw [← hl5] at c5
  obtain ⟨l6, hl6⟩ : ∃ z, z = l5 ++ [12] := ⟨_, rfl⟩
  have m6 : l6.length ≤ l5.length + 3 := by rw [hl6]; simp
  obtain ⟨l7, hl7⟩ : ∃ z, z = l6 ++ le p.ch 2 := ⟨_, rfl⟩
  have m7 : l7.length ≤ l6.length + 4 := by rw [hl7, List.length_append, le_length]; omega
  have c7 := hide (fixed_ax l6 p.ch 2 2 65536 rfl hK.ch (by decide) (by omega) (by omega) (by omega) (by omega))
  rw [← hl7] at c7
  obtain ⟨l8, hl8⟩ : ∃ z, z = l7 ++ le p.le 4 := ⟨_, rfl⟩
  have m8 : l8.length ≤ l7.length + 4 := by rw [hl8, List.length_append, le_length]; omega
  have c8 := hide (fixed_ax l7 p.le 4 4 4294967296 rfl hK.le (by decide) (by omega) (by omega) (by omega) (by omega))
  rw [← hl8] at c8
  obtain ⟨l9, hl9⟩ : ∃ z, z = l8 ++ [p.ty] := ⟨_, rfl⟩
  have m9 : l9.length ≤ l8.length + 3 := by rw [hl9]; simp
  obtain ⟨l10, hl10⟩ : ∃ z, z = l9 ++ le p.fl 2 := ⟨_, rfl⟩
  have m10 : l10.length ≤ l9.length + 4 := by rw [hl10, List.length_append, le_length]; omega
  have c10 := hide (fixed_ax l9 p.fl 2 2 65536 rfl hK.fl (by decide) (by omega) (by omega) (by omega) (by omega))
  rw [← hl10] at c10
  obtain ⟨l11, hl11⟩ : ∃ z, z = l10 ++ [p.de, 0, 0] := ⟨_, rfl⟩
  have m11 : l11.length ≤ l10.length + 3 := by rw [hl11]; simp
  have HRES := hide (show coB p = l11 by subst hl1 hl2 hl3 hl4 hl5 hl6 hl7 hl8 hl9 hl10 hl11; simp only [coB, List.append_assoc])
  have HL6 := hide hl6
  have HL9 := hide hl9
  have HL11 := hide hl11
  have HN0 := hide (show defB.length ≤ 100000 by omega)
  have HN1 := hide (show l1.length ≤ 100000 by omega)
  have HN2 := hide (show l2.length ≤ 100000 by omega)
  have HN3 := hide (show l3.length ≤ 100000 by omega)
  have HN4 := hide (show l4.length ≤ 100000 by omega)
  have HN5 := hide (show l5.length ≤ 100000 by omega)
  have HN6 := hide (show l6.length ≤ 100000 by omega)
  have HN7 := hide (show l7.length ≤ 100000 by omega)
  have HN8 := hide (show l8.length ≤ 100000 by omega)
  have HN9 := hide (show l9.length ≤ 100000 by omega)
  have HN10 := hide (show l10.length ≤ 100000 by omega)
  have HN11 := hide (show l11.length ≤ 100000 by omega)
  have hty := hK.ty
  have hde := hK.de
  have hch := hK.ch
  have hle := hK.le
  have hfl := hK.fl
  have lbd := hide (fun (wx : World) => (show Bs (wx.alloc (.cells #[.int .u8 p.de, .int .u8 0, .int .u8 0] 5)) (some ⟨wx.heap.size, 0, none⟩) 3 3 [p.de, 0, 0] from Bs.lit wx [p.de, 0, 0] (Byt.cons hde.1 (by omega) (Byt.cons (by omega) (by omega) (Byt.one (by omega) (by omega)))) (by simp)))
  have HW := hide hw1
  have R1 := hide r1
  have BW := hide b1
  clear hK h0 h1 h2 h3 h4 hw1 b1 r1 d0 m0 m1 m2 m3 m4 m5 m6 m7 m8 m9 m10 m11 hl1 hl2 hl3 hl4 hl5 hl6 hl7 hl8 hl9 hl10 hl11
  generalize coB p = RR at *
  obtain ⟨DD, hDD⟩ : ∃ z, z = defB := ⟨_, rfl⟩
  rw [← hDD] at cD c1 HN0
  clear hDD
  go_enter Try.func38, Try.ntmps38
  go_wp2_with fail
  rw [← unhide HW]
  have HB0 := hide (Below.refl w1.heap.size w1)
  refine (unhide cD).mono ?_
  rintro e x1 ⟨o1, n1, k1, rfl, m, b⟩
  have HM1 := hide (m.mono (unhide HB0).size)
  have HB1 := hide ((unhide HB0).trans (b.mono (unhide HB0).size))
  clear m b cD
  have cT := hide (texts_any w.heap.size x1)
  go_wp2_with fail
  refine (unhide cT).mono ?_
  rintro e x2 ⟨rfl, b⟩
  have HM2 := hide ((unhide HM1).later b)
  have HB2 := hide ((unhide HB1).trans (b.mono (unhide HB1).size))
  clear b cT HM1 HB1
  go_wp2_with fail
  refine wp_loop_rounds 6 ?_
  rw [rounds_succ]
  have ix := px0 w.heap.size
  have kk := row_cell (((unhide HB2).block w.heap.size hlt).trans (unhide R1)) (j := 0) (v := .string p.sc) rfl
  go_wp2_with fail
  clear ix kk
  refine (unhide c1 _ _ _ _ (unhide HM2).bs).mono ?_
  rintro e x3 ⟨o3, n3, k3, rfl, m, b⟩
  have HM3 := hide (m.mono (unhide HB2).size)
  have HB3 := hide ((unhide HB2).trans (b.mono (unhide HB2).size))
  clear m b c1 HM2 HB2
  go_wp2_with fail
  rw [rounds_succ]
  have ix := px1 w.heap.size
  have kk := row_cell (((unhide HB3).block w.heap.size hlt).trans (unhide R1)) (j := 1) (v := .string p.ta) rfl
  go_wp2_with fail
  clear ix kk
  refine (unhide c2 _ _ _ _ (unhide HM3).bs).mono ?_
  rintro e x4 ⟨o4, n4, k4, rfl, m, b⟩
  have HM4 := hide (m.mono (unhide HB3).size)
  have HB4 := hide ((unhide HB3).trans (b.mono (unhide HB3).size))
  clear m b c2 HM3 HB3
  go_wp2_with fail
  rw [rounds_succ]
  have ix := px2 w.heap.size
  have kk := row_cell (((unhide HB4).block w.heap.size hlt).trans (unhide R1)) (j := 2) (v := .string p.ot) rfl
  go_wp2_with fail
  clear ix kk
  refine (unhide c3 _ _ _ _ (unhide HM4).bs).mono ?_
  rintro e x5 ⟨o5, n5, k5, rfl, m, b⟩
  have HM5 := hide (m.mono (unhide HB4).size)
  have HB5 := hide ((unhide HB4).trans (b.mono (unhide HB4).size))
  clear m b c3 HM4 HB4
  go_wp2_with fail
  rw [rounds_succ]
  have ix := px3 w.heap.size
  have kk := row_cell (((unhide HB5).block w.heap.size hlt).trans (unhide R1)) (j := 3) (v := .string p.na) rfl
  go_wp2_with fail
  clear ix kk
  refine (unhide c4 _ _ _ _ (unhide HM5).bs).mono ?_
  rintro e x6 ⟨o6, n6, k6, rfl, m, b⟩
  have HM6 := hide (m.mono (unhide HB5).size)
  have HB6 := hide ((unhide HB5).trans (b.mono (unhide HB5).size))
  clear m b c4 HM5 HB5
  go_wp2_with fail
  rw [rounds_succ]
  have ix := px4 w.heap.size
  have kk := row_cell (((unhide HB6).block w.heap.size hlt).trans (unhide R1)) (j := 4) (v := .string p.on) rfl
  go_wp2_with fail
  clear ix kk
  refine (unhide c5 _ _ _ _ (unhide HM6).bs).mono ?_
  rintro e x7 ⟨o7, n7, k7, rfl, m, b⟩
  have HM7 := hide (m.mono (unhide HB6).size)
  have HB7 := hide ((unhide HB6).trans (b.mono (unhide HB6).size))
  clear m b c5 HM6 HB6
  go_wp2_with fail
  rw [rounds_succ]
  have hn : n7 ≤ 100000 := by rw [← (unhide HM7).len]; exact unhide HN5
  have hz : w1.heap.size ≤ x7.heap.size := (unhide HB7).size
  go_wp2_with (at_builtin; refine wpList_app rfl (.tmp 17) (.tmp 18) rfl w1.heap.size o7 n7 k7 _ rfl ((unhide HM7).later (below_alloc x7 _)) _ 1 1 _ rfl (Bs.one x7 (12) (by omega) (by omega)) (by omega) (by simp; omega) ?_; intro o8 k8 x8 m b; rw [← unhide HL6] at m; have HM8 := hide m; have HB8 := hide (((unhide HB7).trans ((below_alloc x7 _).mono (unhide HB7).size)).trans b); have kk := row_cell (((unhide HB8).block w.heap.size hlt).trans (unhide R1)) (j := 5) (v := .int .u16 p.ch) rfl; clear m b HM7 HB7 hn hz)
  clear kk
  refine (unhide c7 _ _ _ _ (unhide HM8).bs).mono ?_
  rintro e x9 ⟨o9, n9, k9, rfl, m, b⟩
  have HM9 := hide (m.mono (unhide HB8).size)
  have HB9 := hide ((unhide HB8).trans (b.mono (unhide HB8).size))
  clear m b c7 HM8 HB8
  have kk := row_cell (((unhide HB9).block w.heap.size hlt).trans (unhide R1)) (j := 6) (v := .int .u32 p.le) rfl
  go_wp2_with fail
  clear kk
  refine (unhide c8 _ _ _ _ (unhide HM9).bs).mono ?_
  rintro e x10 ⟨o10, n10, k10, rfl, m, b⟩
  have HM10 := hide (m.mono (unhide HB9).size)
  have HB10 := hide ((unhide HB9).trans (b.mono (unhide HB9).size))
  clear m b c8 HM9 HB9
  have kk := row_cell (((unhide HB10).block w.heap.size hlt).trans (unhide R1)) (j := 7) (v := .int .u8 p.ty) rfl
  have hn : n10 ≤ 100000 := by rw [← (unhide HM10).len]; exact unhide HN8
  have hz : w1.heap.size ≤ x10.heap.size := (unhide HB10).size
  go_wp2_with (at_builtin; refine wpList_app rfl (.tmp 36) (.tmp 39) rfl w1.heap.size o10 n10 k10 _ rfl ((unhide HM10).later (below_alloc x10 _)) _ 1 1 _ rfl (Bs.one x10 (p.ty) (by omega) (by omega)) (by omega) (by simp; omega) ?_; intro o11 k11 x11 m b; rw [← unhide HL9] at m; have HM11 := hide m; have HB11 := hide (((unhide HB10).trans ((below_alloc x10 _).mono (unhide HB10).size)).trans b); clear kk; have kk := row_cell (((unhide HB11).block w.heap.size hlt).trans (unhide R1)) (j := 8) (v := .int .u16 p.fl) rfl; clear m b HM10 HB10 hn hz)
  clear kk
  refine (unhide c10 _ _ _ _ (unhide HM11).bs).mono ?_
  rintro e x12 ⟨o12, n12, k12, rfl, m, b⟩
  have HM12 := hide (m.mono (unhide HB11).size)
  have HB12 := hide ((unhide HB11).trans (b.mono (unhide HB11).size))
  clear m b c10 HM11 HB11
  have kk := row_cell (((unhide HB12).block w.heap.size hlt).trans (unhide R1)) (j := 9) (v := .int .u8 p.de) rfl
  have hn : n12 ≤ 100000 := by rw [← (unhide HM12).len]; exact unhide HN10
  have hz : w1.heap.size ≤ x12.heap.size := (unhide HB12).size
  go_wp2_with (at_builtin; refine wpList_app rfl (.tmp 49) (.tmp 52) rfl w1.heap.size o12 n12 k12 _ rfl ((unhide HM12).later (below_alloc x12 _)) _ 3 3 _ rfl (unhide lbd x12) (by omega) (by simp; omega) ?_; intro o13 k13 x13 m b; rw [← unhide HL11] at m; have HM13 := hide m; have HB13 := hide (((unhide HB12).trans ((below_alloc x12 _).mono (unhide HB12).size)).trans b); clear m b HM12 HB12 hn hz)
  go_ret
  rw [unhide HRES]
  exact ⟨_, _, _, rfl, (unhide HM13).mono (Nat.le_of_lt hlt), (unhide BW).trans ((unhide HB13).mono (Nat.le_of_lt hlt))⟩

set_option maxHeartbeats 4000000 in
set_option maxRecDepth 100000 in
theorem append_any (bo : Option Addr) (bn bc : Nat) (b : List Int) (p : Co) (w : World) (hb : Bs w bo bn bc b) (hK : CoK p) (hsz : b.length ≤ 100000) :
    Calls Try.prog 14 #[.slice bo bn bc, .agg #[.string p.sc, .string p.ta, .string p.ot, .string p.na, .string p.on, .int .u16 p.ch, .int .u32 p.le, .int .u8 p.ty, .int .u16 p.fl, .int .u8 p.de]] w fun e w' => OutP w (if cOk p = true then some (b ++ coB p) else none) e w' := by
  obtain ⟨w1, hw1⟩ : ∃ z, z = w.alloc (.cells #[.string p.sc, .string p.ta, .string p.ot, .string p.na, .string p.on, .int .u16 p.ch, .int .u32 p.le, .int .u8 p.ty, .int .u16 p.fl, .int .u8 p.de] 28) := ⟨_, rfl⟩
  have b1 := below_alloc w (.cells #[.string p.sc, .string p.ta, .string p.ot, .string p.na, .string p.on, .int .u16 p.ch, .int .u32 p.le, .int .u8 p.ty, .int .u16 p.fl, .int .u8 p.de] 28)
  have r1 := heap_alloc_new w (.cells #[.string p.sc, .string p.ta, .string p.ot, .string p.na, .string p.on, .int .u16 p.ch, .int .u32 p.le, .int .u8 p.ty, .int .u16 p.fl, .int .u8 p.de] 28)
  rw [← hw1] at b1 r1
  have SZ := hide (show (Try.prog.info? 28).map (·.size) = some (#[.string p.sc, .string p.ta, .string p.ot, .string p.na, .string p.on, .int .u16 p.ch, .int .u32 p.le, .int .u8 p.ty, .int .u16 p.fl, .int .u8 p.de] : Array Value).size by kernel_rfl)
  have cC := hide (check_any p w1 hK)
  have HW := hide hw1
  have R1 := hide r1
  have B1 := hide b1
  have hbl := hb.len
  cases q : cOk p
  · rw [q, if_neg (by decide)] at cC
    rw [if_neg (by decide)]
    clear hb hK hw1 r1 b1 hbl q hsz
    go_enter Try.func14, Try.ntmps14
    go_wp2_with (with_reducible show wpList Try.prog _ _ (Oper.mk _ (Op.load 28 _) _ _ _ none :: _) _ _; rw [← unhide HW]; refine wpList_load_row rfl _ (.tmp 3) rfl w.heap.size rfl _ #[.string p.sc, .string p.ta, .string p.ot, .string p.na, .string p.on, .int .u16 p.ch, .int .u32 p.le, .int .u8 p.ty, .int .u16 p.fl, .int .u8 p.de] (0, 0) _ (unhide R1) Try.underlying28 rfl (unhide SZ) ?_)
    refine (unhide cC).mono ?_
    rintro e w2 ⟨rfl, b2⟩
    have B2 := hide (bup (unhide B1) b2)
    clear b2 cC
    go_wp2_with fail
    go_ret2
    exact ⟨rfl, unhide B2⟩
  · rw [q, if_pos rfl] at cC
    rw [if_pos rfl]
    have HQ := q
    unfold cOk at HQ
    simp only [Bool.and_eq_true, decide_eq_true_iff] at HQ
    obtain ⟨_, y0, y1, y2, y3, y4⟩ := HQ
    have cB := hide (fun wx => bytesOf_any p wx hK y0 y1 y2 y3 y4)
    have hlc : (coB p).length ≤ 100000 := by
      have := txB_len p.sc
      have := txB_len p.ta
      have := txB_len p.ot
      have := txB_len p.na
      have := txB_len p.on
      have : defB.length = 4 := rfl
      unfold coB
      simp only [List.length_append, le_length, List.length_cons, List.length_nil]
      omega
    have HBB := hide (hb.later b1)
    clear hb hK hw1 r1 b1 q y0 y1 y2 y3 y4
    generalize coB p = CB at *
    go_enter Try.func14, Try.ntmps14
    go_wp2_with (with_reducible show wpList Try.prog _ _ (Oper.mk _ (Op.load 28 _) _ _ _ none :: _) _ _; rw [← unhide HW]; refine wpList_load_row rfl _ (.tmp 3) rfl w.heap.size rfl _ #[.string p.sc, .string p.ta, .string p.ot, .string p.na, .string p.on, .int .u16 p.ch, .int .u32 p.le, .int .u8 p.ty, .int .u16 p.fl, .int .u8 p.de] (0, 0) _ (unhide R1) Try.underlying28 rfl (unhide SZ) ?_)
    refine (unhide cC).mono ?_
    rintro e w2 ⟨rfl, b2⟩
    have B2 := hide (bup (unhide B1) b2)
    have R2 := hide (row_later (unhide R1) b2)
    have HB2 := hide ((unhide HBB).later b2)
    clear b2 cC HBB
    go_wp2_with (with_reducible show wpList Try.prog _ _ (Oper.mk _ (Op.load 28 _) _ _ _ none :: _) _ _; refine wpList_load_row rfl _ (.tmp 3) rfl w.heap.size rfl _ #[.string p.sc, .string p.ta, .string p.ot, .string p.na, .string p.on, .int .u16 p.ch, .int .u32 p.le, .int .u8 p.ty, .int .u16 p.fl, .int .u8 p.de] (0, 0) _ (unhide R2) Try.underlying28 rfl (unhide SZ) ?_)
    refine (unhide cB _).mono ?_
    rintro e w3 ⟨ao, n, c, rfl, m3, b3⟩
    have B3 := hide (bup (unhide B2) b3)
    have b4 := below_alloc w3 (.cells #[.slice bo bn bc, .slice ao n c] 22)
    have hnn := m3.len
    have cN := hide (concat_any w3.heap.size bo bn bc b ao n c CB (w3.alloc (.cells #[.slice bo bn bc, .slice ao n c] 22)) (((unhide HB2).later b3).later b4) (m3.bs.later b4) (cell_top w3 _ _ 0 _ rfl) (cell_top w3 _ _ 1 _ rfl) (by omega) (by omega))
    have B4 := hide (bup (unhide B3) b4)
    clear b3 b4 m3 hnn cB HB2
    go_wp2_with fail
    refine (unhide cN).mono ?_
    rintro e w5 ⟨a5, n5, c5, rfl, m5, b5⟩
    have M5 := hide (m5.mono (unhide B4).size)
    have B5 := hide (bup (unhide B4) b5)
    clear m5 b5 cN
    go_wp2_with fail
    go_ret2
    exact ⟨_, _, _, rfl, unhide M5, unhide B5⟩

end Go.Proofs.Ytgdjeooiimjjcaa
