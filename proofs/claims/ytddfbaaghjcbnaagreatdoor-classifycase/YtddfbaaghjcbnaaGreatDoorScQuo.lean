/-
  What appendEscaped, quoted of package scan return for any text. Conditions: at most 2,000,000 bytes.
-/
import Derived.Test.YtddfbaaghjcbnaaGreatDoorMNum
namespace Go.Proofs.YtddfbaaghjcbnaaGreatDoor
open Go.RowKit
set_option linter.unusedVariables false
set_option linter.unusedSimpArgs false

def nI (b : UInt8) : Int := (b.toNat : Int)
def eI (C : Int) : List Int :=
  if C = 48 then [0] else if C = 110 then [10] else if C = 116 then [9] else if C = 114 then [13] else if C = 98 then [8] else if C = 90 then [26]
  else if C = 37 ∨ C = 95 then [92, C] else [C]
theorem u8_eq (c : UInt8) (k : Nat) (hk : k < 256) : (c = UInt8.ofNat k) = ((c.toNat : Int) = (k : Int)) := by
  apply propext
  constructor
  · intro h
    rw [h, UInt8.toNat_ofNat']
    omega
  · intro h
    apply UInt8.toNat_inj.1
    rw [UInt8.toNat_ofNat']
    omega
theorem esc_eI (c : UInt8) : (esc c).map nI = eI (c.toNat : Int) := by
  have e := u8_eq c
  have e48 := e 48 (by decide); have e110 := e 110 (by decide); have e116 := e 116 (by decide); have e114 := e 114 (by decide); have e98 := e 98 (by decide); have e90 := e 90 (by decide); have e37 := e 37 (by decide); have e95 := e 95 (by decide)
  simp only [UInt8.reduceOfNat, Int.cast_ofNat_Int] at e48 e110 e116 e114 e98 e90 e37 e95
  unfold esc eI
  simp only [e48, e110, e116, e114, e98, e90, e37, e95]
  repeat' split
  all_goals rfl
theorem nI_b (b : UInt8) : 0 ≤ nI b ∧ nI b ≤ 255 := by unfold nI; have := b.toNat_lt; omega

def OutA (B : Nat) (w : World) (l : List Int) (e : Ending) (w' : World) : Prop := ∃ ao c, e = .returned (.slice ao l.length c) ∧ Mine B w' ao l.length c l ∧ Below B w w'

theorem fin_app {B : Nat} {w w1 : World} {o : Obj} {l x : List Int} {n m c1 : Nat} {a1 : Option Addr} (m1 : Mine B w1 a1 (n + m) c1 (l ++ x)) (b1 : Below B (w.alloc o) w1) (hl : l.length = n) (hB : B ≤ w.heap.size) (hx : x.length = m) :
    OutA B w (l ++ x) (.returned (.slice a1 (n + m) c1)) w1 := by
  have e : (l ++ x).length = n + m := by rw [List.length_append, hl, hx]
  exact ⟨a1, c1, by rw [e], by rw [e]; exact m1, ((Below.refl B w).alloc hB _).trans b1⟩
set_option maxHeartbeats 2000000 in
set_option maxRecDepth 20000 in
theorem appendEscaped_any (B : Nat) (ao : Option Addr) (n c : Nat) (l : List Int) (C : Int) (w : World) (hM : Mine B w ao n c l) (hB : B ≤ w.heap.size) (h0 : 0 ≤ C) (h1 : C ≤ 255) (hn : n ≤ 4000000) :
    Calls Tryz.prog 107 #[.slice ao n c, .int .u8 C] w fun e w' => OutA B w (l ++ eI C) e w' := by
  have hl := hM.len
  have HL := hide hl
  clear hl
  by_cases e48 : C = 48
  · subst e48
    rw [show eI 48 = [0] from rfl]
    go_enter Tryz.func107, Tryz.ntmps107
    go_wp2_with (at_builtin; refine wpList_app rfl (.tmp 8) (.tmp 9) rfl B ao n c l (by simp [Act.eval, Act.put]) (hM.later (below_alloc w _)) (some ⟨w.heap.size, 0, none⟩) 1 1 [0] (by simp [Act.eval, Act.put]) (Bs.one w 0 (by decide) (by decide)) (by omega) (by simp; omega) ?_; intro a1 c1 w1 m1 b1)
    go_ret
    exact fin_app m1 b1 (unhide HL) hB rfl
  by_cases e110 : C = 110
  · subst e110
    rw [show eI 110 = [10] from rfl]
    go_enter Tryz.func107, Tryz.ntmps107
    go_wp2_with (at_builtin; refine wpList_app rfl (.tmp 13) (.tmp 14) rfl B ao n c l (by simp [Act.eval, Act.put]) (hM.later (below_alloc w _)) (some ⟨w.heap.size, 0, none⟩) 1 1 [10] (by simp [Act.eval, Act.put]) (Bs.one w 10 (by decide) (by decide)) (by omega) (by simp; omega) ?_; intro a1 c1 w1 m1 b1)
    go_ret
    exact fin_app m1 b1 (unhide HL) hB rfl
  by_cases e116 : C = 116
  · subst e116
    rw [show eI 116 = [9] from rfl]
    go_enter Tryz.func107, Tryz.ntmps107
    go_wp2_with (at_builtin; refine wpList_app rfl (.tmp 18) (.tmp 19) rfl B ao n c l (by simp [Act.eval, Act.put]) (hM.later (below_alloc w _)) (some ⟨w.heap.size, 0, none⟩) 1 1 [9] (by simp [Act.eval, Act.put]) (Bs.one w 9 (by decide) (by decide)) (by omega) (by simp; omega) ?_; intro a1 c1 w1 m1 b1)
    go_ret
    exact fin_app m1 b1 (unhide HL) hB rfl
  by_cases e114 : C = 114
  · subst e114
    rw [show eI 114 = [13] from rfl]
    go_enter Tryz.func107, Tryz.ntmps107
    go_wp2_with (at_builtin; refine wpList_app rfl (.tmp 23) (.tmp 24) rfl B ao n c l (by simp [Act.eval, Act.put]) (hM.later (below_alloc w _)) (some ⟨w.heap.size, 0, none⟩) 1 1 [13] (by simp [Act.eval, Act.put]) (Bs.one w 13 (by decide) (by decide)) (by omega) (by simp; omega) ?_; intro a1 c1 w1 m1 b1)
    go_ret
    exact fin_app m1 b1 (unhide HL) hB rfl
  by_cases e98 : C = 98
  · subst e98
    rw [show eI 98 = [8] from rfl]
    go_enter Tryz.func107, Tryz.ntmps107
    go_wp2_with (at_builtin; refine wpList_app rfl (.tmp 28) (.tmp 29) rfl B ao n c l (by simp [Act.eval, Act.put]) (hM.later (below_alloc w _)) (some ⟨w.heap.size, 0, none⟩) 1 1 [8] (by simp [Act.eval, Act.put]) (Bs.one w 8 (by decide) (by decide)) (by omega) (by simp; omega) ?_; intro a1 c1 w1 m1 b1)
    go_ret
    exact fin_app m1 b1 (unhide HL) hB rfl
  by_cases e90 : C = 90
  · subst e90
    rw [show eI 90 = [26] from rfl]
    go_enter Tryz.func107, Tryz.ntmps107
    go_wp2_with (at_builtin; refine wpList_app rfl (.tmp 33) (.tmp 34) rfl B ao n c l (by simp [Act.eval, Act.put]) (hM.later (below_alloc w _)) (some ⟨w.heap.size, 0, none⟩) 1 1 [26] (by simp [Act.eval, Act.put]) (Bs.one w 26 (by decide) (by decide)) (by omega) (by simp; omega) ?_; intro a1 c1 w1 m1 b1)
    go_ret
    exact fin_app m1 b1 (unhide HL) hB rfl
  by_cases e37 : C = 37 ∨ C = 95
  · rw [show eI C = [92, C] by unfold eI; simp [e48, e110, e116, e114, e98, e90, e37]]
    have hb2 := Bs.lit w [92, C] (Byt.cons (by decide) (by decide) (Byt.one h0 h1)) (by simp)
    rcases e37 with rfl | rfl
    all_goals
      go_enter Tryz.func107, Tryz.ntmps107
      go_wp2_with (at_builtin; refine wpList_app rfl (.tmp 39) (.tmp 41) rfl B ao n c l (by simp [Act.eval, Act.put]) (hM.later (below_alloc w _)) (some ⟨w.heap.size, 0, none⟩) 2 2 _ (by simp [Act.eval, Act.put]) hb2 (by omega) (by simp; omega) ?_; intro a1 c1 w1 m1 b1)
      go_ret
      exact fin_app m1 b1 (unhide HL) hB rfl
  · rw [show eI C = [C] by unfold eI; simp [e48, e110, e116, e114, e98, e90, e37]]
    have ne37 : ¬ C = 37 := fun h => e37 (.inl h)
    have ne95 : ¬ C = 95 := fun h => e37 (.inr h)
    clear e37
    go_enter Tryz.func107, Tryz.ntmps107
    go_wp2_with (at_builtin; refine wpList_app rfl (.tmp 43) (.tmp 45) rfl B ao n c l (by simp [Act.eval, Act.put]) (hM.later (below_alloc w _)) (some ⟨w.heap.size, 0, none⟩) 1 1 [C] (by simp [Act.eval, Act.put]) (Bs.one w C h0 h1) (by omega) (by simp; omega) ?_; intro a1 c1 w1 m1 b1)
    go_ret
    exact fin_app m1 b1 (unhide HL) hB rfl

theorem str_nI (l : Bl) : strOfNums (l.map nI) = ba l := by
  apply ByteArray.ext
  apply Array.ext'
  rw [strOfNums_data, List.map_map]
  show _ = l
  have : ((fun n : Int => UInt8.ofNat n.toNat) ∘ nI) = id := by
    funext a
    simp [nI]
  rw [this, List.map_id]
theorem qt_none (es : Bool) (q : UInt8) (sa : Bl) (i : Nat) : qt es q [] sa i = none := by unfold qt; rfl
theorem qt_last (es : Bool) (q x : UInt8) (sa : Bl) (i : Nat) : qt es q [x] sa i = if x = q then some (sa, i + 1) else none := by unfold qt; rfl
theorem qt_more (es : Bool) (q x d : UInt8) (r sa : Bl) (i : Nat) : qt es q (x :: d :: r) sa i =
    if x = 92 ∧ es = true then qt es q r (sa ++ esc d) (i + 2)
    else if x = q then (if d = q then qt es q r (sa ++ [q]) (i + 2) else some (sa, i + 1))
    else qt es q (d :: r) (sa ++ [x]) (i + 1) := by
  conv => lhs; unfold qt
theorem drop_at (s : ByteArray) (j : Nat) (h : j < s.size) : (bl s).drop j = (bl s).getD j 0 :: (bl s).drop (j + 1) := by
  have h2 : j < (bl s).length := by rw [bl_len]; exact h
  rw [List.drop_eq_getElem_cons h2, List.getD_eq_getElem?_getD, List.getElem?_eq_getElem h2, Option.getD_some]
theorem drop_no (s : ByteArray) (j : Nat) (h : s.size ≤ j) : (bl s).drop j = [] := List.drop_of_length_le (by rw [bl_len]; exact h)
theorem nI_len (l : Bl) : (l.map nI).length = l.length := List.length_map _
theorem esc_len (d : UInt8) : (esc d).length ≤ 2 := by
  unfold esc
  repeat' split
  all_goals simp
theorem nI_app (a b : Bl) : (a ++ b).map nI = a.map nI ++ b.map nI := List.map_append

theorem aesc (B : Nat) (ao : Option Addr) (n c : Nat) (l : List Int) (C : Int) (w : World) (hM : Mine B w ao n c l) (hB : B ≤ w.heap.size) (h0 : 0 ≤ C) (h1 : C ≤ 255) (hn : n ≤ 4000000) :
    Calls Tryz.prog 107 #[.slice ao n c, .int .u8 C] w fun e w' => ∃ a1 c1, e = .returned (.slice a1 (l ++ eI C).length c1) ∧ Mine B w' a1 (l ++ eI C).length c1 (l ++ eI C) ∧ Below B w w' := appendEscaped_any B ao n c l C w hM hB h0 h1 hn
set_option maxHeartbeats 4000000 in
set_option maxRecDepth 20000 in
theorem quoted_any (s : ByteArray) (k : Int) (es : Bool) (w : World) (hs : s.size ≤ 2000000) (h1 : 1 ≤ s.size) :
    Calls Tryz.prog 72 #[.string s, .int .i64 k, .bool es] w fun e w' => e = .returned (.agg (fdC (quF (bl s) k es))) ∧ Below w.heap.size w w' := by
  have hz : 0 < s.size := h1
  have hg := bl_at s 0 hz
  have hl := drop_at s 0 hz
  rw [List.drop_zero, Nat.zero_add] at hl
  obtain ⟨q, hq⟩ : ∃ q, q = (bl s).getD 0 0 := ⟨_, rfl⟩
  rw [← hq] at hg hl
  have hF : quF (bl s) k es = match qt es q ((bl s).drop 1) [] 1 with | none => er 190 | some x => ⟨k, ba x.1, x.2, 0⟩ := by
    rw [hl]
    unfold quF
    rfl
  obtain ⟨R, hR⟩ : ∃ R, R = qt es q ((bl s).drop 1) [] 1 := ⟨_, rfl⟩
  rw [← hR] at hF
  obtain ⟨F, hF2⟩ : ∃ F, F = quF (bl s) k es := ⟨_, rfl⟩
  rw [← hF2] at hF ⊢
  have HF := hide hF
  have HR := hide hR
  obtain ⟨Q, hQ⟩ : ∃ Q, (q.toNat : Int) = Q := ⟨_, rfl⟩
  have q0 : 0 ≤ Q := by omega
  have q1 : Q ≤ 255 := by have := q.toNat_lt; omega
  clear hF hR hF2 hl hq
  go_enter Tryz.func72, Tryz.ntmps72
  go_wp2_with (with_reducible show wpList Tryz.prog _ _ (Oper.mk _ (Op.alloc 43) _ _ _ none :: _) _ _; refine wpList_alF rfl rfl ?_; intro wz rz bz sz)
  go_loopw [9, 8] (fun iv sv wr => ∃ (j : Nat) (ao : Option Addr) (n c : Nat) (sa : Bl), 1 ≤ j ∧ j ≤ s.size ∧ iv = .int .i64 (j : Int) ∧ sv = .slice ao n c ∧ Mine wz.heap.size wr ao n c (sa.map nI) ∧ n ≤ j ∧ Below wz.heap.size wz wr ∧ qt es q ((bl s).drop j) sa j = R) (fun iv _ _ => s.size - (intOf iv).toNat)
  case atStart => exact ⟨1, .none, 0, 0, [], by omega, by omega, rfl, rfl, Mine.nought _ _, by omega, Below.refl _ _, (unhide HR).symm⟩
  case round =>
    obtain ⟨j, ao, n, c, sa, hj1, hj, rfl, rfl, hM, hn, hbw, hqt⟩ := hrel
    have HQ := hide hqt
    have HM := hide hM
    have HBW := hide hbw
    have hmle := hM.bs.le
    have hmmx := hM.bs.max
    have hsz := hbw.size
    clear hqt hM hbw
    by_cases hlt : j < s.size
    · have hgj := bl_at s j hlt
      have hdr := hide (drop_at s j hlt)
      obtain ⟨x, hx⟩ : ∃ x, x = (bl s).getD j 0 := ⟨_, rfl⟩
      rw [← hx] at hgj hdr
      obtain ⟨X, hX⟩ : ∃ X, (x.toNat : Int) = X := ⟨_, rfl⟩
      have x0 : 0 ≤ X := by omega
      have x1 : X ≤ 255 := by have := x.toNat_lt; omega
      have HX := hide hX
      clear hx
      by_cases hm : j + 1 < s.size
      · have hgj1 := bl_at s (j + 1) hm
        have hdr1 := hide (drop_at s (j + 1) hm)
        obtain ⟨d, hd⟩ : ∃ d, d = (bl s).getD (j + 1) 0 := ⟨_, rfl⟩
        rw [← hd] at hgj1 hdr1
        obtain ⟨DD, hD⟩ : ∃ DD, (d.toNat : Int) = DD := ⟨_, rfl⟩
        have d0 : 0 ≤ DD := by omega
        have d1 : DD ≤ 255 := by have := d.toNat_lt; omega
        have HD := hide hD
        clear hd
        have hq2 := unhide HQ
        rw [unhide hdr, unhide hdr1, qt_more] at hq2
        have HQ2 := hide hq2
        clear hq2 HQ
        have hbm : decide ((j : Int) + 1 < (s.size : Int)) = true := by simp; omega
        by_cases hA : X = 92 ∧ es = true
        · obtain ⟨hX92, rfl⟩ := hA
          subst hX92
          have hq3 := unhide HQ2
          rw [if_pos ⟨by apply UInt8.toNat_inj.1; have := unhide HX; have : x.toNat = 92 := by omega
                         rw [this]; rfl, rfl⟩] at hq3
          have HQ3 := hide hq3
          have HC := hide (aesc wz.heap.size ao n c (sa.map nI) DD wr (unhide HM) hsz d0 d1 (by omega))
          have HE := hide (show (sa.map nI ++ eI DD) = (sa ++ esc d).map nI by rw [nI_app, esc_eI, unhide HD])
          have HN := hide (show (sa.map nI ++ eI DD).length ≤ j + 2 by rw [unhide HE, nI_len, List.length_append]; have := esc_len d; have h5 := (unhide HM).len; rw [nI_len] at h5; omega)
          clear hq3 HQ2
          generalize (sa.map nI ++ eI DD).length = NN at *
          go_wp2_with (go_at_call 107; (with_reducible refine (unhide HC).mono ?_); rintro e wx ⟨a1, c1, rfl, m1, b1⟩)
          go_roundw
          case rel => exact ⟨j + 2, a1, NN, c1, sa ++ esc d, by omega, by omega, by go_num, rfl, (by rw [← unhide HE]; exact m1), unhide HN, (unhide HBW).trans b1, unhide HQ3⟩
          case measure => simp [intOf]; omega
        · have hq3 := unhide HQ2
          rw [if_neg (fun h => hA ⟨by rw [← unhide HX, h.1]; rfl, h.2⟩)] at hq3
          have HQ3 := hide hq3
          have h92 : (X == 92) = false ∨ (X = 92 ∧ es = false) := by
            by_cases h : X = 92
            · right
              refine ⟨h, ?_⟩
              cases es
              · rfl
              · exact absurd ⟨h, rfl⟩ hA
            · left; simpa using h
          clear hq3 HQ2 hA
          by_cases hXQ : X = Q
          · have hxq : x = q := by apply UInt8.toNat_inj.1; have := unhide HX; omega
            have hne : (X != Q) = false := by simpa using hXQ
            have hq4 := unhide HQ3
            rw [if_pos hxq] at hq4
            have HQ4 := hide hq4
            clear hq4 HQ3
            by_cases hDQ : DD = Q
            · have hdq : d = q := by apply UInt8.toNat_inj.1; have := unhide HD; omega
              have hq5 := unhide HQ4
              rw [if_pos hdq] at hq5
              have HQ5 := hide hq5
              have hbd : (DD == Q) = true := by simpa using hDQ
              have HQI := hide (show [Q] = [q].map nI by rw [List.map_cons, List.map_nil]; unfold nI; rw [hQ])
              clear hq5 HQ4 hdq hxq hXQ hDQ
              rcases h92 with h92 | ⟨rfl, rfl⟩
              all_goals
                go_wp2_with (at_builtin; refine wpList_app rfl (.tmp 73) (.tmp 75) rfl wz.heap.size ao n c (sa.map nI) (by simp [Act.eval, Act.put]) ((unhide HM).later (below_alloc wr _)) (some ⟨wr.heap.size, 0, none⟩) 1 1 [Q] (by simp [Act.eval, Act.put]) (Bs.one wr Q q0 q1) (by omega) (by simp; omega) ?_; intro a1 c1 w1 m1 b1)
                go_roundw
                case rel => exact ⟨j + 2, a1, n + 1, c1, sa ++ [q], by omega, by omega, by go_num, rfl, (by rw [nI_app, ← unhide HQI]; exact m1), by omega, ((unhide HBW).trans ((below_alloc wr _).mono hsz)).trans b1, unhide HQ5⟩
                case measure => simp [intOf]; omega
            · have hdq : ¬ d = q := fun h => hDQ (by rw [← unhide HD, ← hQ, h])
              have hq5 := unhide HQ4
              rw [if_neg hdq] at hq5
              have hbd : (DD == Q) = false := by simpa using hDQ
              have hf := unhide HF
              rw [← hq5] at hf
              simp only at hf
              have HFF := hide hf
              have hst := (unhide HM).bs.str
              rw [str_nI] at hst
              clear hf hq5 HQ4 hdq hxq hXQ hDQ
              rcases h92 with h92 | ⟨rfl, rfl⟩
              all_goals
                have rz := (rz.later (unhide HBW)); have bz := bt bz (unhide HBW); go_wp2_with (with_reducible show wpList Tryz.prog _ _ (Oper.mk _ (Op.store 43 _ _) _ _ _ none :: _) _ _; refine wpList_stF rfl (.tmp 6) (.tmp 30) rfl w.heap.size ⟨k, ba sa, j + 1, 0⟩ nil0 (by simp [Act.eval, Act.put]) (by simp [Act.eval, Act.put, fdC, nil0, er]) rz ?_; intro wy ry gy sy)
                exact fd_end rfl w.heap.size _ _ rfl rfl ry (unhide HFF).symm (below_gb bz gy (Nat.le_refl _))
          · have hxq : ¬ x = q := fun h => hXQ (by rw [← unhide HX, ← hQ, h])
            have hne : (X != Q) = true := by simpa using hXQ
            have hq4 := unhide HQ3
            rw [if_neg hxq, ← unhide hdr1] at hq4
            have HQ4 := hide hq4
            have HXI := hide (show [X] = [x].map nI by rw [List.map_cons, List.map_nil]; unfold nI; rw [unhide HX])
            clear hq4 HQ3 hxq hXQ
            rcases h92 with h92 | ⟨rfl, rfl⟩
            all_goals
              go_wp2_with (at_builtin; refine wpList_app rfl (.tmp 55) (.tmp 59) rfl wz.heap.size ao n c (sa.map nI) (by simp [Act.eval, Act.put]) ((unhide HM).later (below_alloc wr _)) (some ⟨wr.heap.size, 0, none⟩) 1 1 [_] (by simp [Act.eval, Act.put]) (Bs.one wr _ x0 x1) (by omega) (by simp; omega) ?_; intro a1 c1 w1 m1 b1)
              go_roundw
              case rel => exact ⟨j + 1, a1, n + 1, c1, sa ++ [x], by omega, by omega, by go_num, rfl, (by rw [nI_app, ← unhide HXI]; exact m1), by omega, ((unhide HBW).trans ((below_alloc wr _).mono hsz)).trans b1, unhide HQ4⟩
              case measure => simp [intOf]; omega
      · have hbm : decide ((j : Int) + 1 < (s.size : Int)) = false := by simp; omega
        have hq2 := unhide HQ
        rw [unhide hdr, drop_no s (j + 1) (by omega), qt_last] at hq2
        have HQ2 := hide hq2
        clear hq2 HQ
        have h92 : (X == 92) = false ∨ (X = 92 ∧ es = false) ∨ (X = 92 ∧ es = true) := by
          by_cases h : X = 92
          · right
            cases es
            · exact .inl ⟨h, rfl⟩
            · exact .inr ⟨h, rfl⟩
          · left; simpa using h
        by_cases hXQ : X = Q
        · have hxq : x = q := by apply UInt8.toNat_inj.1; have := unhide HX; omega
          have hne : (X != Q) = false := by simpa using hXQ
          have hq5 := unhide HQ2
          rw [if_pos hxq] at hq5
          have hf := unhide HF
          rw [← hq5] at hf
          simp only at hf
          have HFF := hide hf
          have hst := (unhide HM).bs.str
          rw [str_nI] at hst
          clear hf hq5 HQ2 hxq hXQ
          rcases h92 with h92 | ⟨rfl, rfl⟩ | ⟨rfl, rfl⟩
          all_goals
            have rz := (rz.later (unhide HBW)); have bz := bt bz (unhide HBW); go_wp2_with (with_reducible show wpList Tryz.prog _ _ (Oper.mk _ (Op.store 43 _ _) _ _ _ none :: _) _ _; refine wpList_stF rfl (.tmp 6) (.tmp 30) rfl w.heap.size ⟨k, ba sa, j + 1, 0⟩ nil0 (by simp [Act.eval, Act.put]) (by simp [Act.eval, Act.put, fdC, nil0, er]) rz ?_; intro wy ry gy sy)
            exact fd_end rfl w.heap.size _ _ rfl rfl ry (unhide HFF).symm (below_gb bz gy (Nat.le_refl _))
        · have hxq : ¬ x = q := fun h => hXQ (by rw [← unhide HX, ← hQ, h])
          have hne : (X != Q) = true := by simpa using hXQ
          have hq4 := unhide HQ2
          rw [if_neg hxq] at hq4
          have HQ4 := hide (show qt es q ((bl s).drop (j + 1)) (sa ++ [x]) (j + 1) = R by rw [drop_no s (j + 1) (by omega), qt_none]; exact hq4)
          have HXI := hide (show [X] = [x].map nI by rw [List.map_cons, List.map_nil]; unfold nI; rw [unhide HX])
          clear hq4 HQ2 hxq hXQ
          rcases h92 with h92 | ⟨rfl, rfl⟩ | ⟨rfl, rfl⟩
          all_goals
            go_wp2_with (at_builtin; refine wpList_app rfl (.tmp 55) (.tmp 59) rfl wz.heap.size ao n c (sa.map nI) (by simp [Act.eval, Act.put]) ((unhide HM).later (below_alloc wr _)) (some ⟨wr.heap.size, 0, none⟩) 1 1 [_] (by simp [Act.eval, Act.put]) (Bs.one wr _ x0 x1) (by omega) (by simp; omega) ?_; intro a1 c1 w1 m1 b1)
            go_roundw
            case rel => exact ⟨j + 1, a1, n + 1, c1, sa ++ [x], by omega, by omega, by go_num, rfl, (by rw [nI_app, ← unhide HXI]; exact m1), by omega, ((unhide HBW).trans ((below_alloc wr _).mono hsz)).trans b1, unhide HQ4⟩
            case measure => simp [intOf]; omega
    · have hjs : j = s.size := by omega
      subst hjs
      have hr0 := unhide HQ
      rw [drop_no s s.size (Nat.le_refl _), qt_none] at hr0
      have hf := unhide HF
      rw [← hr0] at hf
      simp only at hf
      subst hf
      have rz := (rz.later ((unhide HBW))); have bz := bt bz (unhide HBW); go_wp2_with (with_reducible show wpList Tryz.prog _ _ (Oper.mk _ (Op.store 43 _ _) _ _ _ none :: _) _ _; refine wpList_stF rfl (.tmp 6) (.tmp 77) rfl w.heap.size (er 190) nil0 (by simp [Act.eval, Act.put]) (by simp [Act.eval, Act.put, fdC, er, ba]) rz ?_; intro wy ry gy sy)
      exact fd_end rfl w.heap.size _ _ rfl rfl ry rfl (below_gb bz gy (Nat.le_refl _))

end Go.Proofs.YtddfbaaghjcbnaaGreatDoor
