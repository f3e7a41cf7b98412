/-
  ClassifyCase of layer 20, for the walk: it returns true for any text. Conditions: the text fits in memory; the library's variables read as they were laid.
-/
import Derived.Test.YtddfbaaghjcbnaaGreatDoorMKc
import Derived.Test.YtddfbaaghjcbnaaGreatDoorKlIs
import Derived.Test.YtddfbaaghjcbnaaGreatDoorMPl
import Derived.Test.YtddfbaaghjcbnaaGreatDoorMOf
namespace Go.Proofs.YtddfbaaghjcbnaaGreatDoor
open Go.RowKit
set_option linter.unusedVariables false
set_option linter.unusedSimpArgs false

theorem say_app (a b : List Wd) : sayF (a ++ b) = sayF a ++ sayF b := by unfold sayF; rw [List.flatMap_append]
theorem say_at {l : List Wd} {j : Nat} {x : Wd} (h : l[j]? = some x) : sayF (l.take (j + 1)) = sayF (l.take j) ++ (tol x ++ rmk) := by
  rw [List.take_add_one, h, say_app]
  simp [sayF]
theorem say_few (l : List Wd) (j : Nat) : (sayF (l.take j)).length ≤ (sayF l).length := by
  have := congrArg List.length (say_app (l.take j) (l.drop j))
  rw [List.take_append_drop, List.length_append] at this
  omega
theorem alW_few2 {s : Bl} (hs : s.length ≤ 2000) : ∀ x ∈ (alW s).1, x.tx.size ≤ 2000 := by
  intro x hx
  rw [alW_ws s (by omega)] at hx
  split at hx
  · exact Nat.le_trans (wsF_tx _ _ _ x hx) hs
  · cases hx
theorem ofF_bad {s : Bl} (h : (alW s).2 ≠ ok0) : ofF s = ([], (alW s).2) := by
  unfold ofF
  rw [if_neg (show ¬ (alW s).2 = (⟨0, 0⟩ : Ft) from h)]

theorem eq_self (f : Ft) (w : World) : (binOp .eql 26 (.agg (ftC f)) (.agg (ftC f))).run Tryz.prog w = .ok (.bool true) w := by
  obtain ⟨e, a⟩ := f
  unfold ftC
  rw [run_eql_struct, run_equalIn_agg w 9999 _ _ _ (by kernel_rfl) (by kernel_rfl)]
  simp [go_sem, Tryz.underlying26]

theorem katW_c {w : World} {b o : Nat} {p : Wd} (h : AtW w b o p) : w.cell? ⟨b, o, none⟩ = some (.int .i64 p.k) ∧ w.cell? ⟨b, o + 1, none⟩ = some (.string p.tx) ∧ w.cell? ⟨b, o + 2, none⟩ = some (.int .i64 p.at') := ⟨h 0 (by decide), h 1 (by decide), h 2 (by decide)⟩
theorem tbk_0 {g : Nat} {e p : Int} {w : World} (h : Tb g ⟨e, p⟩ w) : w.cell? ⟨g, 0, none⟩ = some (.int .i64 e) := cell_of_row _ _ 0 _ _ _ h
theorem tbk_1 {g : Nat} {e p : Int} {w : World} (h : Tb g ⟨e, p⟩ w) : w.cell? ⟨g, 1, none⟩ = some (.int .i64 p) := cell_of_row _ _ 1 _ _ _ h

set_option maxHeartbeats 8000000 in
set_option maxRecDepth 20000 in
theorem kcBig (s : ByteArray) (w : World) (hV : Vr w) (hbig : 2000 < s.size) (hss : s.size ≤ 9223372036854775807) :
    Calls Tryz.prog 3 #[.string s] w (OutB w true) := by
  have L7 := hide (lives_any w hV)
  clear hV
  have hb : (2000 : Int) < (s.size : Int) := by omega
  clear hbig
  go_enter Tryz.func3, Tryz.ntmps3
  go_wp2_with (go_at_call 4; refine (unhide L7).mono ?_; rintro e w1 ⟨rfl, b1⟩)
  go_ret
  exact ⟨rfl, b1⟩

set_option maxHeartbeats 8000000 in
set_option maxRecDepth 20000 in
theorem kcBad (s : ByteArray) (w : World) (hV : Vr w) (hsm : ¬ 2000 < s.size) (hf : (alW (bl s)).2 ≠ ok0) :
    Calls Tryz.prog 3 #[.string s] w (OutB w true) := by
  have HV := hide hV
  have L7 := hide (lives_any w hV)
  clear hV
  have hb : ¬ (2000 : Int) < (s.size : Int) := by omega
  have HA := hide (fun wx (h : Vr wx) => all_any s wx h)
  have HC := hide (fun wx (h : Vr wx) => of_any s wx h)
  rw [ofF_bad hf] at HC
  obtain ⟨⟨ws, f⟩, hR⟩ : ∃ R, R = alW (bl s) := ⟨_, rfl⟩
  rw [← hR] at HA HC hf
  simp only at HC hf
  have nea := ne_ft f
  rw [decide_eq_false hf, Bool.not_false] at nea
  have eqf := fun wx => eq_self f wx
  clear hR hf hsm
  obtain ⟨fe, fp⟩ := f
  unfold ftC at nea eqf
  simp only at nea eqf
  go_enter Tryz.func3, Tryz.ntmps3
  go_wp2_with (first | (go_at_call 4; refine (unhide L7).mono ?_; rintro e w1 ⟨rfl, b1⟩) | (go_at_call 5; (with_reducible refine (unhide HA w1 ((unhide HV).later b1)).mono ?_); rintro e w2 ⟨ao, n, c, rfl, m2, q2⟩; have b2 := belT b1 q2) | (with_reducible show wpList Tryz.prog _ _ (Oper.mk _ (Op.alloc 26) _ _ _ none :: _) _ _; refine wpList_alT rfl rfl ?_; intro w3 f3 q3 t3; clear t3; have b3 := belT b2 q3) | (with_reducible show wpList Tryz.prog _ _ (Oper.mk _ (Op.store 26 _ _) _ _ _ none :: _) _ _; refine wpList_stT rfl (.tmp 4) _ rfl w2.heap.size ⟨fe, fp⟩ ⟨0, 0⟩ (by simp [Act.eval, Act.put]) (by simp [Act.eval, Act.put]) f3 ?_; intro w4 f4 g4 t4; clear t4; have y0 := tbk_0 f4; have y1 := tbk_1 f4; have b4 := belowG b3 g4 b2.size b3.size) | (go_at_call 6; (with_reducible refine (unhide HC w4 ((unhide HV).later b4)).mono ?_); rintro e w5 ⟨bo, m, d, rfl, m5, q5⟩; have b5 := belT b4 q5; have f5 := f4.later q5; obtain rfl : m = 0 := m5.len.symm) | (with_reducible show wpList Tryz.prog _ _ (Oper.mk _ (Op.alloc 26) _ _ _ none :: _) _ _; refine wpList_alT rfl rfl ?_; intro w6 f6 q6 t6; clear t6; have f6' := f5.later q6; have b6 := belT b5 q6) | (with_reducible show wpList Tryz.prog _ _ (Oper.mk _ (Op.store 26 _ _) _ _ _ none :: _) _ _; refine wpList_stT rfl (.tmp 6) _ rfl w5.heap.size ⟨fe, fp⟩ ⟨0, 0⟩ (by simp [Act.eval, Act.put]) (by simp [Act.eval, Act.put]) f6 ?_; intro w7 f7 g7 t7; clear t7; have f7' := f6'.gb g7 (Nat.ne_of_lt f5.lt); have b7 := belowG b6 g7 b5.size b6.size; have u0 := tbk_0 f7'; have u1 := tbk_1 f7'; have v0 := tbk_0 f7; have v1 := tbk_1 f7) | (with_reducible show wpList Tryz.prog _ _ (Oper.mk _ (Op.load 26 _) _ _ _ none :: _) _ _; refine wpList_ldT rfl (.tmp 4) rfl w2.heap.size ⟨fe, fp⟩ (by simp [Act.eval, Act.put]) f7' ?_) | (with_reducible show wpList Tryz.prog _ _ (Oper.mk _ (Op.load 26 _) _ _ _ none :: _) _ _; refine wpList_ldT rfl (.tmp 6) rfl w5.heap.size ⟨fe, fp⟩ (by simp [Act.eval, Act.put]) f7 ?_))
  go_ret
  exact ⟨rfl, b7⟩

set_option maxHeartbeats 8000000 in
set_option maxRecDepth 20000 in
theorem kcGood (s : ByteArray) (w : World) (hV : Vr w) (hsm : ¬ 2000 < s.size) (hf : (alW (bl s)).2 = ok0) :
    Calls Tryz.prog 3 #[.string s] w (OutB w true) := by
  have HV := hide hV
  have L7 := hide (lives_any w hV)
  clear hV
  have hb : ¬ (2000 : Int) < (s.size : Int) := by omega
  obtain ⟨hS1, hS2, hS3, hS4⟩ := ofF_say (bl s) (by rw [bl_len]; omega) hf
  have HTX := alW_few2 (s := bl s) (by rw [bl_len]; omega)
  have HA := fun wx (h : Vr wx) => all_any s wx h
  have HC := fun wx (h : Vr wx) => of_any s wx h
  have HD := fun wx (h : Vr wx) => of_any (ba (sayF (alW (bl s)).1)) wx h
  rw [bl_ba, hS1] at HD
  clear hS1
  obtain ⟨⟨Lc, fc⟩, hF⟩ : ∃ F, F = ofF (bl s) := ⟨_, rfl⟩
  rw [← hF] at HC HD hS2
  simp only at hS2
  subst hS2
  obtain ⟨⟨ws, f⟩, hR⟩ : ∃ R, R = alW (bl s) := ⟨_, rfl⟩
  rw [← hR] at HA HD hS3 hS4 HTX hf
  simp only at hf HD hS3 hS4 HTX
  subst hf
  have nea := ne_ft ok0
  have eqa := eq_ft ok0
  simp only [decide_true, Bool.not_true] at nea eqa
  unfold ftC ok0 at nea eqa
  simp only at nea eqa
  have HA := hide HA
  have HC := hide HC
  have HD := hide HD
  have HS3 := hide hS3
  have HTX := hide HTX
  clear hR hF hS3 hS4 hsm
  go_enter Tryz.func3, Tryz.ntmps3
  go_wp2_with (first | (go_at_call 4; refine (unhide L7).mono ?_; rintro e w1 ⟨rfl, b1⟩) | (go_at_call 5; (with_reducible refine (unhide HA w1 ((unhide HV).later b1)).mono ?_); rintro e w2 ⟨ao, n, c, rfl, m2, q2⟩; have b2 := belT b1 q2) | (with_reducible show wpList Tryz.prog _ _ (Oper.mk _ (Op.alloc 26) _ _ _ none :: _) _ _; refine wpList_alT rfl rfl ?_; intro w3 f3 q3 t3; clear t3; have m3 := m2.later q3; have b3 := belT b2 q3) | (with_reducible show wpList Tryz.prog _ _ (Oper.mk _ (Op.store 26 _ _) _ _ _ none :: _) _ _; refine wpList_stT rfl (.tmp 4) _ rfl w2.heap.size ⟨0, 0⟩ ⟨0, 0⟩ (by simp [Act.eval, Act.put]) (by simp [Act.eval, Act.put, ftC, ok0]) f3 ?_; intro w4 f4 g4 t4; clear t4; have y0 := tbk_0 f4; have y1 := tbk_1 f4; have m4 := m3.keep (fun k hk => g4.block k (m3.ob hk).2 (Nat.ne_of_lt (m2.ob hk).2)); have b4 := belowG b3 g4 b2.size b3.size))
  have HM4 := hide m4
  have HB4 := hide b4
  have hln := m4.ss.len
  have hle := m4.ss.le
  have hmx := m4.ss.max
  have HLN := hide hln
  clear hln m2 m3 m4 f3 f4 g4 q2 q3 b1 b2 b3 b4
  go_loopw [7, 8] (fun bv iv wr => ∃ (j : Nat) (bo : Option Addr) (m d : Nat), j ≤ n ∧ iv = .int .i64 (j : Int) ∧ bv = .slice bo m d ∧ Mine w4.heap.size wr bo m d (nums (ba (sayF (ws.take j)))) ∧ Below w4.heap.size w4 wr) (fun _ iv _ => n - (intOf iv).toNat)
  case atStart => exact ⟨0, .none, 0, 0, Nat.zero_le _, rfl, rfl, Mine.nought _ _, Below.refl _ _⟩
  case round =>
    obtain ⟨j, bo, m, d, hj, rfl, rfl, hM, hbj⟩ := hrel
    have hml := hM.len
    rw [nums_length, ba_size] at hml
    have hm0 : m ≤ 34000 := by
      have := say_few ws j
      have := unhide HS3
      omega
    have HM := hide hM
    have HBJ := hide hbj
    clear hM hbj hml
    by_cases hlt : j < n
    · have hlt2 : ((j : Nat) : Int) < (n : Int) := by omega
      obtain ⟨x, hx⟩ : ∃ p, ws[j]? = some p := ⟨_, List.getElem?_eq_getElem (by rw [unhide HLN]; exact hlt)⟩
      have hxs := HTX
      have W := (unhide HM4).ss.later (unhide HBJ)
      have hcut := fun wx => run_cutW_lh ao n c j (j + 1) (by omega) (by omega) (j : Int) ((j : Int) + 1) rfl (by omega) wx
      have CP := hide (fun wx (h : Vr wx) (k : Wds wx (cutW ao c j) (j + 1 - j) (c - j) [x]) => scPlain_any (cutW ao c j) (j + 1 - j) (c - j) [x] wx h k (by omega) (by
        intro y hy
        rw [List.mem_singleton.1 hy]
        exact unhide HTX x (List.mem_of_getElem? hx)))
      rw [told_one, show j + 1 - j = 1 by omega] at CP
      rw [show j + 1 - j = 1 by omega] at hcut
      have hsay := hide (say_at hx)
      obtain ⟨b5, o5, i5, a5⟩ := W.idx hx (j : Int) rfl
      have h1 := W.one hx
      rw [show j + 1 - j = 1 by omega] at h1
      have hz : (ba (told x)).size ≤ 8004 := by
        have := told_len x
        have := unhide HTX x (List.mem_of_getElem? hx)
        rw [ba_size]
        omega
      have hn1 : IntKind.i64.wrap ((j : Int) + 1) = (j : Int) + 1 := by rw [IntKind.wrap_i64]; omega
      by_cases hk : x.k = 1
      · have ht : told x = bl x.tx := by simp [told, hk]
        have htl : tol x = upp (bl x.tx) := by unfold tol; rw [if_pos hk]
        rw [ht, ba_bl] at CP hz
        rw [htl] at hsay
        obtain ⟨p0, p1, p2⟩ := katW_c a5
        have HA5 := hide a5
        have HX1 := hide h1
        obtain ⟨xk, T, xa⟩ := x
        simp only at hk CP hz hsay p0 p1 p2
        subst hk
        have HXX := hx
        clear a5 h1 ht htl hx hxs W
        have hcv := fun wx => run_toBytes T wx
        go_wp2_with (go_at_call 7; (with_reducible refine (unhide CP wr ((unhide HV).later (belT (unhide HB4) (unhide HBJ))) (unhide HX1)).mono ?_); rintro e w6 ⟨rfl, q6⟩)
        have hc1 := grownCap_ge w6 T.size 0 5
        have hc2 := grownCap_le_maxLen w6 T.size 0 5 (by unfold maxLen; omega)
        unfold maxLen at hc2
        have L0 := hide (Lws.first T w6 (by omega))
        have HB6 := hide (below_bytesWorld w6 5 T)
        have Q6 := hide q6
        generalize grownCap w6 T.size 0 5 = cc at *
        generalize Lib.bytesWorld w6 5 T = w7 at *
        clear q6 hcv p0 p1 p2 i5 hcut
        go_loopw [10] (fun kv wk => ∃ q : Nat, q ≤ T.size ∧ kv = .int .i64 (q : Int) ∧ Ups T w6.heap.size q wk ∧ Below w6.heap.size w6 wk) (fun kv _ => T.size - (intOf kv).toNat)
        case atStart => exact ⟨0, Nat.zero_le _, rfl, Ups.of _ _ _ (unhide L0), unhide HB6⟩
        case round =>
          obtain ⟨q, hq, rfl, hU, hbk⟩ := hrel
          have HU := hide hU
          have HBK := hide hbk
          have BT := hide (belT (unhide Q6) hbk)
          clear hU hbk
          obtain ⟨b5, o5, i5, a5⟩ := ((unhide HM4).ss.later ((unhide HBJ).trans ((unhide BT).mono (unhide HBJ).size))).idx HXX (j : Int) rfl
          obtain ⟨r0, r1, r2⟩ := katW_c a5
          simp only at r0 r1 r2
          clear a5
          by_cases hlt3 : q < T.size
          · have hlt4 : ((q : Nat) : Int) < (T.size : Int) := by omega
            have hix := fun wx => run_idxOwn1 w6.heap.size T.size cc hlt3 (q : Int) rfl wx
            have cv := (unhide HU q hlt3).1
            rw [if_neg (Nat.lt_irrefl q)] at cv
            have fr := (unhide HU q hlt3).2
            have e0 := (lwAt_b T q).1
            have e1 := (lwAt_b T q).2
            have HS := hide (fun v => (unhide HU).stored hlt3 v)
            have HK := hide ((unhide HU).kept (j := q))
            generalize hxq : lwAt T q = X at *
            by_cases h1 : 97 ≤ X ∧ X ≤ 122
            · have hv := hide (show X - 32 = upI X by unfold upI; rw [if_pos h1])
              obtain ⟨h1, h2⟩ := h1
              clear hxq HK
              go_wp2_with fail
              go_roundw
              case rel => exact ⟨q + 1, by omega, by go_num, unhide HS _ (unhide hv), (unhide HBK).setCell (Nat.le_refl _) _⟩
              case measure => simp [intOf]; omega
            · have hv := hide (show upI X = X by unfold upI; rw [if_neg h1])
              clear hxq HS
              have h3 : X < 97 ∨ (97 ≤ X ∧ 122 < X) := by omega
              rcases h3 with h3 | ⟨h3, h4⟩
              all_goals
                go_wp2_with fail
                go_roundw
                case rel => exact ⟨q + 1, by omega, by go_num, unhide HK (unhide hv), unhide HBK⟩
                case measure => simp [intOf]; omega
          · have hqT : ¬ ((q : Nat) : Int) < (T.size : Int) := by omega
            have hbs := hide ((unhide HU).bs (by omega) hc1 hc2)
            have hM5 := hide ((unhide HM).later (unhide BT))
            have hsz := Nat.le_trans (unhide HBJ).size (unhide BT).size
            have hup : (nums (ba (upp (bl T)))).length = T.size := (unhide hbs).len
            have BW := hide ((unhide HBJ).trans ((unhide BT).mono (unhide HBJ).size))
            have z9 : (⟨#[32, 47, 42, 32, 59, 32, 42, 47, 32]⟩ : ByteArray).size = 9 := rfl
            go_wp2_with (first | (at_builtin; refine wpList_app rfl _ _ rfl w4.heap.size bo m d _ (by simp [Act.eval, Act.put]) (unhide hM5) _ _ _ _ (by simp [Act.eval, Act.put]) (unhide hbs) (by omega) hsz ?_; intro ao1 c1 w8 m8 b8) | (at_builtin; refine wpList_appT rfl _ _ rfl w4.heap.size ao1 (m + T.size) c1 _ (by simp [Act.eval, Act.put]) m8 ⟨#[32, 47, 42, 32, 59, 32, 42, 47, 32]⟩ (by simp [Act.eval, Act.put]) (by omega) (Nat.le_trans hsz b8.size) ?_; intro ao2 c2 w9 m9 b9))
            go_roundw
            case rel => exact ⟨j + 1, ao2, _, c2, by omega, by go_num, rfl, by
              rw [unhide hsay, nums_app, nums_app, ← List.append_assoc]; exact m9, (unhide BW).trans (b8.trans b9)⟩
            case measure => simp [intOf]; omega
      · have htl : tol x = told x := by unfold tol; rw [if_neg hk]
        obtain ⟨T, hT⟩ : ∃ T, T = ba (told x) := ⟨_, rfl⟩
        have hbT : told x = bl T := by rw [hT, bl_ba]
        rw [← hT] at CP hz
        rw [htl, hbT] at hsay
        have HX1 := hide h1
        obtain ⟨xk, tx, xa⟩ := x
        simp only at hk
        have hk0 : (xk == 1) = false := by simpa using hk
        have HXX := hx
        clear a5 h1 htl hx hxs W hT hbT i5
        have hcv := fun wx => run_toBytes T wx
        go_wp2_with (go_at_call 7; (with_reducible refine (unhide CP wr ((unhide HV).later (belT (unhide HB4) (unhide HBJ))) (unhide HX1)).mono ?_); rintro e w6 ⟨rfl, q6⟩)
        have hc1 := grownCap_ge w6 T.size 0 5
        have hc2 := grownCap_le_maxLen w6 T.size 0 5 (by unfold maxLen; omega)
        unfold maxLen at hc2
        have L0 := hide (Lws.first T w6 (by omega))
        have HB6 := hide (below_bytesWorld w6 5 T)
        have Q6 := hide q6
        generalize grownCap w6 T.size 0 5 = cc at *
        generalize Lib.bytesWorld w6 5 T = w7 at *
        clear q6 hcv hcut
        go_loopw [10] (fun kv wk => kv = .int .i64 0 ∧ Lws T w6.heap.size 0 wk ∧ Below w6.heap.size w6 wk) (fun _ _ => 0)
        case atStart => exact ⟨rfl, unhide L0, unhide HB6⟩
        case round =>
          obtain ⟨rfl, hU, hbk⟩ := hrel
          have HU := hide hU
          have HBK := hide hbk
          have BT := hide (belT (unhide Q6) hbk)
          clear hU hbk
          obtain ⟨b5, o5, i5, a5⟩ := ((unhide HM4).ss.later ((unhide HBJ).trans ((unhide BT).mono (unhide HBJ).size))).idx HXX (j : Int) rfl
          obtain ⟨r0, r1, r2⟩ := katW_c a5
          simp only at r0 r1 r2
          clear a5
          have hbs := hide ((unhide HU).bs0 hc1 hc2)
          have hM5 := hide ((unhide HM).later (unhide BT))
          have hsz := Nat.le_trans (unhide HBJ).size (unhide BT).size
          have BW := hide ((unhide HBJ).trans ((unhide BT).mono (unhide HBJ).size))
          have z9 : (⟨#[32, 47, 42, 32, 59, 32, 42, 47, 32]⟩ : ByteArray).size = 9 := rfl
          have hcase : (0 : Int) < (T.size : Int) ∨ ¬ (0 : Int) < (T.size : Int) := by omega
          rcases hcase with hT0 | hT0
          all_goals
            go_wp2_with (first | (at_builtin; refine wpList_app rfl _ _ rfl w4.heap.size bo m d _ (by simp [Act.eval, Act.put]) (unhide hM5) _ _ _ _ (by simp [Act.eval, Act.put]) (unhide hbs) (by omega) hsz ?_; intro ao1 c1 w8 m8 b8) | (at_builtin; refine wpList_appT rfl _ _ rfl w4.heap.size ao1 (m + T.size) c1 _ (by simp [Act.eval, Act.put]) m8 ⟨#[32, 47, 42, 32, 59, 32, 42, 47, 32]⟩ (by simp [Act.eval, Act.put]) (by omega) (Nat.le_trans hsz b8.size) ?_; intro ao2 c2 w9 m9 b9))
            go_roundw
            case rel => exact ⟨j + 1, ao2, _, c2, by omega, by go_num, rfl, by
              rw [unhide hsay, nums_app, nums_app, ← List.append_assoc]; exact m9, (unhide BW).trans (b8.trans b9)⟩
            case measure => simp [intOf]; omega
    · have hjn : j = n := by omega
      subst hjn
      have hM := unhide HM
      rw [List.take_of_length_le (by rw [unhide HLN]; exact Nat.le_refl _)] at hM
      have HMF := hide hM
      have BW := hide (belT (unhide HB4) (unhide HBJ))
      have SC := hide (fun xo xn xc yo yn yc wx (h : Kcs wx xo xn xc Lc) (k : Kcs wx yo yn yc Lc) => sameClasses_any xo xn xc Lc yo yn yc Lc wx h k)
      simp only [decide_true] at SC
      clear hM HM
      go_wp2_with (first | (go_at_call 6; (with_reducible refine (unhide HC wr ((unhide HV).later (unhide BW))).mono ?_); rintro e w5 ⟨xo, xn, xc, rfl, m5, q5⟩; have b5 := belT (unhide BW) q5; have s5 := (unhide HMF).later q5) | (with_reducible show wpList Tryz.prog _ _ (Oper.mk _ (Op.alloc 26) _ _ _ none :: _) _ _; refine wpList_alT rfl rfl ?_; intro w6 f6 q6 t6; clear t6; have m6 := m5.later q6) | (with_reducible show wpList Tryz.prog _ _ (Oper.mk _ (Op.store 26 _ _) _ _ _ none :: _) _ _; refine wpList_stT rfl (.tmp 12) _ rfl w5.heap.size ⟨0, 0⟩ ⟨0, 0⟩ (by simp [Act.eval, Act.put]) (by simp [Act.eval, Act.put, ftC, ok0]) f6 ?_; intro w7 f7 g7 t7; clear t7; have z57 := belowG q6 g7 (Nat.le_refl _) q6.size; have b7 := belT b5 z57; have m7 := m5.later z57; have s7 := s5.later z57; have hst := s7.bs.str; rw [str_nums] at hst) | (go_at_call 6; (with_reducible refine (unhide HD w7 ((unhide HV).later b7)).mono ?_); rintro e w8 ⟨yo, yn, yc, rfl, m8, q8⟩; have b8 := belT b7 q8; have m8' := m7.later q8; have f8 := f7.later q8) | (with_reducible show wpList Tryz.prog _ _ (Oper.mk _ (Op.alloc 26) _ _ _ none :: _) _ _; refine wpList_alT rfl rfl ?_; intro w9 f9 q9 t9; clear t9) | (with_reducible show wpList Tryz.prog _ _ (Oper.mk _ (Op.store 26 _ _) _ _ _ none :: _) _ _; refine wpList_stT rfl (.tmp 14) _ rfl w8.heap.size ⟨0, 0⟩ ⟨0, 0⟩ (by simp [Act.eval, Act.put]) (by simp [Act.eval, Act.put, ftC, ok0]) f9 ?_; intro wA fA gA tA; clear tA; have z8A := belowG q9 gA (Nat.le_refl _) q9.size; have bA := belT b8 z8A; have mA := m8.later z8A; have mA' := m8'.later z8A; have fA' := f8.later z8A; have u0 := tbk_0 fA'; have u1 := tbk_1 fA'; have v0 := tbk_0 fA; have v1 := tbk_1 fA) | (go_at_call 8; (with_reducible refine (unhide SC xo xn xc yo yn yc wA mA'.ss mA.ss).mono ?_); rintro e wB ⟨rfl, qB⟩; have bB := belT bA qB))
      go_ret
      exact ⟨rfl, bB⟩

theorem lawKlCase (s : ByteArray) (w : World) (hV : Vr w) (hss : s.size ≤ 9223372036854775807) :
    Calls Tryz.prog 3 #[.string s] w (OutB w true) := by
  by_cases hbig : 2000 < s.size
  · exact kcBig s w hV hbig hss
  · by_cases hf : (alW (bl s)).2 = ok0
    · exact kcGood s w hV hbig hf
    · exact kcBad s w hV hbig hf

end Go.Proofs.YtddfbaaghjcbnaaGreatDoor
