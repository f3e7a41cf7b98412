/-
  RowBack walked: a row that is written is read back, value by value; a byte less is too short, a byte more is wrong. Conditions: texts of at most 2 to the 40 bytes.
-/
import Derived.Test.YtkcblnojgonblaaRwRbi
import Derived.Test.YtkcblnojgonblaaRwLives
import Derived.Test.YtkcblnojgonblaaRwSv
import Derived.Test.YtkcblnojgonblaaClPick
import Derived.Deep.DeepCutAuto
namespace Go.Proofs.Ytkcblnojgonblaa
open Go.RowKit
set_option linter.unusedVariables false
set_option linter.unusedSimpArgs false

/-- What stands through the walk: the values and the types. -/
structure Rk (w0 : World) (ao : Option Addr) (n c : Nat) (l : List Va) (tyo : Option Addr) (m tc : Nat) (ts : List Ty) (w : World) : Prop where
  hl : Vs w ao n c l
  ht : Tys w tyo m tc ts
  bel : Below w0.heap.size w0 w
theorem Rk.later {w0 : World} {ao : Option Addr} {n c : Nat} {l : List Va} {tyo : Option Addr} {m tc : Nat} {ts : List Ty} {w w' : World} (h : Rk w0 ao n c l tyo m tc ts w) (q : Below w.heap.size w w') : Rk w0 ao n c l tyo m tc ts w' := ⟨h.hl.later q, h.ht.later q, h.bel.trans (q.mono h.bel.size)⟩
theorem outP_te {w : World} {ok : Bool} {L : List Int} {e : Ending} {w' : World} (h : OutP w (if ok = true then some ([] ++ L) else none) e w') : ∃ xo xn xc E LB, e = .returned (.tuple #[.slice xo xn xc, .int .i64 E]) ∧ Mine w.heap.size w' xo xn xc LB ∧ (E = 0 → ok = true ∧ LB = L) ∧ Below w.heap.size w w' := by
  rw [List.nil_append] at h
  cases ok
  · rw [if_neg (by decide)] at h
    obtain ⟨h1, h2⟩ := h
    exact ⟨none, 0, 0, 2, [], h1, Mine.nought _ _, fun z => absurd z (by decide), h2⟩
  · rw [if_pos rfl] at h
    obtain ⟨xo, xn, xc, h1, h2, h3⟩ := h
    exact ⟨xo, xn, xc, 0, L, h1, h2, fun _ => ⟨rfl, rfl⟩, h3⟩
theorem outN_te {w : World} {l : List Va} {z : List (Va × Ty)} {e : Ending} {w' : World} (h : OutN w true [] l z e w') : ∃ nl xo xn xc, Isn l nl ∧ e = .returned (.tuple #[.slice xo xn xc, .int .i64 0]) ∧ Mine w.heap.size w' xo xn xc (rbA nl z) ∧ Below w.heap.size w w' := by
  unfold OutN at h
  rw [if_pos rfl] at h
  obtain ⟨nl, xo, xn, xc, h1, h2, h3, h4⟩ := h
  exact ⟨nl, xo, xn, xc, h1, h2, h3, h4⟩
theorem outN_no {w : World} {l : List Va} {z : List (Va × Ty)} {e : Ending} {w' : World} (h : OutN w false [] l z e w') : e = .returned (.tuple #[.slice none 0 0, .int .i64 2]) ∧ Below w.heap.size w w' := by
  unfold OutN at h
  rwa [if_neg (by decide)] at h
theorem rtB_sm : ∀ l : List Va, (rtB l).length ≤ sm l + 20 * l.length
  | [] => by simp [rtB]
  | v :: l => by
    have h1 := tx1_len v
    have ih := rtB_sm l
    show (tx1 v ++ rtB l).length ≤ (v.t.size + sm l) + _
    rw [List.length_append, List.length_cons]
    omega
theorem rbB_sm : ∀ (l : List Va) (ts : List Ty), (rbB (l.zip ts)).length ≤ sm l + 20 * l.length
  | [], _ => by simp [rbB]
  | v :: l, [] => by simp [rbB]
  | v :: l, p :: ts => by
    have h1 := bn1_len (v, p)
    have ih := rbB_sm l ts
    show (bn1 (v, p) ++ rbB (l.zip ts)).length ≤ (v.t.size + sm l) + _
    rw [List.length_append, List.length_cons]
    simp only at h1
    omega
theorem rtR_n {b : List Int} {n : Nat} (hn : n ≤ 4096) : rtR b (n : Int) = gat (fun _ => tn) n b := by
  unfold rtR
  rw [if_neg (by omega), Int.toNat_natCast]

set_option maxHeartbeats 8000000 in
set_option maxRecDepth 100000 in
theorem lawRwBack (ao : Option Addr) (n c : Nat) (l : List Va) (tyo : Option Addr) (m tc : Nat) (ts : List Ty) (cut more : Int) (w : World) (hl : Vs w ao n c l) (ht : Tys w tyo m tc ts) (hK : ∀ v ∈ l, VaK v ∧ v.t.size ≤ 1099511627776) (hT : ∀ p ∈ ts, 0 ≤ p.t ∧ p.t < 256) (hm0 : 0 ≤ more) (hm1 : more ≤ 255) :
    Calls Try.prog 4 #[.slice ao n c, .slice tyo m tc, .int .i64 cut, .int .u8 more] w fun e w' => e = .returned (.bool true) ∧ Below w.heap.size w w' := by
  have cL := hide (rwLives_any w)
  have R0 := hide (show Rk w ao n c l tyo m tc ts w from ⟨hl, ht, Below.refl _ _⟩)
  have cS := hide (fun wx (hx : Rk w ao n c l tyo m tc ts wx) => rwSmall_any ao n c l tyo m tc ts wx hx.hl hx.ht (fun v hv => (hK v hv).2))
  have HK := hide (fun v hv => (hK v hv).1)
  have HT := hide hT
  have hln := hl.len
  have hle := hl.le
  have hmx := hl.max
  have hml := ht.len
  have htl := ht.le
  have htx := ht.max
  clear hl ht hK hT
  go_enter Try.func4, Try.ntmps4
  go_wp2_with fail
  refine (unhide cL).mono ?_
  rintro e w1 ⟨rfl, b1⟩
  have R1 := hide ((unhide R0).later b1)
  clear b1 cL R0
  go_wp2_with fail
  refine (unhide cS _ (unhide R1)).mono ?_
  rintro e w2 ⟨⟨bv, rfl, hbv⟩, rfl⟩
  cases bv
  · clear cS hbv
    go_wp2_with fail
    go_ret
    exact ⟨rfl, (unhide R1).bel⟩
  obtain ⟨hn, hm, hsz, hsum⟩ := hbv rfl
  have HK3 := hide (show ∀ v ∈ l, VaK v ∧ v.t.size ≤ 3000 from fun v hv => ⟨unhide HK v hv, hsz v hv⟩)
  have HLT := hide (show (rtB l).length ≤ 4200 by have := rtB_sm l; omega)
  have HLB := hide (show (rbB (l.zip ts)).length ≤ 4200 by have := rbB_sm l ts; omega)
  have cT := hide (fun wx (hx : Rk w ao n c l tyo m tc ts wx) => (appText_any none 0 0 [] ao n c l wx (Bs.nought _) hx.hl (unhide HK3) hn (by omega)).mono fun _ _ h => outP_te h)
  have cB := hide (fun wx (hx : Rk w ao n c l tyo m tc ts wx) => appBin_any none 0 0 [] ao n c l tyo m tc ts wx (Bs.nought _) hx.hl hx.ht (unhide HK3) (unhide HT) hn hm (by omega))
  have QT := hide (fun (h : rtOk l = true) => show rtR (rtB l) (n : Int) = (l, 0) by rw [rtR_n (by omega), ← hln]; exact tat_back (unhide HK3) h)
  have QM := hide (fun (h : rtOk l = true) => show rtR (rtB l ++ [more]) (n : Int) = ([], 5) by rw [rtR_n (by omega), ← hln]; exact tat_more (unhide HK3) h more)
  have QC := hide (fun (h : rtOk l = true) (i : Nat) (hi : i < (rtB l).length) => show rtR ((rtB l).take i) (n : Int) = ([], 4) by rw [rtR_n (by omega), ← hln]; exact tat_cut (unhide HK3) h hi)
  clear cS hbv hsz HK hsum
  go_wp2_with fail
  refine (unhide cT _ (unhide R1)).mono ?_
  rintro e w3 ⟨xo, xn, xc, E, LB, rfl, hM, hok, b3⟩
  have R3 := hide ((unhide R1).later b3)
  have HM := hide hM.bs
  have HOK := hide hok
  have hxl := hM.len
  have hxle := hM.bs.le
  have hxmx := hM.bs.max
  clear b3 hM hok cT R1
  go_upto_if 35 with fail
  go_cut [] (fun wx => Rk w ao n c l tyo m tc ts wx)
  case first =>
    by_cases he : E = 0
    · have he' : (E == 0) = true := by simpa using he
      obtain ⟨hk, hB⟩ := unhide HOK he
      have q1 := unhide QT hk
      have q2 := unhide QM hk
      have q3 := unhide QC hk
      have q4 := unhide HLT
      rw [← hB] at q1 q2 q3 q4
      have PC := hide q3
      have cR1 := hide (rowText_any xo xn xc LB (n : Int) w3 (unhide HM) (by omega))
      rw [q1] at cR1
      have PM := hide q2
      have hx9 : xn ≤ 4200 := by omega
      subst he
      clear hk hB q1 q2 q3 q4 QT QM QC he' HOK
      go_wp2_with fail
      refine (unhide cR1).mono ?_
      rintro e w4 ⟨ro, rn, rc, rfl, m4, b4⟩
      have R4 := hide ((unhide R3).later b4)
      have M4 := hide ((unhide HM).later b4)
      have V4 := hide m4.ss
      clear m4 b4 cR1 R3 HM
      go_wp2_with (first
        | (at_builtin; refine wpList_app rfl (.tmp 44) (.tmp 45) rfl w4.heap.size _ _ _ _ rfl (Mine.empty w4) _ _ _ _ rfl ((unhide M4).later (below_alloc w4 _)) (by omega) (by simp) ?_; intro o12 k12 w12 m12 b12; rw [Nat.zero_add, List.nil_append] at m12; have M12 := hide m12; have B12 := hide ((below_alloc w4 (.cells #[] 5)).trans b12); clear m12 b12; have hz12 := (unhide B12).size)
        | (at_builtin; refine wpList_app rfl (.tmp 46) (.tmp 48) rfl w4.heap.size _ _ _ _ rfl ((unhide M12).later (below_alloc w12 _)) _ _ _ _ rfl (Bs.one w12 more hm0 hm1) (by omega) (by simp; omega) ?_; intro o13 k13 w13 m13 b13; have M13 := hide m13; have B13 := hide (((unhide B12).trans ((below_alloc w12 _).mono hz12)).trans b13); clear m13 b13))
      have R13 := hide ((unhide R4).later (unhide B13))
      have MM13 := hide ((unhide M4).later (unhide B13))
      have V13 := hide ((unhide V4).later (unhide B13))
      have cR2 := hide (rowText_any o13 (xn + 1) k13 (LB ++ [more]) (n : Int) w13 (unhide M13).bs (by rw [List.length_append, List.length_singleton]; omega))
      rw [unhide PM] at cR2
      clear M12 B12 hz12 B13 M13 R4 M4 V4 PM
      refine (unhide cR2).mono ?_
      rintro e w5 ⟨ro2, rn2, rc2, rfl, m5, b5⟩
      have R5 := hide ((unhide R13).later b5)
      have M5 := hide ((unhide MM13).later b5)
      have cSV := hide (sameValues_self ao n c ro rn rc l w5 (unhide R5).hl ((unhide V13).later b5))
      clear m5 b5 cR2 R13 MM13 V13
      go_wp2_with fail
      refine (unhide cSV).mono ?_
      rintro e w6 ⟨rfl, b6⟩
      have R6 := hide ((unhide R5).later b6)
      have M6 := hide ((unhide M5).later b6)
      clear b6 cSV R5 M5
      by_cases hz : 0 < xn
      · have hz' : (0 : Int) < (xn : Int) := by omega
        have cP := hide (pick_any cut (xn : Int) w6 (by omega) (by omega))
        go_wp2_with fail
        refine (unhide cP).mono ?_
        rintro e w7 ⟨⟨r, rfl, r0, r1⟩, hw7⟩
        have hw7' := hw7.symm
        subst hw7'
        clear hw7 cP
        obtain ⟨I, rfl⟩ := Int.eq_ofNat_of_zero_le r0
        obtain ⟨yo, yc, hcut, hyb⟩ := (unhide M6).cut_h (hi := I) (by omega) (I : Int) rfl
        have cR3 := hide (rowText_any yo I yc (LB.take I) (n : Int) w6 hyb (by rw [List.length_take]; omega))
        rw [unhide PC I (by omega)] at cR3
        clear hyb r0 PC
        go_wp2_with fail
        refine (unhide cR3).mono ?_
        rintro e w8 ⟨ro3, rn3, rc3, rfl, m8, b8⟩
        have R8 := hide ((unhide R6).later b8)
        clear m8 b8 cR3 R6 M6 hcut r1
        go_wp2_with fail
        go_meet
        exact unhide R8
      · have hz' : ¬ (0 : Int) < (xn : Int) := by omega
        go_wp2_with fail
        go_meet
        exact unhide R6
    · have he' : (E == 0) = false := by simpa using he
      clear he HOK
      go_wp2_with fail
      go_meet
      exact unhide R3
  have S3 := hide hcut
  clear hcut HOK HM R3 QT QM QC HLT hxl hxle hxmx
  cases hOK : (decide (l.length = ts.length) && rbOk (l.zip ts))
  · rw [hOK] at cB
    clear hOK
    go_wp2_with fail
    refine (unhide cB _ (unhide S3)).mono ?_
    intro e w4 h4
    obtain ⟨rfl, b4⟩ := outN_no h4
    have S4 := hide ((unhide S3).later b4)
    clear b4 h4 cB S3
    go_wp2_with fail
    go_ret
    exact ⟨rfl, (unhide S4).bel⟩
  rw [hOK] at cB
  rw [Bool.and_eq_true, decide_eq_true_eq] at hOK
  obtain ⟨hlt, hrb⟩ := hOK
  go_wp2_with fail
  refine (unhide cB _ (unhide S3)).mono ?_
  intro e w4 h4
  obtain ⟨nl, zo, zn, zc, hI, rfl, hM, b4⟩ := outN_te h4
  have S4 := hide ((unhide S3).later b4)
  have HM := hide hM.bs
  have hzl := hM.len
  have hzle := hM.bs.le
  have hzmx := hM.bs.max
  have q1 := rbR_back hI hlt (by omega) (unhide HK3) hrb
  have q2 := rbR_more hI hlt (by omega) (unhide HK3) hrb more
  have q3 := fun i (hi : i < (rbA nl (l.zip ts)).length) => rbR_cut hI hlt (by omega) (unhide HK3) hrb hi
  have hzn : 0 < zn ∧ zn ≤ 4300 := by
    have h1 := hI.len
    have h2 := unhide HLB
    rw [rbA_eq, List.length_cons, List.length_append] at hzl
    omega
  generalize rbA nl (l.zip ts) = LB at *
  have cR1 := hide (readBin_any zo zn zc LB tyo m tc ts w4 (unhide HM) (unhide S4).ht (unhide HT) (by omega))
  rw [q1] at cR1
  have PM := hide q2
  have PC := hide q3
  obtain ⟨hz0, hz9⟩ := hzn
  have hz1 : ((zn : Int) == 0) = false := by rw [beq_eq_false_iff_ne]; omega
  clear h4 b4 hM hI q1 q2 q3 cB S3 hrb HLB HK3
  go_wp2_with fail
  refine (unhide cR1).mono ?_
  rintro e w5 ⟨ro, rn, rc, rfl, m5, b5⟩
  have S5 := hide ((unhide S4).later b5)
  have M5 := hide ((unhide HM).later b5)
  have V5 := hide m5.ss
  have cP := hide (pick_any cut (zn : Int) w5 (by omega) (by omega))
  clear m5 b5 cR1 S4 HM
  go_wp2_with fail
  refine (unhide cP).mono ?_
  rintro e w6 ⟨⟨r, rfl, r0, r1⟩, hw6⟩
  have hw6' := hw6.symm
  subst hw6'
  clear hw6 cP
  obtain ⟨I, rfl⟩ := Int.eq_ofNat_of_zero_le r0
  obtain ⟨yo, yc, hcut, hyb⟩ := (unhide M5).cut_h (hi := I) (by omega) (I : Int) rfl
  have cR3 := hide (readBin_any yo I yc (LB.take I) tyo m tc ts w5 hyb (unhide S5).ht (unhide HT) (by rw [List.length_take]; omega))
  rw [unhide PC I (by omega)] at cR3
  clear hyb r0 PC
  go_wp2_with fail
  refine (unhide cR3).mono ?_
  rintro e w7 ⟨ro3, rn3, rc3, rfl, m7, b7⟩
  have S7 := hide ((unhide S5).later b7)
  have M7 := hide ((unhide M5).later b7)
  have V7 := hide ((unhide V5).later b7)
  clear m7 b7 cR3 S5 M5 V5 hcut r1
  go_wp2_with (first
        | (at_builtin; refine wpList_app rfl (.tmp 116) (.tmp 117) rfl w7.heap.size _ _ _ _ rfl (Mine.empty w7) _ _ _ _ rfl ((unhide M7).later (below_alloc w7 _)) (by omega) (by simp) ?_; intro o12 k12 w12 m12 b12; rw [Nat.zero_add, List.nil_append] at m12; have M12 := hide m12; have B12 := hide ((below_alloc w7 (.cells #[] 5)).trans b12); clear m12 b12; have hz12 := (unhide B12).size)
        | (at_builtin; refine wpList_app rfl (.tmp 118) (.tmp 120) rfl w7.heap.size _ _ _ _ rfl ((unhide M12).later (below_alloc w12 _)) _ _ _ _ rfl (Bs.one w12 more hm0 hm1) (by omega) (by simp; omega) ?_; intro o13 k13 w13 m13 b13; have M13 := hide m13; have B13 := hide (((unhide B12).trans ((below_alloc w12 _).mono hz12)).trans b13); clear m13 b13))
  have S13 := hide ((unhide S7).later (unhide B13))
  have V13 := hide ((unhide V7).later (unhide B13))
  have cR2 := hide (readBin_any o13 (zn + 1) k13 (LB ++ [more]) tyo m tc ts w13 (unhide M13).bs (unhide S13).ht (unhide HT) (by rw [List.length_append, List.length_singleton]; omega))
  rw [unhide PM] at cR2
  clear M12 B12 hz12 B13 M13 S7 M7 V7 PM
  refine (unhide cR2).mono ?_
  rintro e w8 ⟨ro2, rn2, rc2, rfl, m8, b8⟩
  have S8 := hide ((unhide S13).later b8)
  have cSV := hide (sameValues_self ao n c ro rn rc l w8 (unhide S8).hl ((unhide V13).later b8))
  clear m8 b8 cR2 S13 V13
  go_wp2_with fail
  refine (unhide cSV).mono ?_
  rintro e w9 ⟨rfl, b9⟩
  have S9 := hide ((unhide S8).later b9)
  clear b9 cSV S8
  go_wp2_with fail
  go_ret
  exact ⟨rfl, (unhide S9).bel⟩


end Go.Proofs.Ytkcblnojgonblaa
