/-
  RowTurned walked: a binary row turned into texts has as many values, and is nothing just where it was. Conditions: the library's variables read as their initialisers lay them; texts of at most 2 to the 40 bytes.
-/
import Derived.Test.YtkcblnojgonblaaGreatDoorMTn
import Derived.Test.YtkcblnojgonblaaGreatDoorMLi
import Derived.Deep.DeepCutAuto
namespace Go.Proofs.YtkcblnojgonblaaGreatDoor
open Go.RowKit
set_option linter.unusedVariables false
set_option linter.unusedSimpArgs false

/-- What stands through the walk: the values and the types. -/
structure Rk (w0 : World) (ao : Option Addr) (n c : Nat) (l : List Va) (tyo : Option Addr) (m tc : Nat) (ts : List Ty) (w : World) : Prop where
  hl : Vs w ao n c l
  ht : Tys w tyo m tc ts
  bel : Below w0.heap.size w0 w
theorem Rk.later {w0 : World} {ao : Option Addr} {n c : Nat} {l : List Va} {tyo : Option Addr} {m tc : Nat} {ts : List Ty} {w w' : World} (h : Rk w0 ao n c l tyo m tc ts w) (q : Below w.heap.size w w') : Rk w0 ao n c l tyo m tc ts w' := ⟨h.hl.later q, h.ht.later q, h.bel.trans (q.mono h.bel.size)⟩
theorem outN_te {w : World} {l : List Va} {z : List (Va × Ty)} {e : Ending} {w' : World} (h : OutN w true [] l z e w') : ∃ nl xo xn xc, Isn l nl ∧ e = .returned (.tuple #[.slice xo xn xc, .int .i64 0]) ∧ Mine w.heap.size w' xo xn xc (rbA nl z) ∧ Below w.heap.size w w' := by
  unfold OutN at h
  rw [if_pos rfl] at h
  obtain ⟨nl, xo, xn, xc, h1, h2, h3, h4⟩ := h
  exact ⟨nl, xo, xn, xc, h1, h2, h3, h4⟩
theorem outN_no {w : World} {l : List Va} {z : List (Va × Ty)} {e : Ending} {w' : World} (h : OutN w false [] l z e w') : e = .returned (.tuple #[.slice none 0 0, .int .i64 2]) ∧ Below w.heap.size w w' := by
  unfold OutN at h
  rwa [if_neg (by decide)] at h
theorem rtB_sm : ∀ l : List Va, (rtB l).length ≤ sm l + 20 * l.length
  | [] => by simp [rtB]
  | v :: l => by
    have h1 := tx1_len v
    have ih := rtB_sm l
    show (tx1 v ++ rtB l).length ≤ (v.t.size + sm l) + _
    rw [List.length_append, List.length_cons]
    omega
theorem rbB_sm : ∀ (l : List Va) (ts : List Ty), (rbB (l.zip ts)).length ≤ sm l + 20 * l.length
  | [], _ => by simp [rbB]
  | v :: l, [] => by simp [rbB]
  | v :: l, p :: ts => by
    have h1 := bn1_len (v, p)
    have ih := rbB_sm l ts
    show (bn1 (v, p) ++ rbB (l.zip ts)).length ≤ (v.t.size + sm l) + _
    rw [List.length_append, List.length_cons]
    simp only at h1
    omega
theorem rtR_n {b : List Int} {n : Nat} (hn : n ≤ 4096) : rtR b (n : Int) = gat (fun _ => tn) n b := by
  unfold rtR
  rw [if_neg (by omega), Int.toNat_natCast]

theorem tuR_at {nl : List Int} {l : List Va} {ts : List Ty} (hI : Isn l nl) (hlt : l.length = ts.length) (h4 : ts.length ≤ 4096) (hK : ∀ v ∈ l, VaK v ∧ v.t.size ≤ 3000) (h : rbOk (l.zip ts) = true) : tuR (rbA nl (l.zip ts)) ts = if ts.any noT = true then ([], 2) else (rtB (tuL l ts), 0) := by
  unfold tuR
  rw [rbR_back hI hlt h4 hK h, if_neg (fun z => z rfl)]
theorem rb_of {l : List Va} {ts : List Ty} (hlt : l.length = ts.length) (hK : ∀ v ∈ l, VaK v ∧ v.t.size ≤ 3000) (h : rbOk (l.zip ts) = true) : Rb l ts := by
  refine ⟨hlt, fun i v p hv hp => ?_⟩
  have hm := List.mem_of_getElem? hv
  have hok : vOk v p.t p.un = true := by
    unfold rbOk at h
    exact List.all_eq_true.1 h (v, p) (List.mem_of_getElem? (zip_at hv hp))
  exact ⟨(hK v hm).1, hok, (hK v hm).2⟩
/-- A value and its text, by cases. -/
theorem tu_cases {l : List Va} {ts : List Ty} (h : Rb l ts) {j : Nat} {v : Va} (hv : l[j]? = some v) : ∃ u, (tuL l ts)[j]? = some u ∧ ((v = va0 ∧ u = va0) ∨ (∃ S, v = ⟨7, 0, 0, S, wh0⟩ ∧ u = ⟨7, 0, 0, S, wh0⟩) ∨ (¬ v.k = 0 ∧ ¬ v.k = 7 ∧ ∃ S, u = ⟨7, 0, 0, S, wh0⟩)) := by
  have hj := (List.getElem?_eq_some_iff.1 hv).1
  obtain ⟨p, hp⟩ : ∃ p, ts[j]? = some p := ⟨_, List.getElem?_eq_getElem (by rw [← h.len]; exact hj)⟩
  have hg : ts.getD j ty0 = p := by rw [List.getD_eq_getElem?_getD, hp]; rfl
  obtain ⟨h1, h2, h3⟩ := h.at' j v p hv hp
  refine ⟨tuV v p, ?_, ?_⟩
  · unfold tuL
    rw [List.getElem?_mapIdx, hv]
    simp only [Option.map_some, hg]
  · by_cases hk : v.k = 0
    · left
      have := ok_nul h2 hk
      refine ⟨this, ?_⟩
      unfold tuV
      rw [if_pos hk, this]
    · right
      by_cases h7 : v.k = 7
      · left
        obtain ⟨q1, q2⟩ := ok_cases h2
        have q3 : fit v p.t = true := by
          rcases q2 with q2 | q2
          · rw [q2] at hk; exact absurd rfl hk
          · exact q2.2.2
        unfold fit at q3
        rw [if_neg (by omega), if_neg (by omega), if_neg (by omega), if_neg (by omega), if_pos h7] at q3
        simp only [Bool.and_eq_true, decide_eq_true_eq] at q3
        have q4 := q3.1
        rw [h7] at q4
        refine ⟨v.t, q4, ?_⟩
        unfold tuV
        rw [if_neg hk]
        have ht : tOk v p.t p.un = true := by
          unfold tOk
          rw [h2, h7]
          rfl
        rw [tx_ok ht]
        have : vaT v p.t = v.t.data.toList := by
          unfold vaT
          rw [if_neg (by omega), if_neg (by omega), if_neg (by omega), if_neg (by omega)]
        rw [this]
        rfl
      · exact .inr ⟨hk, h7, _, if_neg hk⟩
theorem rtR_n2 {b : List Int} {n : Nat} (hn : n ≤ 4096) : rtR b (n : Int) = gat (fun _ => tn) n b := by
  unfold rtR
  rw [if_neg (by omega), Int.toNat_natCast]
theorem below_dq (w : World) (n : Nat) : Below w.heap.size w (w.drewN n) := ⟨rfl, rfl, rfl, Nat.le_refl _, fun _ _ => rfl⟩

set_option maxHeartbeats 8000000 in
set_option maxRecDepth 100000 in
theorem lawRwTurned (ao : Option Addr) (n c : Nat) (l : List Va) (tyo : Option Addr) (m tc : Nat) (ts : List Ty) (w : World) (hvs : Vars w) (hl : Vs w ao n c l) (ht : Tys w tyo m tc ts) (hK : ∀ v ∈ l, VaK v ∧ v.t.size ≤ 1099511627776) (hT : ∀ p ∈ ts, 0 ≤ p.t ∧ p.t < 256) :
    Calls Tryz.prog 5 #[.slice ao n c, .slice tyo m tc] w fun e w' => e = .returned (.bool true) ∧ Below w.heap.size w w' := by
  have cL := hide (rwLives_any w)
  have R0 := hide (show Rk w ao n c l tyo m tc ts w from ⟨hl, ht, Below.refl _ _⟩)
  have cS := hide (fun wx (hx : Rk w ao n c l tyo m tc ts wx) => rwSmall_any ao n c l tyo m tc ts wx hx.hl hx.ht (fun v hv => (hK v hv).2))
  have HK := hide (fun v hv => (hK v hv).1)
  have HT := hide hT
  have HV := hide hvs
  have hln := hl.len
  have hle := hl.le
  have hmx := hl.max
  have hml := ht.len
  have htl := ht.le
  have htx := ht.max
  clear hl ht hK hT hvs
  go_enter Tryz.func5, Tryz.ntmps5
  go_wp2_with fail
  refine (unhide cL).mono ?_
  rintro e w1 ⟨rfl, b1⟩
  have R1 := hide ((unhide R0).later b1)
  clear b1 cL R0
  go_wp2_with fail
  refine (unhide cS _ (unhide R1)).mono ?_
  rintro e w2 ⟨⟨bv, rfl, hbv⟩, rfl⟩
  cases bv
  · clear cS hbv
    go_wp2_with fail
    go_ret
    exact ⟨rfl, (unhide R1).bel⟩
  obtain ⟨hn, hm, hsz, hsum⟩ := hbv rfl
  have HK3 := hide (show ∀ v ∈ l, VaK v ∧ v.t.size ≤ 3000 from fun v hv => ⟨unhide HK v hv, hsz v hv⟩)
  have HLB := hide (show (rbB (l.zip ts)).length ≤ 4200 by have := rbB_sm l ts; omega)
  have cB := hide (fun wx (hx : Rk w ao n c l tyo m tc ts wx) => appBin_any none 0 0 [] ao n c l tyo m tc ts wx (Bs.nought _) hx.hl hx.ht (unhide HK3) (unhide HT) hn hm (by omega))
  have HSM := hide hsum
  clear cS hbv hsz HK hsum
  cases hOK : (decide (l.length = ts.length) && rbOk (l.zip ts))
  · rw [hOK] at cB
    clear hOK
    go_wp2_with fail
    refine (unhide cB _ (unhide R1)).mono ?_
    intro e w4 h4
    obtain ⟨rfl, b4⟩ := outN_no h4
    have S4 := hide ((unhide R1).later b4)
    clear b4 h4 cB R1
    go_wp2_with fail
    go_ret
    exact ⟨rfl, (unhide S4).bel⟩
  rw [hOK] at cB
  rw [Bool.and_eq_true, decide_eq_true_eq] at hOK
  obtain ⟨hlt, hrb⟩ := hOK
  go_wp2_with fail
  refine (unhide cB _ (unhide R1)).mono ?_
  intro e w4 h4
  obtain ⟨nl, zo, zn, zc, hI, rfl, hM, b4⟩ := outN_te h4
  have S4 := hide ((unhide R1).later b4)
  have HM := hide hM.bs
  have hzl := hM.len
  have q1 := tuR_at hI hlt (by omega) (unhide HK3) hrb
  have HRB := hide (rb_of hlt (unhide HK3) hrb)
  have q2 : (rbR (rbA nl (l.zip ts)) ts).2 = 0 → Rb (rbR (rbA nl (l.zip ts)) ts).1 ts := by
    intro _
    rw [rbR_back hI hlt (by omega) (unhide HK3) hrb]
    exact unhide HRB
  have hzn : (rbA nl (l.zip ts)).length ≤ 4300 := by
    have h1 := hI.len
    have h2 := unhide HLB
    rw [rbA_eq, List.length_cons, List.length_append]
    omega
  have cT := hide (turned_any zo zn zc (rbA nl (l.zip ts)) tyo m tc ts w4 (unhide HM) (unhide S4).ht (unhide HT) (by omega) hm ((unhide HV).later (unhide S4).bel) q2)
  rw [q1] at cT
  have HLT := hide hlt
  clear h4 b4 hM hI q1 q2 cB R1 hrb HLB hzl hzn HM hlt
  by_cases hA : ts.any noT = true
  · rw [if_pos hA] at cT
    clear hA
    go_wp2_with fail
    refine (unhide cT).mono ?_
    rintro e w5 ⟨xo, xn, xc, rfl, m5, b5⟩
    have hx0 : xn = 0 := by have := m5.len; simpa using this.symm
    subst hx0
    have S5 := hide ((unhide S4).later b5)
    clear m5 b5 cT S4
    go_wp2_with fail
    go_ret
    exact ⟨rfl, (unhide S5).bel⟩
  have hA2 : ts.any noT = false := by simpa using hA
  rw [if_neg hA] at cT
  have KL := hide (tuL_K (unhide HRB) hA2)
  have QL := hide (tuL_ok (unhide HRB) hA2)
  have hll := tuL_len l ts
  have q3 : rtR (rtB (tuL l ts)) (n : Int) = (tuL l ts, 0) := by
    rw [rtR_n2 (by omega), ← hln, ← hll]
    exact tat_back (unhide KL) (unhide QL)
  have hbl : (rtB (tuL l ts)).length ≤ 30000 := by
    have h1 := rtB_sm (tuL l ts)
    have h2 := tuL_sum (unhide HRB) hA2
    have h3 : sm (tuL l ts) = ((tuL l ts).map fun v => v.t.size).sum := rfl
    have h4 := unhide HSM
    have h5 : sm l = (l.map fun v => v.t.size).sum := rfl
    omega
  have HLL := hide hll
  clear hA hA2 KL QL hll
  go_wp2_with fail
  refine (unhide cT).mono ?_
  rintro e w5 ⟨xo, xn, xc, rfl, m5, b5⟩
  have S5 := hide ((unhide S4).later b5)
  have hx9 := m5.len
  have cR := hide (rowText_any xo xn xc (rtB (tuL l ts)) (n : Int) w5 m5.bs (by omega))
  rw [q3] at cR
  clear m5 b5 cT S4 hbl q3 hx9
  go_wp2_with fail
  refine (unhide cR).mono ?_
  rintro e w6 ⟨ro, rn, rc, rfl, m6, b6⟩
  have S6 := hide ((unhide S5).later b6)
  have V6 := hide m6.ss
  have hrn := m6.len
  have hrle := m6.ss.le
  have hrmx := m6.ss.max
  have hrnn : rn = n := by have := unhide HLL; simp only at hrn; omega
  subst hrnn
  clear m6 b6 cR S5 hrn
  go_wp2_with fail
  go_loopw [11] (fun i wr => ∃ (j q : Nat), j ≤ rn ∧ i = .int .i64 (j : Int) ∧ wr = w6.drewN q) (fun i _ => rn - (intOf i).toNat)
  case atStart => exact ⟨0, 0, by omega, rfl, rfl⟩
  case round =>
    obtain ⟨j, q, hj, rfl, rfl⟩ := hrel
    by_cases hlt2 : j < rn
    · have g1 : ((j : Nat) : Int) < (rn : Int) := by omega
      obtain ⟨v, hv⟩ : ∃ v, l[j]? = some v := ⟨_, List.getElem?_eq_getElem (by omega)⟩
      obtain ⟨u, hu, hc⟩ := tu_cases (unhide HRB) hv
      obtain ⟨b0, o0, i0, A0⟩ := (unhide S6).hl.idx hv (j : Int) rfl
      obtain ⟨b1, o1, i1, A1⟩ := (unhide V6).idx hu (j : Int) rfl
      have NE := fun wx => neqv_self v wx
      clear hv hu
      rcases hc with ⟨rfl, rfl⟩ | ⟨S, rfl, rfl⟩ | ⟨hk0, hk7, S, rfl⟩
      · have c0 : w6.cell? ⟨b0, o0, none⟩ = some (.int .i64 0) := A0 0 (by decide)
        have c1 : w6.cell? ⟨b1, o1, none⟩ = some (.int .i64 0) := A1 0 (by decide)
        clear A0 A1 NE
        go_wp2_with fail
        go_quiet (fail)
        go_wp2_with fail
        go_roundw
        case rel => exact ⟨j + 1, _, by omega, by go_num, (by first | rfl | exact World.drewN_drewN _ _ _)⟩
        case measure => simp [intOf]; omega
      · unfold vaC wh0 at NE
        simp only at NE
        have c0_0 : w6.cell? ⟨b0, o0, none⟩ = some (.int .i64 7) := A0 0 (by decide)
        have c0_1 : w6.cell? ⟨b0, o0 + 1, none⟩ = some (.int .i64 0) := A0 1 (by decide)
        have c0_2 : w6.cell? ⟨b0, o0 + 2, none⟩ = some (.int .u64 0) := A0 2 (by decide)
        have c0_3 : w6.cell? ⟨b0, o0 + 3, none⟩ = some (.string S) := A0 3 (by decide)
        have c0_4 : w6.cell? ⟨b0, o0 + 4, none⟩ = some (.bool false) := A0 4 (by decide)
        have c0_5 : w6.cell? ⟨b0, o0 + 5, none⟩ = some (.int .i64 0) := A0 5 (by decide)
        have c0_6 : w6.cell? ⟨b0, o0 + 6, none⟩ = some (.int .i64 0) := A0 6 (by decide)
        have c0_7 : w6.cell? ⟨b0, o0 + 7, none⟩ = some (.int .i64 0) := A0 7 (by decide)
        have c0_8 : w6.cell? ⟨b0, o0 + 8, none⟩ = some (.int .i64 0) := A0 8 (by decide)
        have c0_9 : w6.cell? ⟨b0, o0 + 9, none⟩ = some (.int .i64 0) := A0 9 (by decide)
        have c0_10 : w6.cell? ⟨b0, o0 + 10, none⟩ = some (.int .i64 0) := A0 10 (by decide)
        have c0_11 : w6.cell? ⟨b0, o0 + 11, none⟩ = some (.int .i64 0) := A0 11 (by decide)
        have c1_0 : w6.cell? ⟨b1, o1, none⟩ = some (.int .i64 7) := A1 0 (by decide)
        have c1_1 : w6.cell? ⟨b1, o1 + 1, none⟩ = some (.int .i64 0) := A1 1 (by decide)
        have c1_2 : w6.cell? ⟨b1, o1 + 2, none⟩ = some (.int .u64 0) := A1 2 (by decide)
        have c1_3 : w6.cell? ⟨b1, o1 + 3, none⟩ = some (.string S) := A1 3 (by decide)
        have c1_4 : w6.cell? ⟨b1, o1 + 4, none⟩ = some (.bool false) := A1 4 (by decide)
        have c1_5 : w6.cell? ⟨b1, o1 + 5, none⟩ = some (.int .i64 0) := A1 5 (by decide)
        have c1_6 : w6.cell? ⟨b1, o1 + 6, none⟩ = some (.int .i64 0) := A1 6 (by decide)
        have c1_7 : w6.cell? ⟨b1, o1 + 7, none⟩ = some (.int .i64 0) := A1 7 (by decide)
        have c1_8 : w6.cell? ⟨b1, o1 + 8, none⟩ = some (.int .i64 0) := A1 8 (by decide)
        have c1_9 : w6.cell? ⟨b1, o1 + 9, none⟩ = some (.int .i64 0) := A1 9 (by decide)
        have c1_10 : w6.cell? ⟨b1, o1 + 10, none⟩ = some (.int .i64 0) := A1 10 (by decide)
        have c1_11 : w6.cell? ⟨b1, o1 + 11, none⟩ = some (.int .i64 0) := A1 11 (by decide)
        clear A0 A1
        go_wp2_with fail
        go_quiet (fail)
        go_wp2_with fail
        go_roundw
        case rel => exact ⟨j + 1, _, by omega, by go_num, (by first | rfl | exact World.drewN_drewN _ _ _)⟩
        case measure => simp [intOf]; omega
      · have c0 : w6.cell? ⟨b0, o0, none⟩ = some (.int .i64 v.k) := A0 0 (by decide)
        have c1 : w6.cell? ⟨b1, o1, none⟩ = some (.int .i64 7) := A1 0 (by decide)
        generalize v.k = K at *
        have e0 : (K == 0) = false := by simpa using hk0
        have e7 : (K == 7) = false := by simpa using hk7
        clear A0 A1 NE hk0 hk7
        go_wp2_with fail
        go_quiet (fail)
        go_wp2_with fail
        go_roundw
        case rel => exact ⟨j + 1, _, by omega, by go_num, (by first | rfl | exact World.drewN_drewN _ _ _)⟩
        case measure => simp [intOf]; omega
    · have hjn : j = rn := by omega
      subst hjn
      have g1 : ¬ ((j : Nat) : Int) < (j : Int) := by omega
      go_wp2_with fail
      go_ret
      exact ⟨rfl, ((unhide S6).later (below_dq _ _)).bel⟩


end Go.Proofs.YtkcblnojgonblaaGreatDoor
