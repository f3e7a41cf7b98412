/-
  ParamBack walked: parameters that are written are read back, with their types told anew or known; a byte less is too short, a byte more is wrong. Conditions: texts of at most 2 to the 40 bytes.
-/
import Derived.Test.YtfgghgoonfamkaaPmLives
import Derived.Test.YtfgghgoonfamkaaPmBack
import Derived.Test.YtfgghgoonfamkaaMPx
import Derived.Test.YtfgghgoonfamkaaClPick
import Derived.Deep.DeepCutAuto
namespace Go.Proofs.Ytfgghgoonfamkaa
open Go.RowKit
set_option linter.unusedVariables false
set_option linter.unusedSimpArgs false

/-- What stands through the walk: the parameters. -/
structure Pb (w0 : World) (ao : Option Addr) (n c : Nat) (l : List Pa) (w : World) : Prop where
  hl : Pas w ao n c l
  bel : Below w0.heap.size w0 w
theorem Pb.later {w0 : World} {ao : Option Addr} {n c : Nat} {l : List Pa} {w w' : World} (h : Pb w0 ao n c l w) (q : Below w.heap.size w w') : Pb w0 ao n c l w' := ⟨h.hl.later q, h.bel.trans (q.mono h.bel.size)⟩
theorem paB_sm (l : List Pa) (bd : Bool) (nl : List Int) (hI : Isp l nl) : (paB l bd nl).length ≤ l.length + 1 + 1 + 2 * l.length + (psm l + 20 * l.length) := by
  have h1 := hI.len
  have h2 := ptB_len l
  have h3 := pvB_sm l
  unfold paB
  split
  · simp
  · rw [List.length_append, List.length_append, List.length_append, List.length_singleton]
    cases bd
    · simp only [Bool.false_eq_true, if_false, List.length_nil]; omega
    · simp only [if_true]; omega
theorem paB_pos {l : List Pa} (hne : l ≠ []) (bd : Bool) (nl : List Int) : 0 < (paB l bd nl).length := by
  rw [paB_parts hne, List.length_append, List.length_cons]
  omega
theorem lgO_len (l : List Pa) : (lgO l).length = l.length := by unfold lgO; simp
theorem lgO_next {l : List Pa} {j : Nat} {p : Pa} (h : l[j]? = some p) : (lgO l).take (j + 1) = (lgO l).take j ++ [p.lo] := take_1 (by unfold lgO; rw [List.getElem?_map, h]; rfl)
theorem tsO_next {l : List Pa} {j : Nat} {p : Pa} (h : l[j]? = some p) : (tsO l).take (j + 1) = (tsO l).take j ++ [p.t] := take_1 (by unfold tsO; rw [List.getElem?_map, h]; rfl)

set_option maxHeartbeats 32000000 in
set_option maxRecDepth 100000 in
theorem lawPmBack (ao : Option Addr) (n c : Nat) (l : List Pa) (bd : Bool) (cut more : Int) (w : World) (hl : Pas w ao n c l) (hK : ∀ p ∈ l, (VaK p.v ∧ 0 ≤ p.t.t ∧ p.t.t < 256) ∧ p.v.t.size ≤ 1099511627776) (hm0 : 0 ≤ more) (hm1 : more ≤ 255) :
    Calls Try.prog 6 #[.slice ao n c, .bool bd, .int .i64 cut, .int .u8 more] w fun e w' => e = .returned (.bool true) ∧ Below w.heap.size w w' := by
  have cL := hide (pmLives_any w)
  have R0 := hide (show Pb w ao n c l w from ⟨hl, Below.refl _ _⟩)
  have cS := hide (fun wx (hx : Pb w ao n c l wx) => pmSmall_any ao n c l wx hx.hl (fun v hv => (hK v hv).2))
  have HK := hide (fun v hv => (hK v hv).1)
  have hln := hl.len
  have hle := hl.le
  have hmx := hl.max
  clear hl hK
  go_enter Try.func6, Try.ntmps6
  go_wp2_with fail
  refine (unhide cL).mono ?_
  rintro e w1 ⟨rfl, b1⟩
  have R1 := hide ((unhide R0).later b1)
  clear b1 cL R0
  go_wp2_with fail
  refine (unhide cS _ (unhide R1)).mono ?_
  rintro e w2 ⟨⟨bv, rfl, hbv⟩, rfl⟩
  cases bv
  · clear cS hbv
    go_wp2_with fail
    go_ret
    exact ⟨rfl, (unhide R1).bel⟩
  obtain ⟨hn, hsm⟩ := hbv rfl
  clear cS hbv
  have HK3 := hide (show PaK l from fun p hp => ⟨(unhide HK p hp).1, Nat.le_trans (psm_in hp) hsm, (unhide HK p hp).2⟩)
  have HSM := hide hsm
  have cA := hide (pappend_any none 0 0 [] ao n c l bd w2 (Bs.nought _) (unhide R1).hl (unhide HK3) hn hsm (by omega))
  clear HK hsm
  cases hOK : plOk l
  · go_wp2_with fail
    refine (unhide cA).mono ?_
    intro e w3 h3
    obtain ⟨rfl, b3⟩ := OutA.nos h3 hOK
    have S3 := hide ((unhide R1).later b3)
    clear b3 h3 cA hOK
    go_wp2_with fail
    go_ret
    exact ⟨rfl, (unhide S3).bel⟩
  have HOK := hide hOK
  clear hOK
  go_wp2_with fail
  refine (unhide cA).mono ?_
  intro e w3 h3
  obtain ⟨xo, xn, xc, nl, rfl, hI, m3, b3⟩ := OutA.oks h3 (unhide HOK)
  rw [List.nil_append] at m3
  have R3 := hide ((unhide R1).later b3)
  have X3 := hide m3.bs
  have hxl := m3.len
  have hxle := m3.bs.le
  have hxmx := m3.bs.max
  have HI := hide hI
  have hsz := paB_sm l bd nl hI
  have hx9 : xn ≤ 5000 := by have := unhide HSM; omega
  clear b3 h3 cA m3 hI R1 hsz
  obtain ⟨LB, hLBe⟩ : ∃ z, z = paB l bd nl := ⟨_, rfl⟩
  rw [← hLBe] at X3 hxl
  have HLE := hide hLBe
  clear hLBe
  go_wp2_with fail
  go_loopw [13, 11, 12] (fun iv tv sv ws => ∃ (j : Nat) (tyo : Option Addr) (tc : Nat) (bo : Option Addr) (bc : Nat), j ≤ n ∧ iv = .int .i64 (j : Int) ∧ tv = .slice tyo j tc ∧ sv = .slice bo j bc ∧ TyMine w3.heap.size ws tyo j tc ((tsO l).take j) ∧ BlMine w3.heap.size ws bo j bc ((lgO l).take j) ∧ Below w3.heap.size w3 ws) (fun iv _ _ _ => n - (intOf iv).toNat)
  case atStart => exact ⟨0, none, 0, none, 0, by omega, rfl, rfl, rfl, TyMine.nought _ _, BlMine.nought _ _, Below.refl _ _⟩
  case round =>
    obtain ⟨j, tyo, tc, bo, bc, hj, rfl, rfl, rfl, hT, hM, hB⟩ := hrel
    have hob := hB.size
    have HB := hide hB
    have HM := hide hM
    have HT := hide hT
    clear hM hB hT
    by_cases hlt : j < n
    · have hlj : ((j : Nat) : Int) < (n : Int) := by omega
      obtain ⟨p, hp⟩ : ∃ p, l[j]? = some p := ⟨_, List.getElem?_eq_getElem (by omega)⟩
      obtain ⟨pb, po, hix, hat⟩ := (unhide R3).hl.idx hp (j : Int) rfl
      have KA := hide (fun wx (hx : Below w3.heap.size w3 wx) => att_of (hat.later hx))
      have KL := hide (fun wx (hx : Below w3.heap.size w3 wx) => show wx.cell? ⟨pb, po + 2, none⟩ = some (.bool p.lo) from hat.later hx 2 (by decide))
      have HN1 := hide (tsO_next hp)
      have HN2 := hide (lgO_next hp)
      generalize p.lo = LO at *
      generalize p.t = PT at *
      generalize (tsO l).take j = TL at *
      generalize (lgO l).take j = BL at *
      obtain ⟨pt, pu⟩ := PT
      clear hat hp
      go_wp2_with (first
        | ((with_reducible show wpList Try.prog _ _ (Oper.mk _ (Op.load 27 _) _ _ _ none :: _) _ _); refine wpList_ldT rfl (.tmp 50) rfl pb po (by simp [Act.eval, Act.put]) ⟨pt, pu⟩ (unhide KA _ (unhide HB)) ?_; simp only [tyC])
        | (at_builtin; refine wpList_appT2 rfl (.tmp 46) (.tmp 52) rfl w3.heap.size tyo j tc TL (by simp [Act.eval, Act.put]) ((unhide HT).later (below_alloc wr _)) wr.heap.size ⟨pt, pu⟩ (by simp [Act.eval, Act.put]) (AtT.of_row (heap_alloc_new wr _)) (by omega) (Nat.le_trans hob (below_alloc wr _).size) ?_; intro a5 c5 w5 m5 b5 g5; have M5 := hide m5; have HB5 := hide ((vbup (unhide HB) (below_alloc wr _)).trans b5); have BL5 := hide (((unhide HM).later (below_alloc wr _)).keep (fun k hk => g5 k (((unhide HM).later (below_alloc wr _)).ob hk).2 (fun hz => ty_bl (unhide HT) (unhide HM) hz hk))); have k2 := unhide KL w5 (unhide HB5); clear m5 b5 g5)
        | (at_builtin; refine wpList_appB2 rfl (.tmp 54) (.tmp 60) rfl w3.heap.size bo j bc BL (by simp [Act.eval, Act.put]) ((unhide BL5).later (below_alloc w5 _)) w5.heap.size LO (by simp [Act.eval, Act.put]) (AtB.of_row (heap_alloc_new w5 _)) (by omega) (Nat.le_trans (unhide HB5).size (below_alloc w5 _).size) ?_; intro a6 c6 w6 m6 b6 g6; have M6 := hide m6; have HB6 := hide ((vbup (unhide HB5) (below_alloc w5 _)).trans b6); have TY6 := hide (((unhide M5).later (below_alloc w5 _)).keep (fun k hk => g6 k (((unhide M5).later (below_alloc w5 _)).ob hk).2 (fun hz => ty_bl (unhide M5) (unhide BL5) hk hz))); clear m6 b6 g6))
      go_roundw
      case rel => exact ⟨j + 1, a5, c5, a6, c6, by omega, by go_num, rfl, rfl, by rw [unhide HN1]; exact unhide TY6, by rw [unhide HN2]; exact unhide M6, unhide HB6⟩
      case measure => simp [intOf]; omega
    · have hjn : j = n := by omega
      subst hjn
      have hlj : ¬ ((j : Nat) : Int) < (j : Int) := by omega
      have L4 := hide (show Bls wr bo j bc (lgO l) from by have := (unhide HM).ss; rwa [List.take_of_length_le (by rw [lgO_len]; omega)] at this)
      have T4 := hide (show Tys wr tyo j tc (tsO l) from by have := (unhide HT).ss; rwa [List.take_of_length_le (by rw [tsO_len]; omega)] at this)
      have R4 := hide ((unhide R3).later (unhide HB))
      have X4 := hide ((unhide X3).later (unhide HB))
      obtain ⟨w4, hw4⟩ : ∃ z, z = wr := ⟨_, rfl⟩
      clear HM HB HT R3 X3 hob
      subst hw4
      have hLBe := unhide HLE
      clear HLE
      by_cases hj0 : j = 0
      · cases bd
        · subst hj0
          have hl0 : l = [] := List.eq_nil_of_length_eq_zero hln
          subst hl0
          have hLB : LB = [] := hLBe
          subst hLB
          have hx0 : xn = 0 := by simpa using hxl.symm
          subst hx0
          have Q1 : pmR [] 0 (tsO []) (lgO []) = ([], false, 0) := rfl
          have Q2 : pmR ([] ++ [more]) 0 (tsO []) (lgO []) = ([], false, 5) := rfl
          clear hLBe
          have HK := hide (unhide HK3)
          have cR1 := hide (pread_any xo 0 xc [] 0 tyo 0 tc (tsO []) bo 0 bc (lgO []) w4 (unhide X4) (unhide T4) (fun p hp => by unfold tsO at hp; obtain ⟨q, hq, rfl⟩ := List.mem_map.1 hp; exact ⟨(unhide HK3 q hq).2.2.1, (unhide HK3 q hq).2.2.2⟩) (unhide L4) (by omega))
          rw [Q1] at cR1
          go_wp2_with fail
          refine (unhide cR1).mono ?_
          rintro e w5 ⟨ro, rn, rc, rfl, m5, b5⟩
          have R5 := hide ((unhide R4).later b5)
          have L5 := hide ((unhide L4).later b5)
          have X5 := hide ((unhide X4).later b5)
          have T5 := hide ((unhide T4).later b5)
          have V5 := hide m5.ss
          clear m5 b5 cR1 R4 L4 X4 T4
          go_wp2_with (first
                  | (at_builtin; refine wpList_app rfl (.tmp 75) (.tmp 76) rfl w5.heap.size _ _ _ _ rfl (Mine.empty w5) _ _ _ _ rfl ((unhide X5).later (below_alloc w5 _)) (by omega) (by simp) ?_; intro o12 k12 w12 m12 b12; rw [Nat.zero_add, List.nil_append] at m12; have M12 := hide m12; have B12 := hide ((below_alloc w5 (.cells #[] 5)).trans b12); clear m12 b12; have hz12 := (unhide B12).size)
                  | (at_builtin; refine wpList_app rfl (.tmp 77) (.tmp 79) rfl w5.heap.size _ _ _ _ rfl ((unhide M12).later (below_alloc w12 _)) _ _ _ _ rfl (Bs.one w12 more hm0 hm1) (by omega) (by simp; omega) ?_; intro o13 k13 w13 m13 b13; have M13 := hide m13; have B13 := hide (((unhide B12).trans ((below_alloc w12 _).mono hz12)).trans b13); clear m13 b13))
          have R13 := hide ((unhide R5).later (unhide B13))
          have L13 := hide ((unhide L5).later (unhide B13))
          have X13 := hide ((unhide X5).later (unhide B13))
          have T13 := hide ((unhide T5).later (unhide B13))
          have V13 := hide ((unhide V5).later (unhide B13))
          have cR2 := hide (pread_any o13 (0 + 1) k13 ([] ++ [more]) 0 tyo 0 tc (tsO []) bo 0 bc (lgO []) w13 (unhide M13).bs (unhide T13) (fun p hp => by unfold tsO at hp; obtain ⟨q, hq, rfl⟩ := List.mem_map.1 hp; exact ⟨(unhide HK3 q hq).2.2.1, (unhide HK3 q hq).2.2.2⟩) (unhide L13) (by rw [List.length_append, List.length_singleton]; omega))
          rw [Q2] at cR2
          clear M12 B12 hz12 B13 M13 R5 L5 X5 T5 V5
          refine (unhide cR2).mono ?_
          rintro e w6 ⟨ro2, rn2, rc2, rfl, m6, b6⟩
          have R6 := hide ((unhide R13).later b6)
          have L6 := hide ((unhide L13).later b6)
          have X6 := hide ((unhide X13).later b6)
          have T6 := hide ((unhide T13).later b6)
          have cSV := hide (sameParams_self ao 0 c ro rn rc [] w6 (unhide R6).hl ((unhide V13).later b6))
          clear m6 b6 cR2 V13 R13 L13 X13 T13
          go_wp2_with fail
          refine (unhide cSV).mono ?_
          rintro e w7 ⟨rfl, b7⟩
          have R7 := hide ((unhide R6).later b7)
          have L7 := hide ((unhide L6).later b7)
          have X7 := hide ((unhide X6).later b7)
          have T7 := hide ((unhide T6).later b7)
          clear b7 cSV R6 L6 X6 T6
          go_wp2_with fail
          go_ret
          exact ⟨rfl, (unhide R7).bel⟩
        · clear T4
          subst hj0
          have hl0 : l = [] := List.eq_nil_of_length_eq_zero hln
          subst hl0
          have hLB : LB = [] := hLBe
          subst hLB
          have hx0 : xn = 0 := by simpa using hxl.symm
          subst hx0
          have Q1 : pmR [] 0 [] (lgO []) = ([], false, 0) := rfl
          have Q2 : pmR ([] ++ [more]) 0 [] (lgO []) = ([], false, 5) := rfl
          clear hLBe
          have HK := hide (unhide HK3)
          have cR1 := hide (pread_any xo 0 xc [] 0 none 0 0 [] bo 0 bc (lgO []) w4 (unhide X4) (Tys.nought _) (fun p hp => by cases hp) (unhide L4) (by omega))
          rw [Q1] at cR1
          go_wp2_with fail
          refine (unhide cR1).mono ?_
          rintro e w5 ⟨ro, rn, rc, rfl, m5, b5⟩
          have R5 := hide ((unhide R4).later b5)
          have L5 := hide ((unhide L4).later b5)
          have X5 := hide ((unhide X4).later b5)
          have V5 := hide m5.ss
          clear m5 b5 cR1 R4 L4 X4
          go_wp2_with (first
                  | (at_builtin; refine wpList_app rfl (.tmp 75) (.tmp 76) rfl w5.heap.size _ _ _ _ rfl (Mine.empty w5) _ _ _ _ rfl ((unhide X5).later (below_alloc w5 _)) (by omega) (by simp) ?_; intro o12 k12 w12 m12 b12; rw [Nat.zero_add, List.nil_append] at m12; have M12 := hide m12; have B12 := hide ((below_alloc w5 (.cells #[] 5)).trans b12); clear m12 b12; have hz12 := (unhide B12).size)
                  | (at_builtin; refine wpList_app rfl (.tmp 77) (.tmp 79) rfl w5.heap.size _ _ _ _ rfl ((unhide M12).later (below_alloc w12 _)) _ _ _ _ rfl (Bs.one w12 more hm0 hm1) (by omega) (by simp; omega) ?_; intro o13 k13 w13 m13 b13; have M13 := hide m13; have B13 := hide (((unhide B12).trans ((below_alloc w12 _).mono hz12)).trans b13); clear m13 b13))
          have R13 := hide ((unhide R5).later (unhide B13))
          have L13 := hide ((unhide L5).later (unhide B13))
          have X13 := hide ((unhide X5).later (unhide B13))
          have V13 := hide ((unhide V5).later (unhide B13))
          have cR2 := hide (pread_any o13 (0 + 1) k13 ([] ++ [more]) 0 none 0 0 [] bo 0 bc (lgO []) w13 (unhide M13).bs (Tys.nought _) (fun p hp => by cases hp) (unhide L13) (by rw [List.length_append, List.length_singleton]; omega))
          rw [Q2] at cR2
          clear M12 B12 hz12 B13 M13 R5 L5 X5 V5
          refine (unhide cR2).mono ?_
          rintro e w6 ⟨ro2, rn2, rc2, rfl, m6, b6⟩
          have R6 := hide ((unhide R13).later b6)
          have L6 := hide ((unhide L13).later b6)
          have X6 := hide ((unhide X13).later b6)
          have cSV := hide (sameParams_self ao 0 c ro rn rc [] w6 (unhide R6).hl ((unhide V13).later b6))
          clear m6 b6 cR2 V13 R13 L13 X13
          go_wp2_with fail
          refine (unhide cSV).mono ?_
          rintro e w7 ⟨rfl, b7⟩
          have R7 := hide ((unhide R6).later b7)
          have L7 := hide ((unhide L6).later b7)
          have X7 := hide ((unhide X6).later b7)
          clear b7 cSV R6 L6 X6
          go_wp2_with fail
          go_ret
          exact ⟨rfl, (unhide R7).bel⟩
      · cases bd
        · have hne : l ≠ [] := by intro z; rw [z] at hln; simp at hln; omega
          have hp0 := paB_pos hne false nl
          rw [← hLBe] at hp0
          have Q1 : pmR LB ((j : Nat) : Int) (tsO l) (lgO l) = (l, false, 0) := by
            rw [pmR_n hj0 (by omega), ← hln, hLBe]
            have := pmN_nb (unhide HI) (unhide HK3) (unhide HOK) hne []
            rw [List.append_nil] at this
            rw [this, if_neg (by simp)]
          have Q2 : pmR (LB ++ [more]) ((j : Nat) : Int) (tsO l) (lgO l) = ([], false, 5) := by
            rw [pmR_n hj0 (by omega), ← hln, hLBe]
            rw [pmN_nb (unhide HI) (unhide HK3) (unhide HOK) hne [more], if_pos (by simp)]
          have Q3 : ∀ i, i < LB.length → pmR (LB.take i) ((j : Nat) : Int) (tsO l) (lgO l) = ([], false, 4) := by
            intro i hi
            rw [pmR_n hj0 (by omega), ← hln, hLBe]
            rw [hLBe] at hi
            exact pmN_cut (unhide HI) (unhide HK3) (unhide HOK) hne false hi _ (fun z => by first | rfl | cases z)
          have g3 : ((xn : Int) == 0) = false := by rw [beq_eq_false_iff_ne]; omega
          have g5 : (0 : Int) < (j : Int) := by omega
          clear hLBe
          have HK := hide (unhide HK3)
          have cR1 := hide (pread_any xo xn xc LB ((j : Nat) : Int) tyo j tc (tsO l) bo j bc (lgO l) w4 (unhide X4) (unhide T4) (fun p hp => by unfold tsO at hp; obtain ⟨q, hq, rfl⟩ := List.mem_map.1 hp; exact ⟨(unhide HK3 q hq).2.2.1, (unhide HK3 q hq).2.2.2⟩) (unhide L4) (by omega))
          rw [Q1] at cR1
          go_wp2_with fail
          refine (unhide cR1).mono ?_
          rintro e w5 ⟨ro, rn, rc, rfl, m5, b5⟩
          have R5 := hide ((unhide R4).later b5)
          have L5 := hide ((unhide L4).later b5)
          have X5 := hide ((unhide X4).later b5)
          have T5 := hide ((unhide T4).later b5)
          have V5 := hide m5.ss
          clear m5 b5 cR1 R4 L4 X4 T4
          go_wp2_with (first
                  | (at_builtin; refine wpList_app rfl (.tmp 75) (.tmp 76) rfl w5.heap.size _ _ _ _ rfl (Mine.empty w5) _ _ _ _ rfl ((unhide X5).later (below_alloc w5 _)) (by omega) (by simp) ?_; intro o12 k12 w12 m12 b12; rw [Nat.zero_add, List.nil_append] at m12; have M12 := hide m12; have B12 := hide ((below_alloc w5 (.cells #[] 5)).trans b12); clear m12 b12; have hz12 := (unhide B12).size)
                  | (at_builtin; refine wpList_app rfl (.tmp 77) (.tmp 79) rfl w5.heap.size _ _ _ _ rfl ((unhide M12).later (below_alloc w12 _)) _ _ _ _ rfl (Bs.one w12 more hm0 hm1) (by omega) (by simp; omega) ?_; intro o13 k13 w13 m13 b13; have M13 := hide m13; have B13 := hide (((unhide B12).trans ((below_alloc w12 _).mono hz12)).trans b13); clear m13 b13))
          have R13 := hide ((unhide R5).later (unhide B13))
          have L13 := hide ((unhide L5).later (unhide B13))
          have X13 := hide ((unhide X5).later (unhide B13))
          have T13 := hide ((unhide T5).later (unhide B13))
          have V13 := hide ((unhide V5).later (unhide B13))
          have cR2 := hide (pread_any o13 (xn + 1) k13 (LB ++ [more]) ((j : Nat) : Int) tyo j tc (tsO l) bo j bc (lgO l) w13 (unhide M13).bs (unhide T13) (fun p hp => by unfold tsO at hp; obtain ⟨q, hq, rfl⟩ := List.mem_map.1 hp; exact ⟨(unhide HK3 q hq).2.2.1, (unhide HK3 q hq).2.2.2⟩) (unhide L13) (by rw [List.length_append, List.length_singleton]; omega))
          rw [Q2] at cR2
          clear M12 B12 hz12 B13 M13 R5 L5 X5 T5 V5
          refine (unhide cR2).mono ?_
          rintro e w6 ⟨ro2, rn2, rc2, rfl, m6, b6⟩
          have R6 := hide ((unhide R13).later b6)
          have L6 := hide ((unhide L13).later b6)
          have X6 := hide ((unhide X13).later b6)
          have T6 := hide ((unhide T13).later b6)
          have cSV := hide (sameParams_self ao j c ro rn rc l w6 (unhide R6).hl ((unhide V13).later b6))
          clear m6 b6 cR2 V13 R13 L13 X13 T13
          go_wp2_with fail
          refine (unhide cSV).mono ?_
          rintro e w7 ⟨rfl, b7⟩
          have R7 := hide ((unhide R6).later b7)
          have L7 := hide ((unhide L6).later b7)
          have X7 := hide ((unhide X6).later b7)
          have T7 := hide ((unhide T6).later b7)
          clear b7 cSV R6 L6 X6 T6
          have cP := hide (pick_any cut (xn : Int) w7 (by omega) (by omega))
          go_wp2_with fail
          refine (unhide cP).mono ?_
          rintro e w8 ⟨⟨r, rfl, r0, r1⟩, hw8⟩
          have hw8' := hw8.symm
          subst hw8'
          clear hw8 cP
          obtain ⟨I, rfl⟩ := Int.eq_ofNat_of_zero_le r0
          obtain ⟨yo, yc, hcut, hyb⟩ := (unhide X7).cut_h (hi := I) (by omega) (I : Int) rfl
          have cR3 := hide (pread_any yo I yc (LB.take I) ((j : Nat) : Int) tyo j tc (tsO l) bo j bc (lgO l) w7 hyb (unhide T7) (fun p hp => by unfold tsO at hp; obtain ⟨q, hq, rfl⟩ := List.mem_map.1 hp; exact ⟨(unhide HK3 q hq).2.2.1, (unhide HK3 q hq).2.2.2⟩) (unhide L7) (by rw [List.length_take]; omega))
          rw [Q3 I (by omega)] at cR3
          clear hyb r0
          go_wp2_with fail
          refine (unhide cR3).mono ?_
          rintro e w9 ⟨ro3, rn3, rc3, rfl, m9, b9⟩
          have R9 := hide ((unhide R7).later b9)
          clear m9 b9 cR3 R7 L7 X7 T7 hcut r1
          go_wp2_with fail
          go_ret
          exact ⟨rfl, (unhide R9).bel⟩
        · clear T4
          have hne : l ≠ [] := by intro z; rw [z] at hln; simp at hln; omega
          have hp0 := paB_pos hne true nl
          rw [← hLBe] at hp0
          have Q1 : pmR LB ((j : Nat) : Int) [] (lgO l) = (l, true, 0) := by
            rw [pmR_n hj0 (by omega), ← hln, hLBe]
            have := pmN_bd (unhide HI) (unhide HK3) (unhide HOK) hne [] []
            rw [List.append_nil] at this
            rw [this, if_neg (by simp)]
          have Q2 : pmR (LB ++ [more]) ((j : Nat) : Int) [] (lgO l) = ([], false, 5) := by
            rw [pmR_n hj0 (by omega), ← hln, hLBe]
            rw [pmN_bd (unhide HI) (unhide HK3) (unhide HOK) hne [] [more], if_pos (by simp)]
          have Q3 : ∀ i, i < LB.length → pmR (LB.take i) ((j : Nat) : Int) [] (lgO l) = ([], false, 4) := by
            intro i hi
            rw [pmR_n hj0 (by omega), ← hln, hLBe]
            rw [hLBe] at hi
            exact pmN_cut (unhide HI) (unhide HK3) (unhide HOK) hne true hi _ (fun z => by first | rfl | cases z)
          have g3 : ((xn : Int) == 0) = false := by rw [beq_eq_false_iff_ne]; omega
          have g5 : (0 : Int) < (j : Int) := by omega
          clear hLBe
          have HK := hide (unhide HK3)
          have cR1 := hide (pread_any xo xn xc LB ((j : Nat) : Int) none 0 0 [] bo j bc (lgO l) w4 (unhide X4) (Tys.nought _) (fun p hp => by cases hp) (unhide L4) (by omega))
          rw [Q1] at cR1
          go_wp2_with fail
          refine (unhide cR1).mono ?_
          rintro e w5 ⟨ro, rn, rc, rfl, m5, b5⟩
          have R5 := hide ((unhide R4).later b5)
          have L5 := hide ((unhide L4).later b5)
          have X5 := hide ((unhide X4).later b5)
          have V5 := hide m5.ss
          clear m5 b5 cR1 R4 L4 X4
          go_wp2_with (first
                  | (at_builtin; refine wpList_app rfl (.tmp 75) (.tmp 76) rfl w5.heap.size _ _ _ _ rfl (Mine.empty w5) _ _ _ _ rfl ((unhide X5).later (below_alloc w5 _)) (by omega) (by simp) ?_; intro o12 k12 w12 m12 b12; rw [Nat.zero_add, List.nil_append] at m12; have M12 := hide m12; have B12 := hide ((below_alloc w5 (.cells #[] 5)).trans b12); clear m12 b12; have hz12 := (unhide B12).size)
                  | (at_builtin; refine wpList_app rfl (.tmp 77) (.tmp 79) rfl w5.heap.size _ _ _ _ rfl ((unhide M12).later (below_alloc w12 _)) _ _ _ _ rfl (Bs.one w12 more hm0 hm1) (by omega) (by simp; omega) ?_; intro o13 k13 w13 m13 b13; have M13 := hide m13; have B13 := hide (((unhide B12).trans ((below_alloc w12 _).mono hz12)).trans b13); clear m13 b13))
          have R13 := hide ((unhide R5).later (unhide B13))
          have L13 := hide ((unhide L5).later (unhide B13))
          have X13 := hide ((unhide X5).later (unhide B13))
          have V13 := hide ((unhide V5).later (unhide B13))
          have cR2 := hide (pread_any o13 (xn + 1) k13 (LB ++ [more]) ((j : Nat) : Int) none 0 0 [] bo j bc (lgO l) w13 (unhide M13).bs (Tys.nought _) (fun p hp => by cases hp) (unhide L13) (by rw [List.length_append, List.length_singleton]; omega))
          rw [Q2] at cR2
          clear M12 B12 hz12 B13 M13 R5 L5 X5 V5
          refine (unhide cR2).mono ?_
          rintro e w6 ⟨ro2, rn2, rc2, rfl, m6, b6⟩
          have R6 := hide ((unhide R13).later b6)
          have L6 := hide ((unhide L13).later b6)
          have X6 := hide ((unhide X13).later b6)
          have cSV := hide (sameParams_self ao j c ro rn rc l w6 (unhide R6).hl ((unhide V13).later b6))
          clear m6 b6 cR2 V13 R13 L13 X13
          go_wp2_with fail
          refine (unhide cSV).mono ?_
          rintro e w7 ⟨rfl, b7⟩
          have R7 := hide ((unhide R6).later b7)
          have L7 := hide ((unhide L6).later b7)
          have X7 := hide ((unhide X6).later b7)
          clear b7 cSV R6 L6 X6
          have cP := hide (pick_any cut (xn : Int) w7 (by omega) (by omega))
          go_wp2_with fail
          refine (unhide cP).mono ?_
          rintro e w8 ⟨⟨r, rfl, r0, r1⟩, hw8⟩
          have hw8' := hw8.symm
          subst hw8'
          clear hw8 cP
          obtain ⟨I, rfl⟩ := Int.eq_ofNat_of_zero_le r0
          obtain ⟨yo, yc, hcut, hyb⟩ := (unhide X7).cut_h (hi := I) (by omega) (I : Int) rfl
          have cR3 := hide (pread_any yo I yc (LB.take I) ((j : Nat) : Int) none 0 0 [] bo j bc (lgO l) w7 hyb (Tys.nought _) (fun p hp => by cases hp) (unhide L7) (by rw [List.length_take]; omega))
          rw [Q3 I (by omega)] at cR3
          clear hyb r0
          go_wp2_with fail
          refine (unhide cR3).mono ?_
          rintro e w9 ⟨ro3, rn3, rc3, rfl, m9, b9⟩
          have R9 := hide ((unhide R7).later b9)
          clear m9 b9 cR3 R7 L7 X7 hcut r1
          go_wp2_with fail
          go_ret
          exact ⟨rfl, (unhide R9).bel⟩


end Go.Proofs.Ytfgghgoonfamkaa
