/-
  ParamTypes walked: types told anew count, types that are not must be known. Conditions: texts of at most 2 to the 40 bytes.
-/
import Derived.Test.YtfgghgoonfamkaaPmLives
import Derived.Test.YtfgghgoonfamkaaPmBack
import Derived.Test.YtfgghgoonfamkaaMPx
import Derived.Deep.DeepCutAuto
namespace Go.Proofs.Ytfgghgoonfamkaa
open Go.RowKit
set_option linter.unusedVariables false
set_option linter.unusedSimpArgs false

/-- What stands through the walk: the parameters and the types that were known. -/
structure Pk (w0 : World) (ao : Option Addr) (n c : Nat) (l : List Pa) (tyo : Option Addr) (m tc : Nat) (ts : List Ty) (w : World) : Prop where
  hl : Pas w ao n c l
  ht : Tys w tyo m tc ts
  bel : Below w0.heap.size w0 w
theorem Pk.later {w0 : World} {ao : Option Addr} {n c : Nat} {l : List Pa} {tyo : Option Addr} {m tc : Nat} {ts : List Ty} {w w' : World} (h : Pk w0 ao n c l tyo m tc ts w) (q : Below w.heap.size w w') : Pk w0 ao n c l tyo m tc ts w' := ⟨h.hl.later q, h.ht.later q, h.bel.trans (q.mono h.bel.size)⟩
theorem paB_sm (l : List Pa) (bd : Bool) (nl : List Int) (hI : Isp l nl) : (paB l bd nl).length ≤ l.length + 1 + 1 + 2 * l.length + (psm l + 20 * l.length) := by
  have h1 := hI.len
  have h2 := ptB_len l
  have h3 := pvB_sm l
  unfold paB
  split
  · simp
  · rw [List.length_append, List.length_append, List.length_append, List.length_singleton]
    cases bd
    · simp only [Bool.false_eq_true, if_false, List.length_nil]; omega
    · simp only [if_true]; omega
theorem lgO_len (l : List Pa) : (lgO l).length = l.length := by unfold lgO; simp
theorem lgO_next {l : List Pa} {j : Nat} {p : Pa} (h : l[j]? = some p) : (lgO l).take (j + 1) = (lgO l).take j ++ [p.lo] := take_1 (by unfold lgO; rw [List.getElem?_map, h]; rfl)

theorem tys_take {w : World} {ao : Option Addr} {m c : Nat} {ts : List Ty} (h : Tys w ao m c ts) {k : Nat} (hk : k ≤ m) : Tys w ao k c (ts.take k) := by
  refine ⟨by rw [List.length_take, h.len]; omega, Nat.le_trans hk h.le, h.max, h.nil, ?_⟩
  rcases h.at' with h0 | ⟨b, off, e, hc⟩
  · exact .inl (by omega)
  · exact .inr ⟨b, off, e, fun i p hi => hc i p (by
      have hlt : i < (ts.take k).length := (List.getElem?_eq_some_iff.1 hi).1
      rw [List.length_take] at hlt
      rwa [List.getElem?_take_of_lt (by omega)] at hi)⟩

set_option maxHeartbeats 8000000 in
set_option maxRecDepth 100000 in
theorem lawPmTypes (ao : Option Addr) (n c : Nat) (l : List Pa) (tyo : Option Addr) (m tc : Nat) (ts : List Ty) (w : World) (hl : Pas w ao n c l) (ht : Tys w tyo m tc ts) (hK : ∀ p ∈ l, (VaK p.v ∧ 0 ≤ p.t.t ∧ p.t.t < 256) ∧ p.v.t.size ≤ 1099511627776) (hT : ∀ p ∈ ts, 0 ≤ p.t ∧ p.t < 256) :
    Calls Try.prog 7 #[.slice ao n c, .slice tyo m tc] w fun e w' => e = .returned (.bool true) ∧ Below w.heap.size w w' := by
  have cL := hide (pmLives_any w)
  have R0 := hide (show Pk w ao n c l tyo m tc ts w from ⟨hl, ht, Below.refl _ _⟩)
  have cS := hide (fun wx (hx : Pk w ao n c l tyo m tc ts wx) => pmSmall_any ao n c l wx hx.hl (fun v hv => (hK v hv).2))
  have HK := hide (fun v hv => (hK v hv).1)
  have HT := hide hT
  have hln := hl.len
  have hle := hl.le
  have hmx := hl.max
  have hml := ht.len
  have htl := ht.le
  have htx := ht.max
  clear hl ht hK hT
  go_enter Try.func7, Try.ntmps7
  go_wp2_with fail
  refine (unhide cL).mono ?_
  rintro e w1 ⟨rfl, b1⟩
  have R1 := hide ((unhide R0).later b1)
  clear b1 cL R0
  go_wp2_with fail
  refine (unhide cS _ (unhide R1)).mono ?_
  rintro e w2 ⟨⟨bv, rfl, hbv⟩, rfl⟩
  cases bv
  · clear cS hbv
    go_wp2_with fail
    go_ret
    exact ⟨rfl, (unhide R1).bel⟩
  obtain ⟨hn, hsm⟩ := hbv rfl
  clear cS hbv
  by_cases hm : 60 < m
  · have g1 : ((60 : Int)) < (m : Int) := by omega
    go_wp2_with fail
    go_ret
    exact ⟨rfl, (unhide R1).bel⟩
  have g1 : ¬ ((60 : Int)) < (m : Int) := by omega
  by_cases hn0 : n = 0
  · subst hn0
    go_wp2_with fail
    go_ret
    exact ⟨rfl, (unhide R1).bel⟩
  have g2 : ((n : Int) == 0) = false := by rw [beq_eq_false_iff_ne]; omega
  have HK3 := hide (show PaK l from fun p hp => ⟨(unhide HK p hp).1, Nat.le_trans (psm_in hp) hsm, (unhide HK p hp).2⟩)
  have HSM := hide hsm
  clear HK hsm
  go_wp2_with fail
  go_loopw [6, 5] (fun iv sv ws => ∃ (j : Nat) (bo : Option Addr) (bc : Nat), j ≤ n ∧ iv = .int .i64 (j : Int) ∧ sv = .slice bo j bc ∧ BlMine w2.heap.size ws bo j bc ((lgO l).take j) ∧ Below w2.heap.size w2 ws) (fun iv _ _ => n - (intOf iv).toNat)
  case atStart => exact ⟨0, none, 0, by omega, rfl, rfl, BlMine.nought _ _, Below.refl _ _⟩
  case round =>
    obtain ⟨j, bo, bc, hj, rfl, rfl, hM, hB⟩ := hrel
    have hob := hB.size
    have HB := hide hB
    have HM := hide hM
    clear hM hB
    by_cases hlt : j < n
    · have hlj : ((j : Nat) : Int) < (n : Int) := by omega
      obtain ⟨p, hp⟩ : ∃ p, l[j]? = some p := ⟨_, List.getElem?_eq_getElem (by omega)⟩
      obtain ⟨pb, po, hix, hat⟩ := ((unhide R1).hl.later (unhide HB)).idx hp (j : Int) rfl
      have k2 : wr.cell? ⟨pb, po + 2, none⟩ = some (.bool p.lo) := hat 2 (by decide)
      have HN := hide (lgO_next hp)
      generalize p.lo = LO at *
      clear hat hp
      go_wp2_with (at_builtin; refine wpList_appB rfl (.tmp 38) (.tmp 44) rfl w2.heap.size bo j bc ((lgO l).take j) (by simp [Act.eval, Act.put]) ((unhide HM).later (below_alloc wr _)) wr.heap.size LO (by simp [Act.eval, Act.put]) (AtB.of_row (heap_alloc_new wr _)) (by omega) (Nat.le_trans hob (below_alloc wr _).size) ?_; intro a5 c5 w5 m5 b5; have M5 := hide m5; have HB5 := hide ((vbup (unhide HB) (below_alloc wr _)).trans b5); clear m5 b5)
      go_roundw
      case rel => exact ⟨j + 1, a5, c5, by omega, by go_num, rfl, by rw [unhide HN]; exact unhide M5, unhide HB5⟩
      case measure => simp [intOf]; omega
    · have hjn : j = n := by omega
      subst hjn
      have hlj : ¬ ((j : Nat) : Int) < (j : Int) := by omega
      have M1 := hide (show BlMine w2.heap.size wr bo j bc (lgO l) from by have := unhide HM; rwa [List.take_of_length_le (by rw [lgO_len]; omega)] at this)
      have S1 := hide ((unhide R1).later (unhide HB))
      have cA := hide (pappend_any none 0 0 [] ao j c l true wr (Bs.nought _) (unhide S1).hl (unhide HK3) hn (unhide HSM) (by omega))
      have cC := hide (fun wx (hx : Pk w ao j c l tyo m tc ts wx) => pappend_any none 0 0 [] ao j c l false wx (Bs.nought _) hx.hl (unhide HK3) hn (unhide HSM) (by omega))
      have L1 := hide (unhide M1).ss
      clear HM HB R1 hob M1
      cases hOK : plOk l
      · have HOK := hide hOK
        clear hOK
        go_wp2_with fail
        refine (unhide cA).mono ?_
        intro e w4 h4
        obtain ⟨rfl, b4⟩ := OutA.nos h4 (unhide HOK)
        have S4 := hide ((unhide S1).later b4)
        clear b4 h4 cA
        go_wp2_with fail
        refine (unhide cC _ (unhide S4)).mono ?_
        intro e w5 h5
        obtain ⟨rfl, b5⟩ := OutA.nos h5 (unhide HOK)
        have S5 := hide ((unhide S4).later b5)
        clear b5 h5 cC
        go_wp2_with fail
        go_ret
        exact ⟨rfl, (unhide S5).bel⟩
      have HOK := hide hOK
      clear hOK
      go_wp2_with fail
      refine (unhide cA).mono ?_
      intro e w4 h4
      obtain ⟨xo, xn, xc, nl, rfl, hI, m4, b4⟩ := OutA.oks h4 (unhide HOK)
      have S4 := hide ((unhide S1).later b4)
      have L4 := hide ((unhide L1).later b4)
      have X4 := hide m4.bs
      have HI := hide hI
      clear b4 h4 cA m4 hI S1 L1
      go_wp2_with fail
      refine (unhide cC _ (unhide S4)).mono ?_
      intro e w5 h5
      obtain ⟨yo, yn, yc, nk, rfl, hJ, m5, b5⟩ := OutA.oks h5 (unhide HOK)
      have hnk := hJ.one (unhide HI)
      subst hnk
      have S5 := hide ((unhide S4).later b5)
      have L5 := hide ((unhide L4).later b5)
      have X5 := hide ((unhide X4).later b5)
      have Y5 := hide m5.bs
      clear b5 h5 cC m5 hJ S4 L4 X4
      have hne : l ≠ [] := by intro z; rw [z] at hln; simp at hln; omega
      have hsz := fun bd => paB_sm l bd nk (unhide HI)
      have hsm := unhide HSM
      have q1 : pmR (paB l true nk) ((j : Nat) : Int) ts (lgO l) = (l, true, 0) := by
        rw [pmR_n hn0 (by omega), ← hln]
        have := pmN_bd (unhide HI) (unhide HK3) (unhide HOK) hne ts []
        rw [List.append_nil] at this
        rw [this, if_neg (by simp)]
      have cR := hide (pread_any xo xn xc (paB l true nk) ((j : Nat) : Int) tyo m tc ts bo j bc (lgO l) w5 (by have := unhide X5; rwa [List.nil_append] at this) (unhide S5).ht (unhide HT) (unhide L5) (by have := hsz true; omega))
      rw [q1] at cR
      obtain ⟨k, hk1, hk2, hk3⟩ : ∃ k, k ≤ m ∧ k < j ∧ ((k : Nat) : Int) = min (m : Int) ((j : Int) - 1) := ⟨min m (j - 1), by omega, by omega, by omega⟩
      have hk4 : (min (m : Int) ((j : Int) - 1)).toNat = k := by rw [← hk3]; exact Int.toNat_natCast k
      have q2 : pmR (paB l false nk) ((j : Nat) : Int) (ts.take k) (lgO l) = ([], false, 5) := by
        rw [pmR_n hn0 (by omega), ← hln]
        exact pmN_few (unhide HI) hne _ (by rw [List.length_take]; omega)
      have cQ := hide (fun wx (hx : Pk w ao j c l tyo m tc ts wx) (hy : Bs wx yo yn yc ([] ++ paB l false nk)) (hz : Bls wx bo j bc (lgO l)) => pread_any yo yn yc (paB l false nk) ((j : Nat) : Int) tyo k tc (ts.take k) bo j bc (lgO l) wx (by rwa [List.nil_append] at hy) (tys_take hx.ht hk1) (fun p hp => unhide HT p (List.mem_of_mem_take hp)) hz (by have := hsz false; omega))
      rw [q2] at cQ
      clear q1 q2 hsz hsm hne X5
      go_wp2_with fail
      refine (unhide cR).mono ?_
      rintro e w6 ⟨ro, rn, rc, rfl, m6, b6⟩
      have S6 := hide ((unhide S5).later b6)
      have L6 := hide ((unhide L5).later b6)
      have Y6 := hide ((unhide Y5).later b6)
      have R6 := hide m6.ss
      clear m6 b6 cR S5 L5 Y5
      go_wp2_with fail
      refine (unhide cQ _ (unhide S6) (unhide Y6) (unhide L6)).mono ?_
      rintro e w7 ⟨so, sn, sc, rfl, m7, b7⟩
      have S7 := hide ((unhide S6).later b7)
      have R7 := hide ((unhide R6).later b7)
      clear m7 b7 cQ S6 L6 Y6 R6
      have cE := hide (sameParams_self ao j c ro rn rc l w7 (unhide S7).hl (unhide R7))
      go_wp2_with fail
      refine (unhide cE).mono ?_
      rintro e w8 ⟨rfl, b8⟩
      have S8 := hide ((unhide S7).later b8)
      clear b8 cE S7 R7
      go_wp2_with fail
      go_ret
      exact ⟨rfl, (unhide S8).bel⟩


end Go.Proofs.Ytfgghgoonfamkaa
