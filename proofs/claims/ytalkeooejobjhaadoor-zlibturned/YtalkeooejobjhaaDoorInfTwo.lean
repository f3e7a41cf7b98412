/-
  What codes, of package inflate, does to a stream and answers. Conditions: the state's own bounds.
-/
import Derived.Test.YtalkeooejobjhaaDoorInfLengths
namespace Go.Proofs.YtalkeooejobjhaaDoor
open Go.RowKit
set_option linter.unusedVariables false
set_option linter.unusedSimpArgs false

theorem run_icut_h (ao : Option Addr) (n c hi : Nat) (h2 : hi ≤ c) (H : Int) (hH : H = hi) (w : World) :
    (Instr.slice 57 (.slice ao n c) none (some (.int .i64 H)) none).run Tryd.prog w = .ok (.slice (cutAt ao c 0) (hi - 0) (c - 0)) w := by
  have hs : ∀ w : World, (sizeOf (Tryd.prog.elem 57)).run Tryd.prog w = .ok 1 w := by intro w; kernel_rfl
  subst hH
  rw [run_slice_h w 57 ao n c Tryd.elemInt .i64 hi (by omega) (by omega), hs]
  rfl
theorem run_icut_l (ao : Option Addr) (n c lo : Nat) (h1 : lo ≤ n) (L : Int) (hL : L = lo) (w : World) :
    (Instr.slice 57 (.slice ao n c) (some (.int .i64 L)) none none).run Tryd.prog w = .ok (.slice (cutAt ao c lo) (n - lo) (c - lo)) w := by
  have hs : ∀ w : World, (sizeOf (Tryd.prog.elem 57)).run Tryd.prog w = .ok 1 w := by intro w; kernel_rfl
  subst hL
  rw [run_slice_l w 57 ao n c Tryd.elemInt .i64 lo (by omega) (by omega), hs]
  rfl
theorem Is.cut {w : World} {ao : Option Addr} {n c : Nat} {bs : List Int} (h : Is w ao n c bs) {lo hi : Nat} (h1 : lo ≤ hi) (h2 : hi ≤ n) : Is w (cutAt ao c lo) (hi - lo) (c - lo) ((bs.drop lo).take (hi - lo)) := by
  have hl := h.len
  have hle := h.le
  refine ⟨by simp [hl]; omega, by omega, by have := h.max; omega, fun e => ?_, fun x hx => h.fit x (List.mem_of_mem_drop (List.mem_of_mem_take hx)), ?_⟩
  · have : ao = none := by
      unfold cutAt at e
      split at e
      · exact e
      · simpa using e
    have := h.nil this
    omega
  · by_cases hz : hi - lo = 0
    · exact .inl hz
    · right
      rcases h.at' with h0 | ⟨b, off, rfl, hc⟩
      · omega
      · refine ⟨b, off + lo, by unfold cutAt; rw [if_neg (by omega)]; simp [Addr.add_lit], fun i hi => ?_⟩
        have := hc (lo + i) (by omega)
        rw [Nat.add_assoc, this]
        simp [hi]

/-- 's[:hi]' and 's[lo:]' for the walk: new values, of which the numbers are known wherever those of s are. -/
theorem icut_h (ao : Option Addr) (n c hi : Nat) (A : List Int) (h2 : hi ≤ n) (hc : n ≤ c) : ∃ lo lc, (∀ wx, (Instr.slice 57 (.slice ao n c) none (some (.int .i64 (hi : Int))) none).run Tryd.prog wx = .ok (.slice lo hi lc) wx) ∧ ∀ w', Is w' ao n c A → Is w' lo hi lc (A.take hi) :=
  ⟨cutAt ao c 0, c - 0, run_icut_h ao n c hi (by omega) _ rfl, fun w' h => by simpa using h.cut (Nat.zero_le hi) h2⟩
theorem icut_l (ao : Option Addr) (n c lo : Nat) (A : List Int) (h1 : lo ≤ n) : ∃ d dc, (∀ wx, (Instr.slice 57 (.slice ao n c) (some (.int .i64 (lo : Int))) none none).run Tryd.prog wx = .ok (.slice d (n - lo) dc) wx) ∧ ∀ w', Is w' ao n c A → Is w' d (n - lo) dc (A.drop lo) :=
  ⟨cutAt ao c lo, c - lo, run_icut_l ao n c lo h1 _ rfl, fun w' h => by have q := h.cut h1 (Nat.le_refl n); rwa [List.take_of_length_le (by simp [h.len])] at q⟩
theorem Rng.take {a : List Int} (h : Rng a) (k : Nat) : Rng (a.take k) := fun x hx => h x (List.mem_of_mem_take hx)
theorem Rng.drop {a : List Int} (h : Rng a) (k : Nat) : Rng (a.drop k) := fun x hx => h x (List.mem_of_mem_drop hx)

section
variable {E : Env} {g : Nat} {w0 : World} {oo : Option Addr} {oc : Nat} {s : PS} {ov : Bool}

theorem below_drewN (w : World) (n : Nat) : Below w.heap.size w (w.drewN n) := ⟨rfl, rfl, rfl, Nat.le_refl _, fun _ _ => rfl⟩
/-- Lengths that stay while the stream goes on. -/
def Stay (g : Nat) (oo : Option Addr) (w : World) (ao : Option Addr) (n c : Nat) (L : List Int) : Prop := ∀ oo' w', Fr g oo w oo' w' → Is w' ao n c L
/-- The two codes, and the stream. -/
def OutC (E : Env) (g : Nat) (w : World) (oo : Option Addr) (oc : Nat) (r : (List Int × List Int) × PS) (ov : Bool) (e : Ending) (w' : World) : Prop :=
  ∃ lo ln lc d dn dc, e = .returned (.tuple #[.slice lo ln lc, .slice d dn dc]) ∧ Stay g oo w' lo ln lc r.1.1 ∧ Stay g oo w' d dn dc r.1.2 ∧ St E g w' oo oc r.2 ov ∧ Gb g w w'

theorem imine_stay {B : Nat} {w : World} {ao : Option Addr} {n c : Nat} {a : List Int} (h : IMine B w ao n c a) (hg : g < B) (ho : ∀ k, ob oo k → k < B) {oo' : Option Addr} {w' : World} (f : Fr g oo w oo' w') : IMine B w' ao n c a :=
  h.keep' fun k hk hl => f.block k hl (by omega) (fun q => by have := ho k q; omega)

theorem cnt_bd (b : List Int) (l m : Int) (s : PS) (h0 : 0 ≤ l) (h1 : l ≤ 1000) : l ≤ (cntS b l m s).1 ∧ (cntS b l m s).1 ≤ l + 31 := by
  have := fldN_bd b 5 s
  simp only [cntS]
  omega

set_option maxHeartbeats 2000000 in
set_option maxRecDepth 20000 in
theorem codes_st (w : World) (h : St E g w oo oc s ov) :
    Calls Tryd.prog 31 #[.pointer (some ⟨g, 0, none⟩)] w fun e w' => OutC E g w oo oc (cosS E.bs s) ov e w' := by
  have hr := hide (show cosS E.bs s = co2S E.bs (cntS E.bs 257 286 s).1 (cntS E.bs 1 30 (cntS E.bs 257 286 s).2) from rfl)
  rw [unhide hr]
  have k1 := hide (count_any w 257 286 (by omega) (by omega) (by omega) (by omega) h)
  have b1 := cnt_bd E.bs 257 286 s (by omega) (by omega)
  have hg := h.lt
  have ho := fun k (hk : ob oo k) => (h.out.ob hk).2
  clear h hr
  generalize (cntS E.bs 257 286 s).1 = L at *
  generalize (cntS E.bs 257 286 s).2 = t1 at *
  have k2 := hide (fun w1 (h1 : St E g w1 oo oc t1 ov) => count_any w1 1 30 (by omega) (by omega) (by omega) (by omega) h1)
  have b2 := cnt_bd E.bs 1 30 t1 (by omega) (by omega)
  have hr := hide (show co2S E.bs L (cntS E.bs 1 30 t1) = co3S E.bs L (cntS E.bs 1 30 t1).1 (colS E.bs (cntS E.bs 1 30 t1).2) from rfl)
  rw [unhide hr]
  clear hr
  generalize (cntS E.bs 1 30 t1).1 = D at *
  generalize (cntS E.bs 1 30 t1).2 = t2 at *
  have hr := hide (show co3S E.bs L D (colS E.bs t2) = twoS L.toNat (lenS (colS E.bs t2).1 E.bs (L + D).toNat (colS E.bs t2).2) from rfl)
  rw [unhide hr]
  clear hr
  have k3 := hide (fun w1 (h1 : St E g w1 oo oc t2 ov) => codeOfLengths_any w1 h1)
  have b3 : (colS E.bs t2).1.length = 19 := by unfold colS colC; exact colN_len _ _ _
  obtain ⟨l, rfl⟩ : ∃ l : Nat, L = (l : Int) := ⟨L.toNat, by omega⟩
  obtain ⟨d, rfl⟩ : ∃ d : Nat, D = (d : Int) := ⟨D.toNat, by omega⟩
  have hld := hide (show ((l : Int) + (d : Int)).toNat = l + d by omega)
  have hl2 := hide (show ((l : Int)).toNat = l by omega)
  rw [unhide hld, unhide hl2]
  clear hld hl2
  generalize colS E.bs t2 = cl at *
  obtain ⟨C, t3⟩ := cl
  simp only at b3
  have hrg := hide (lenS_rng (C := C) (b := E.bs) (N := l + d) (by omega) t3)
  have hok := hide (fun q => lenS_ok (C := C) (b := E.bs) (N := l + d) (s := t3) q)
  simp only
  generalize hls : lenS C E.bs (l + d) t3 = ls at *
  obtain ⟨A, t4⟩ := ls
  have k4 := hide (fun w1 co cn cc (hC : ∀ w', Gx g w1.heap.size w1 w' → Is w' co cn cc C) (h1 : St E g w1 oo oc t3 ov) => lengths_any w1 co cn cc C hC (by omega) (l + d) (by omega) h1)
  rw [hls, show ((l + d : Nat) : Int) = (l : Int) + (d : Int) from rfl] at k4
  clear hls
  go_enter Tryd.func31, Tryd.ntmps31
  go_wp2_with fail
  refine (unhide k1).mono ?_
  rintro e w1 ⟨rfl, s1, g1⟩
  have S1 := hide s1
  clear s1
  go_wp2_with fail
  refine ((unhide k2) w1 (unhide S1)).mono ?_
  rintro e w2 ⟨rfl, s2, g2⟩
  have S2 := hide s2
  clear s2
  go_wp2_with fail
  refine ((unhide k3) w2 (unhide S2)).mono ?_
  rintro e w3 ⟨co, cc, rfl, m3, s3, gx3⟩
  have M3 := hide m3
  have S3 := hide s3
  have GB3 := hide ((g1.trans g2).trans gx3.gb)
  have hg2 := (unhide S2).lt
  have z3 := gx3.size
  clear s3 m3 g1 g2 gx3
  rw [b3] at M3
  go_wp2_with fail
  refine ((unhide k4) w3 co 19 cc (fun w' gx => ((unhide M3).keep' (fun k hk hl => gx.block k hl (by omega))).is) (unhide S3)).mono ?_
  rintro e w4 ⟨ao, c, rfl, m4, s4, gx4⟩
  have c2 := s4.c2
  have GB4 := hide ((unhide GB3).trans gx4.gb)
  have hg3 : g < w3.heap.size := by omega
  have ho3 : ∀ k, ob oo k → k < w3.heap.size := fun k hk => ((unhide S3).out.ob hk).2
  have M4 := hide m4
  have S4 := hide s4
  clear m4 s4 gx4
  by_cases he : t4.e = 0
  · have he' : (t4.e != 0) = false := by simpa using he
    have hA := unhide hok he
    have hAc := (unhide M4).is.le
    have hAx := (unhide M4).is.max
    rw [hA] at M4 hAc
    simp only [hA]
    obtain ⟨lo, lc, hc1, hi1⟩ := icut_h ao (l + d) c l A (by omega) hAc
    obtain ⟨dd, dc, hc2, hi2⟩ := icut_l ao (l + d) c l A (by omega)
    rw [show l + d - l = d by omega] at hc2 hi2
    have HI1 := hide hi1
    have HI2 := hide hi2
    clear hi1 hi2
    have la := hide (fun w1 (hI : Is w1 lo l lc (A.take l)) => areLiterals_any lo l lc (A.take l) w1 hI (by omega) (by omega) ((unhide hrg).take l))
    have da := hide (fun w1 (hI : Is w1 dd d dc (A.drop l)) => areDistances_any dd d dc (A.drop l) w1 hI (by omega) ((unhide hrg).drop l))
    have hr := hide (show twoS l (A, t4) = ((A.take l, A.drop l), if (lits (A.take l) && dsts (A.drop l)) = true then t4 else stopS 5 t4) by unfold twoS; rw [if_pos he])
    have ST := hide (fun w' (hm : IMine w3.heap.size w' ao (l + d) c A) => (show Stay g oo w' lo l lc (A.take l) ∧ Stay g oo w' dd d dc (A.drop l) from
      ⟨fun oo' w'' f => unhide HI1 w'' (imine_stay hm hg3 ho3 f).is, fun oo' w'' f => unhide HI2 w'' (imine_stay hm hg3 ho3 f).is⟩))
    clear he
    obtain ⟨P, hP⟩ : ∃ P, P = A.take l := ⟨_, rfl⟩
    obtain ⟨Q, hQ⟩ : ∃ Q, Q = A.drop l := ⟨_, rfl⟩
    rw [← hP] at HI1 la
    rw [← hQ] at HI2 da
    rw [← hP, ← hQ] at hr ST
    clear hP hQ
    go_wp2_with fail
    go_quiet (fail)
    go_wp2_with fail
    refine ((unhide la) (w4.drewN nq) (unhide HI1 _ (((unhide M4).later (below_drewN w4 nq)).is))).mono ?_
    rintro e w5 ⟨rfl, b5⟩
    have b5' : Below w4.heap.size w4 w5 := (below_drewN w4 nq).trans b5
    clear b5
    cases hlt : lits P with
    | false =>
      have hr' := hide (show twoS l (A, t4) = ((P, Q), stopS 5 t4) by rw [unhide hr, hlt]; simp)
      have pc := hide (stop_any w5 5 (by omega) (by omega) ((unhide S4).later b5'))
      go_wp2_with fail
      refine (unhide pc).mono ?_
      rintro e w6 ⟨rfl, s6, g6⟩
      go_wp2_with fail
      go_ret2
      rw [unhide hr']
      have st := unhide ST w6 (((unhide M4).later b5').gb hg3 g6)
      exact ⟨lo, l, lc, dd, d, dc, rfl, st.1, st.2, s6, ((unhide GB4).trans (Gb.of b5')).trans g6⟩
    | true =>
      have M5 := hide ((unhide M4).later b5')
      go_wp2_with fail
      refine ((unhide da) w5 (unhide HI2 _ ((unhide M5).is))).mono ?_
      rintro e w6 ⟨rfl, b6⟩
      have S6 := hide (((unhide S4).later b5').later b6)
      have M6 := hide ((unhide M5).later b6)
      have G6 := hide (((unhide GB4).trans (Gb.of b5')).trans (Gb.of b6))
      cases hdt : dsts Q with
      | false =>
        have hr' := hide (show twoS l (A, t4) = ((P, Q), stopS 5 t4) by rw [unhide hr, hlt, hdt]; simp)
        have pc := hide (stop_any w6 5 (by omega) (by omega) (unhide S6))
        go_wp2_with fail
        refine (unhide pc).mono ?_
        rintro e w7 ⟨rfl, s7, g7⟩
        go_wp2_with fail
        go_ret2
        rw [unhide hr']
        have st := unhide ST w7 ((unhide M6).gb hg3 g7)
        exact ⟨lo, l, lc, dd, d, dc, rfl, st.1, st.2, s7, (unhide G6).trans g7⟩
      | true =>
        have hr' := hide (show twoS l (A, t4) = ((P, Q), t4) by rw [unhide hr, hlt, hdt]; simp)
        go_wp2_with fail
        go_ret2
        rw [unhide hr']
        have st := unhide ST w6 (unhide M6)
        exact ⟨lo, l, lc, dd, d, dc, rfl, st.1, st.2, unhide S6, unhide G6⟩
  · have he' : (t4.e != 0) = true := by simpa using he
    have hr := hide (show twoS l (A, t4) = (([], []), t4) by unfold twoS; rw [if_neg he])
    clear he
    go_wp2_with fail
    go_ret2
    rw [unhide hr]
    exact ⟨.none, 0, 0, .none, 0, 0, rfl, fun _ w'' _ => Is.nought w'', fun _ w'' _ => Is.nought w'', unhide S4, unhide GB4⟩
end
end Go.Proofs.YtalkeooejobjhaaDoor
