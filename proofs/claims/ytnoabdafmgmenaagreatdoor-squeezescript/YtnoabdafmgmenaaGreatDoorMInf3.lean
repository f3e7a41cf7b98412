/-
  What lengths, of package inflate, does to a stream and answers. Conditions: the state's own bounds; a code of at most 19 lengths.
  What codes, of package inflate, does to a stream and answers. Conditions: the state's own bounds.
  What coded, of package inflate, does to a stream. Conditions: the state's own bounds; the two codes stay while the stream goes on.
-/
import Derived.Test.YtnoabdafmgmenaaGreatDoorMInf2
import Derived.Test.YtnoabdafmgmenaaGreatDoorMInfP
namespace Go.Proofs.YtnoabdafmgmenaaGreatDoor
open Go.RowKit
set_option linter.unusedVariables false
set_option linter.unusedSimpArgs false

def errAt (g : Nat) (w : World) : Int := match w.cell? ⟨g, 2, none⟩ with | some (.int _ z) => z | _ => 0
def posAt (g : Nat) (w : World) : Int := match w.cell? ⟨g, 1, none⟩ with | some (.int _ z) => z | _ => 0
def lenOf : Value → Nat
  | .slice _ n _ => n
  | _ => 0

section
variable {E : Env} {g : Nat} {w0 : World} {oo : Option Addr} {oc : Nat} {s : PS} {ov : Bool}

theorem St.errAt (h : St E g w0 oo oc s ov) : errAt g w0 = s.e := by unfold Proofs.YtnoabdafmgmenaaGreatDoor.errAt; rw [h.c2]
theorem St.posAt (h : St E g w0 oo oc s ov) : posAt g w0 = (s.p : Int) := by unfold Proofs.YtnoabdafmgmenaaGreatDoor.posAt; rw [h.c1]

/-- How much is left for 'lengths' to do. -/
def msL (g N : Nat) (v : Value) (w : World) : Nat := if errAt g w = 0 then N + 1 - lenOf v else 0

/-- What holds at the loop's head. -/
def RelL (E : Env) (g : Nat) (w : World) (oo : Option Addr) (oc : Nat) (ov : Bool) (C : List Int) (N : Nat) (R : List Int × PS) (v : Value) (wr : World) : Prop :=
  ∃ (a : List Int) (t : PS) (f : Nat) (ao : Option Addr) (c : Nat), v = .slice ao a.length c ∧ lenL C E.bs N f a t = R ∧ (t.e = 0 → N + 1 ≤ f + a.length) ∧ a.length ≤ N + 140 ∧ Rng a ∧ IMine w.heap.size wr ao a.length c a ∧ St E g wr oo oc t ov ∧ Gx g w.heap.size w wr

theorem relL_next {w w' : World} {C : List Int} {N f : Nat} {R : List Int × PS} {a : List Int} {X : Int} {t1 : PS} (hlt : a.length < N) (hnx : lenL C E.bs N f (lexS E.bs a X t1).1 (lexS E.bs a X t1).2 = R) (hf : N + 1 ≤ f + 1 + a.length) (hra : Rng a) (h0 : 0 ≤ X) (h1 : X < 19)
    {ao' : Option Addr} {n' c' : Nat} {l' : List Int} {t' : PS} (hx : lexS E.bs a X t1 = (l', t')) (hn' : n' = l'.length) (hm : IMine w.heap.size w' ao' n' c' l') (st : St E g w' oo oc t' ov) (gx : Gx g w.heap.size w w') :
    RelL E g w oo oc ov C N R (.slice ao' n' c') w' ∧ msL g N (.slice ao' n' c') w' < N + 1 - a.length := by
  subst hn'
  have hln := lexS_len (b := E.bs) (a := a) (x := X) (s := t1)
  have hrg := lexS_rng (b := E.bs) (s := t1) hra h0 h1
  rw [hx] at hnx hln hrg
  refine ⟨⟨l', t', f, ao', c', rfl, hnx, fun q => ?_, ?_, hrg, hm, st, gx⟩, ?_⟩
  · have := hln.2 q
    simp only at this
    omega
  · have := hln.1
    simp only at this
    omega
  · unfold msL
    rw [st.errAt]
    split
    · rename_i q
      have := hln.2 q
      simp only [lenOf] at this ⊢
      omega
    · omega

set_option maxHeartbeats 2000000 in
set_option maxRecDepth 20000 in
theorem lengths_any (w : World) (co : Option Addr) (cn cc : Nat) (C : List Int) (hC : ∀ w', Gx g w.heap.size w w' → Is w' co cn cc C) (hC19 : C.length ≤ 19) (N : Nat) (hN : N ≤ 800) (h : St E g w oo oc s ov) :
    Calls Tryz.prog 104 #[.pointer (some ⟨g, 0, none⟩), .slice co cn cc, .int .i64 (N : Int)] w fun e w' => OutL E g w.heap.size w oo oc (lenS C E.bs N s) ov e w' := by
  have hgB := h.lt
  have hoB := fun k (hk : ob oo k) => (h.out.ob hk).2
  have H := hide h
  have HC := hide hC
  have hr := hide (show lenS C E.bs N s = lenC N (lenL C E.bs N (N + 1) [] s) from rfl)
  rw [unhide hr]
  clear h hC hr
  generalize hR : lenL C E.bs N (N + 1) [] s = R
  have HR := hide hR
  clear hR
  go_enter Tryz.func104, Tryz.ntmps104
  go_wp2_with fail
  go_loopw [7] (fun v wr => RelL E g w oo oc ov C N R v wr) (fun v wr => msL g N v wr)
  case atStart => exact ⟨[], s, N + 1, .none, 0, rfl, unhide HR, (fun _ => by simp), by simp, (fun x hx => absurd hx (by simp)), IMine.nought _ _, unhide H, Gx.refl _ _ _⟩
  case round =>
    obtain ⟨a, t, f, ao, c, rfl, hl, hf, hal, hra, hm, st, gx⟩ := hrel
    have c2 := st.c2
    have HL := hide hl
    have HF := hide hf
    have HRA := hide hra
    have HM := hide hm
    have ST := hide st
    have GX := hide gx
    have hsz := gx.size
    clear hl hf hra hm st gx
    by_cases hlt : a.length < N
    · have hlt' : (a.length : Int) < (N : Int) := by omega
      by_cases he : t.e = 0
      · have he' : (t.e == 0) = true := by simpa using he
        have hms := hide (show msL g N (.slice ao a.length c) wr = N + 1 - a.length by unfold msL; rw [(unhide ST).errAt, if_pos he]; rfl)
        obtain ⟨f', hf'⟩ : ∃ f', f = f' + 1 := ⟨f - 1, by have := unhide HF he; omega⟩
        have hfa := hide (unhide HF he)
        subst hf'
        have hnx := hide (show lenL C E.bs N f' (lexS E.bs a (symS C E.bs t).1 (symS C E.bs t).2).1 (lexS E.bs a (symS C E.bs t).1 (symS C E.bs t).2).2 = R by
          rw [← unhide HL]
          simp only [lenL]
          rw [if_pos ⟨hlt, he⟩])
        have sc := hide (symbol_any wr co cn cc C (unhide HC wr (unhide GX)) (unhide ST))
        have bd := symS_bd C E.bs t
        have bd19 : 0 ≤ (symS C E.bs t).1 ∧ (symS C E.bs t).1 < 19 := by omega
        clear he bd
        generalize (symS C E.bs t).1 = X at *
        generalize (symS C E.bs t).2 = t1 at *
        have FN := hide (fun (w' : World) (ao' : Option Addr) (n' c' : Nat) (l' : List Int) (t' : PS) (hx : lexS E.bs a X t1 = (l', t')) (hn' : n' = l'.length) (hm : IMine w.heap.size w' ao' n' c' l') (st : St E g w' oo oc t' ov) (gx : Gx g w.heap.size w w') =>
          relL_next hlt (unhide hnx) (unhide hfa) (unhide HRA) bd19.1 bd19.2 hx hn' hm st gx)
        clear hnx hfa HL HF
        by_cases h16 : X = 16
        · have hx := hide (show lexS E.bs a X t1 = agnS E.bs a t1 from if_pos h16)
          have q16 : (X == 16) = true := by simpa using h16
          clear h16
          go_wp2_with fail
          refine (unhide sc).mono ?_
          rintro e w1 ⟨rfl, s1, g1⟩
          have ac := hide (again_any w.heap.size w1 ao a.length c a (Nat.le_trans hsz g1.size) hgB hoB ((unhide HM).gb hgB g1) (by omega) (unhide HRA) s1)
          have GX1 := hide ((unhide GX).trans (g1.gx hsz))
          clear s1 g1
          go_wp2_with fail
          refine (unhide ac).mono ?_
          rintro e w2 ⟨ao2, cc2, rfl, m2, s2, gx2⟩
          have fn := hide ((unhide FN) w2 ao2 _ cc2 _ _ (unhide hx) rfl m2 s2 ((unhide GX1).trans gx2))
          clear m2 s2 gx2
          go_wp2_with fail
          go_roundw
          case rel => exact (unhide fn).1
          case measure => rw [unhide hms]; exact (unhide fn).2
        have q16 : (X == 16) = false := by simpa using h16
        by_cases h17 : X = 17
        · have hx := hide (show lexS E.bs a X t1 = (a ++ List.replicate (3 + (fldN E.bs 3 t1).1).toNat 0, (fldN E.bs 3 t1).2) by unfold lexS; rw [if_neg h16, if_pos h17]; rfl)
          have q17 : (X == 17) = true := by simpa using h17
          clear h16 h17
          have fe := hide (fun w1 (s1 : St E g w1 oo oc t1 ov) => field_any w1 3 (by omega) 3 rfl s1)
          have fb := fldN_bd E.bs 3 t1
          generalize (fldN E.bs 3 t1).1 = Y at *
          generalize (fldN E.bs 3 t1).2 = t2 at *
          go_wp2_with fail
          refine (unhide sc).mono ?_
          rintro e w1 ⟨rfl, s1, g1⟩
          have S1 := hide s1
          clear s1
          go_wp2_with fail
          refine ((unhide fe) w1 (unhide S1)).mono ?_
          rintro e w2 ⟨rfl, s2, g2⟩
          have M2 := hide (((unhide HM).gb hgB g1).gb hgB g2)
          have GX2 := hide ((unhide GX).trans ((g1.trans g2).gx hsz))
          have z2 : w.heap.size ≤ w2.heap.size := Nat.le_trans hsz (g1.trans g2).size
          have S2 := hide s2
          clear s2 g1 g2
          go_wp2_with fail
          refine (times_any w.heap.size ao a.length c a 0 (3 + Y).toNat w2 z2 (unhide M2) (by omega) (by omega) (by omega) (by omega) _ (by omega)).mono ?_
          rintro e w3 ⟨ao3, cc3, rfl, m3, b3⟩
          have fn := hide ((unhide FN) w3 ao3 _ cc3 _ _ (unhide hx) (by simp) m3 ((unhide S2).under hgB hoB b3) ((unhide GX2).trans (below_gx b3)))
          clear m3 b3
          go_wp2_with fail
          go_roundw
          case rel => exact (unhide fn).1
          case measure => rw [unhide hms]; exact (unhide fn).2
        have q17 : (X == 17) = false := by simpa using h17
        by_cases h18 : X = 18
        · have hx := hide (show lexS E.bs a X t1 = (a ++ List.replicate (11 + (fldN E.bs 7 t1).1).toNat 0, (fldN E.bs 7 t1).2) by unfold lexS; rw [if_neg h16, if_neg h17, if_pos h18]; rfl)
          have q18 : (X == 18) = true := by simpa using h18
          clear h16 h17 h18
          have fe := hide (fun w1 (s1 : St E g w1 oo oc t1 ov) => field_any w1 7 (by omega) 7 rfl s1)
          have fb := fldN_bd E.bs 7 t1
          generalize (fldN E.bs 7 t1).1 = Y at *
          generalize (fldN E.bs 7 t1).2 = t2 at *
          go_wp2_with fail
          refine (unhide sc).mono ?_
          rintro e w1 ⟨rfl, s1, g1⟩
          have S1 := hide s1
          clear s1
          go_wp2_with fail
          refine ((unhide fe) w1 (unhide S1)).mono ?_
          rintro e w2 ⟨rfl, s2, g2⟩
          have M2 := hide (((unhide HM).gb hgB g1).gb hgB g2)
          have GX2 := hide ((unhide GX).trans ((g1.trans g2).gx hsz))
          have z2 : w.heap.size ≤ w2.heap.size := Nat.le_trans hsz (g1.trans g2).size
          have S2 := hide s2
          clear s2 g1 g2
          go_wp2_with fail
          refine (times_any w.heap.size ao a.length c a 0 (11 + Y).toNat w2 z2 (unhide M2) (by omega) (by omega) (by omega) (by omega) _ (by omega)).mono ?_
          rintro e w3 ⟨ao3, cc3, rfl, m3, b3⟩
          have fn := hide ((unhide FN) w3 ao3 _ cc3 _ _ (unhide hx) (by simp) m3 ((unhide S2).under hgB hoB b3) ((unhide GX2).trans (below_gx b3)))
          clear m3 b3
          go_wp2_with fail
          go_roundw
          case rel => exact (unhide fn).1
          case measure => rw [unhide hms]; exact (unhide fn).2
        have q18 : (X == 18) = false := by simpa using h18
        have hx := hide (show lexS E.bs a X t1 = (a ++ [X], t1) by unfold lexS; rw [if_neg h16, if_neg h17, if_neg h18])
        clear h16 h17 h18
        go_wp2_with fail
        refine (unhide sc).mono ?_
        rintro e w1 ⟨rfl, s1, g1⟩
        have S1 := hide s1
        have M1 := hide (((unhide HM).gb hgB g1).later (below_alloc w1 (.cells #[.int .i64 X] 3)))
        have GX1 := hide ((unhide GX).trans (g1.gx hsz))
        have z1 : w.heap.size ≤ (w1.alloc (.cells #[.int .i64 X] 3)).heap.size := by have := g1.size; simp; omega
        have z0 : w.heap.size ≤ w1.heap.size := Nat.le_trans hsz g1.size
        have hone := hide (Is.one w1 X (by omega) (by omega))
        clear s1 g1
        go_wp2_with (at_builtin; refine wpList_iapp rfl (.tmp 27) (.tmp 29) rfl w.heap.size _ _ _ _ rfl (unhide M1) _ 1 1 [X] rfl (unhide hone) (by omega) z1 ?_; intro ao1 c1 w2 m2 b2)
        have bb : Below w.heap.size w1 w2 := ((below_alloc w1 _).mono z0).trans b2
        have fn := hide ((unhide FN) w2 ao1 _ c1 _ _ (unhide hx) (by simp) m2 ((unhide S1).under hgB hoB bb) ((unhide GX1).trans (below_gx bb)))
        clear m2
        go_roundw
        case rel => exact (unhide fn).1
        case measure => rw [unhide hms]; exact (unhide fn).2
      · have he' : (t.e == 0) = false := by simpa using he
        have hR := hide (show R = (a, t) by rw [← unhide HL]; exact lenL_dead he f)
        have hfin := hide (show lenC N R = (a, t) by rw [unhide hR]; unfold lenC; simp only; rw [if_pos (by omega)])
        have hgt : ¬ (N : Int) < (a.length : Int) := by omega
        clear he
        go_wp2_with fail
        go_ret
        rw [unhide hfin]
        exact ⟨ao, c, rfl, unhide HM, unhide ST, unhide GX⟩
    · have hlt' : ¬ (a.length : Int) < (N : Int) := by omega
      have hR := hide (show R = (a, t) by rw [← unhide HL]; exact lenL_end (fun q => hlt q.1) f)
      by_cases hgt : N < a.length
      · have hgt' : (N : Int) < (a.length : Int) := by omega
        have hfin := hide (show lenC N R = (a, stopS 5 t) by rw [unhide hR]; unfold lenC; simp only; rw [if_neg (by omega)])
        have pc := hide (stop_any wr 5 (by omega) (by omega) (unhide ST))
        go_wp2_with fail
        refine (unhide pc).mono ?_
        rintro e w1 ⟨rfl, s1, g1⟩
        go_wp2_with fail
        go_ret
        rw [unhide hfin]
        exact ⟨ao, c, rfl, (unhide HM).gb hgB g1, s1, (unhide GX).trans (g1.gx hsz)⟩
      · have hgt' : ¬ (N : Int) < (a.length : Int) := by omega
        have hfin := hide (show lenC N R = (a, t) by rw [unhide hR]; unfold lenC; simp only; rw [if_pos (by omega)])
        go_wp2_with fail
        go_ret
        rw [unhide hfin]
        exact ⟨ao, c, rfl, unhide HM, unhide ST, unhide GX⟩
end
end Go.Proofs.YtnoabdafmgmenaaGreatDoor

namespace Go.Proofs.YtnoabdafmgmenaaGreatDoor
open Go.RowKit
set_option linter.unusedVariables false
set_option linter.unusedSimpArgs false

theorem run_icut_h (ao : Option Addr) (n c hi : Nat) (h2 : hi ≤ c) (H : Int) (hH : H = hi) (w : World) :
    (Instr.slice 96 (.slice ao n c) none (some (.int .i64 H)) none).run Tryz.prog w = .ok (.slice (cutAt ao c 0) (hi - 0) (c - 0)) w := by
  have hs : ∀ w : World, (sizeOf (Tryz.prog.elem 96)).run Tryz.prog w = .ok 1 w := by intro w; kernel_rfl
  subst hH
  rw [run_slice_h w 96 ao n c Tryz.elemInt .i64 hi (by omega) (by omega), hs]
  rfl
theorem run_icut_l (ao : Option Addr) (n c lo : Nat) (h1 : lo ≤ n) (L : Int) (hL : L = lo) (w : World) :
    (Instr.slice 96 (.slice ao n c) (some (.int .i64 L)) none none).run Tryz.prog w = .ok (.slice (cutAt ao c lo) (n - lo) (c - lo)) w := by
  have hs : ∀ w : World, (sizeOf (Tryz.prog.elem 96)).run Tryz.prog w = .ok 1 w := by intro w; kernel_rfl
  subst hL
  rw [run_slice_l w 96 ao n c Tryz.elemInt .i64 lo (by omega) (by omega), hs]
  rfl
theorem Is.cut {w : World} {ao : Option Addr} {n c : Nat} {bs : List Int} (h : Is w ao n c bs) {lo hi : Nat} (h1 : lo ≤ hi) (h2 : hi ≤ n) : Is w (cutAt ao c lo) (hi - lo) (c - lo) ((bs.drop lo).take (hi - lo)) := by
  have hl := h.len
  have hle := h.le
  refine ⟨by simp [hl]; omega, by omega, by have := h.max; omega, fun e => ?_, fun x hx => h.fit x (List.mem_of_mem_drop (List.mem_of_mem_take hx)), ?_⟩
  · have : ao = none := by
      unfold cutAt at e
      split at e
      · exact e
      · simpa using e
    have := h.nil this
    omega
  · by_cases hz : hi - lo = 0
    · exact .inl hz
    · right
      rcases h.at' with h0 | ⟨b, off, rfl, hc⟩
      · omega
      · refine ⟨b, off + lo, by unfold cutAt; rw [if_neg (by omega)]; simp [Addr.add_lit], fun i hi => ?_⟩
        have := hc (lo + i) (by omega)
        rw [Nat.add_assoc, this]
        simp [hi]

/-- 's[:hi]' and 's[lo:]' for the walk: new values, of which the numbers are known wherever those of s are. -/
theorem icut_h (ao : Option Addr) (n c hi : Nat) (A : List Int) (h2 : hi ≤ n) (hc : n ≤ c) : ∃ lo lc, (∀ wx, (Instr.slice 96 (.slice ao n c) none (some (.int .i64 (hi : Int))) none).run Tryz.prog wx = .ok (.slice lo hi lc) wx) ∧ ∀ w', Is w' ao n c A → Is w' lo hi lc (A.take hi) :=
  ⟨cutAt ao c 0, c - 0, run_icut_h ao n c hi (by omega) _ rfl, fun w' h => by simpa using h.cut (Nat.zero_le hi) h2⟩
theorem icut_l (ao : Option Addr) (n c lo : Nat) (A : List Int) (h1 : lo ≤ n) : ∃ d dc, (∀ wx, (Instr.slice 96 (.slice ao n c) (some (.int .i64 (lo : Int))) none none).run Tryz.prog wx = .ok (.slice d (n - lo) dc) wx) ∧ ∀ w', Is w' ao n c A → Is w' d (n - lo) dc (A.drop lo) :=
  ⟨cutAt ao c lo, c - lo, run_icut_l ao n c lo h1 _ rfl, fun w' h => by have q := h.cut h1 (Nat.le_refl n); rwa [List.take_of_length_le (by simp [h.len])] at q⟩
theorem Rng.take {a : List Int} (h : Rng a) (k : Nat) : Rng (a.take k) := fun x hx => h x (List.mem_of_mem_take hx)
theorem Rng.drop {a : List Int} (h : Rng a) (k : Nat) : Rng (a.drop k) := fun x hx => h x (List.mem_of_mem_drop hx)

section
variable {E : Env} {g : Nat} {w0 : World} {oo : Option Addr} {oc : Nat} {s : PS} {ov : Bool}

theorem below_drewN (w : World) (n : Nat) : Below w.heap.size w (w.drewN n) := ⟨rfl, rfl, rfl, Nat.le_refl _, fun _ _ => rfl⟩
/-- Lengths that stay while the stream goes on. -/
def Stay (g : Nat) (oo : Option Addr) (w : World) (ao : Option Addr) (n c : Nat) (L : List Int) : Prop := ∀ oo' w', Fr g oo w oo' w' → Is w' ao n c L
/-- The two codes, and the stream. -/
def OutC (E : Env) (g : Nat) (w : World) (oo : Option Addr) (oc : Nat) (r : (List Int × List Int) × PS) (ov : Bool) (e : Ending) (w' : World) : Prop :=
  ∃ lo ln lc d dn dc, e = .returned (.tuple #[.slice lo ln lc, .slice d dn dc]) ∧ Stay g oo w' lo ln lc r.1.1 ∧ Stay g oo w' d dn dc r.1.2 ∧ St E g w' oo oc r.2 ov ∧ Gb g w w'

theorem imine_stay {B : Nat} {w : World} {ao : Option Addr} {n c : Nat} {a : List Int} (h : IMine B w ao n c a) (hg : g < B) (ho : ∀ k, ob oo k → k < B) {oo' : Option Addr} {w' : World} (f : Fr g oo w oo' w') : IMine B w' ao n c a :=
  h.keep' fun k hk hl => f.block k hl (by omega) (fun q => by have := ho k q; omega)

theorem cnt_bd (b : List Int) (l m : Int) (s : PS) (h0 : 0 ≤ l) (h1 : l ≤ 1000) : l ≤ (cntS b l m s).1 ∧ (cntS b l m s).1 ≤ l + 31 := by
  have := fldN_bd b 5 s
  simp only [cntS]
  omega

set_option maxHeartbeats 2000000 in
set_option maxRecDepth 20000 in
theorem codes_st (w : World) (h : St E g w oo oc s ov) :
    Calls Tryz.prog 72 #[.pointer (some ⟨g, 0, none⟩)] w fun e w' => OutC E g w oo oc (cosS E.bs s) ov e w' := by
  have hr := hide (show cosS E.bs s = co2S E.bs (cntS E.bs 257 286 s).1 (cntS E.bs 1 30 (cntS E.bs 257 286 s).2) from rfl)
  rw [unhide hr]
  have k1 := hide (count_any w 257 286 (by omega) (by omega) (by omega) (by omega) h)
  have b1 := cnt_bd E.bs 257 286 s (by omega) (by omega)
  have hg := h.lt
  have ho := fun k (hk : ob oo k) => (h.out.ob hk).2
  clear h hr
  generalize (cntS E.bs 257 286 s).1 = L at *
  generalize (cntS E.bs 257 286 s).2 = t1 at *
  have k2 := hide (fun w1 (h1 : St E g w1 oo oc t1 ov) => count_any w1 1 30 (by omega) (by omega) (by omega) (by omega) h1)
  have b2 := cnt_bd E.bs 1 30 t1 (by omega) (by omega)
  have hr := hide (show co2S E.bs L (cntS E.bs 1 30 t1) = co3S E.bs L (cntS E.bs 1 30 t1).1 (colS E.bs (cntS E.bs 1 30 t1).2) from rfl)
  rw [unhide hr]
  clear hr
  generalize (cntS E.bs 1 30 t1).1 = D at *
  generalize (cntS E.bs 1 30 t1).2 = t2 at *
  have hr := hide (show co3S E.bs L D (colS E.bs t2) = twoS L.toNat (lenS (colS E.bs t2).1 E.bs (L + D).toNat (colS E.bs t2).2) from rfl)
  rw [unhide hr]
  clear hr
  have k3 := hide (fun w1 (h1 : St E g w1 oo oc t2 ov) => codeOfLengths_any w1 h1)
  have b3 : (colS E.bs t2).1.length = 19 := by unfold colS colC; exact colN_len _ _ _
  obtain ⟨l, rfl⟩ : ∃ l : Nat, L = (l : Int) := ⟨L.toNat, by omega⟩
  obtain ⟨d, rfl⟩ : ∃ d : Nat, D = (d : Int) := ⟨D.toNat, by omega⟩
  have hld := hide (show ((l : Int) + (d : Int)).toNat = l + d by omega)
  have hl2 := hide (show ((l : Int)).toNat = l by omega)
  rw [unhide hld, unhide hl2]
  clear hld hl2
  generalize colS E.bs t2 = cl at *
  obtain ⟨C, t3⟩ := cl
  simp only at b3
  have hrg := hide (lenS_rng (C := C) (b := E.bs) (N := l + d) (by omega) t3)
  have hok := hide (fun q => lenS_ok (C := C) (b := E.bs) (N := l + d) (s := t3) q)
  simp only
  generalize hls : lenS C E.bs (l + d) t3 = ls at *
  obtain ⟨A, t4⟩ := ls
  have k4 := hide (fun w1 co cn cc (hC : ∀ w', Gx g w1.heap.size w1 w' → Is w' co cn cc C) (h1 : St E g w1 oo oc t3 ov) => lengths_any w1 co cn cc C hC (by omega) (l + d) (by omega) h1)
  rw [hls, show ((l + d : Nat) : Int) = (l : Int) + (d : Int) from rfl] at k4
  clear hls
  go_enter Tryz.func72, Tryz.ntmps72
  go_wp2_with fail
  refine (unhide k1).mono ?_
  rintro e w1 ⟨rfl, s1, g1⟩
  have S1 := hide s1
  clear s1
  go_wp2_with fail
  refine ((unhide k2) w1 (unhide S1)).mono ?_
  rintro e w2 ⟨rfl, s2, g2⟩
  have S2 := hide s2
  clear s2
  go_wp2_with fail
  refine ((unhide k3) w2 (unhide S2)).mono ?_
  rintro e w3 ⟨co, cc, rfl, m3, s3, gx3⟩
  have M3 := hide m3
  have S3 := hide s3
  have GB3 := hide ((g1.trans g2).trans gx3.gb)
  have hg2 := (unhide S2).lt
  have z3 := gx3.size
  clear s3 m3 g1 g2 gx3
  rw [b3] at M3
  go_wp2_with fail
  refine ((unhide k4) w3 co 19 cc (fun w' gx => ((unhide M3).keep' (fun k hk hl => gx.block k hl (by omega))).is) (unhide S3)).mono ?_
  rintro e w4 ⟨ao, c, rfl, m4, s4, gx4⟩
  have c2 := s4.c2
  have GB4 := hide ((unhide GB3).trans gx4.gb)
  have hg3 : g < w3.heap.size := by omega
  have ho3 : ∀ k, ob oo k → k < w3.heap.size := fun k hk => ((unhide S3).out.ob hk).2
  have M4 := hide m4
  have S4 := hide s4
  clear m4 s4 gx4
  by_cases he : t4.e = 0
  · have he' : (t4.e != 0) = false := by simpa using he
    have hA := unhide hok he
    have hAc := (unhide M4).is.le
    have hAx := (unhide M4).is.max
    rw [hA] at M4 hAc
    simp only [hA]
    obtain ⟨lo, lc, hc1, hi1⟩ := icut_h ao (l + d) c l A (by omega) hAc
    obtain ⟨dd, dc, hc2, hi2⟩ := icut_l ao (l + d) c l A (by omega)
    rw [show l + d - l = d by omega] at hc2 hi2
    have HI1 := hide hi1
    have HI2 := hide hi2
    clear hi1 hi2
    have la := hide (fun w1 (hI : Is w1 lo l lc (A.take l)) => areLiterals_any lo l lc (A.take l) w1 hI (by omega) (by omega) ((unhide hrg).take l))
    have da := hide (fun w1 (hI : Is w1 dd d dc (A.drop l)) => areDistances_any dd d dc (A.drop l) w1 hI (by omega) ((unhide hrg).drop l))
    have hr := hide (show twoS l (A, t4) = ((A.take l, A.drop l), if (lits (A.take l) && dsts (A.drop l)) = true then t4 else stopS 5 t4) by unfold twoS; rw [if_pos he])
    have ST := hide (fun w' (hm : IMine w3.heap.size w' ao (l + d) c A) => (show Stay g oo w' lo l lc (A.take l) ∧ Stay g oo w' dd d dc (A.drop l) from
      ⟨fun oo' w'' f => unhide HI1 w'' (imine_stay hm hg3 ho3 f).is, fun oo' w'' f => unhide HI2 w'' (imine_stay hm hg3 ho3 f).is⟩))
    clear he
    obtain ⟨P, hP⟩ : ∃ P, P = A.take l := ⟨_, rfl⟩
    obtain ⟨Q, hQ⟩ : ∃ Q, Q = A.drop l := ⟨_, rfl⟩
    rw [← hP] at HI1 la
    rw [← hQ] at HI2 da
    rw [← hP, ← hQ] at hr ST
    clear hP hQ
    go_wp2_with fail
    go_quiet (fail)
    go_wp2_with fail
    refine ((unhide la) (w4.drewN nq) (unhide HI1 _ (((unhide M4).later (below_drewN w4 nq)).is))).mono ?_
    rintro e w5 ⟨rfl, b5⟩
    have b5' : Below w4.heap.size w4 w5 := (below_drewN w4 nq).trans b5
    clear b5
    cases hlt : lits P with
    | false =>
      have hr' := hide (show twoS l (A, t4) = ((P, Q), stopS 5 t4) by rw [unhide hr, hlt]; simp)
      have pc := hide (stop_any w5 5 (by omega) (by omega) ((unhide S4).later b5'))
      go_wp2_with fail
      refine (unhide pc).mono ?_
      rintro e w6 ⟨rfl, s6, g6⟩
      go_wp2_with fail
      go_ret2
      rw [unhide hr']
      have st := unhide ST w6 (((unhide M4).later b5').gb hg3 g6)
      exact ⟨lo, l, lc, dd, d, dc, rfl, st.1, st.2, s6, ((unhide GB4).trans (Gb.of b5')).trans g6⟩
    | true =>
      have M5 := hide ((unhide M4).later b5')
      go_wp2_with fail
      refine ((unhide da) w5 (unhide HI2 _ ((unhide M5).is))).mono ?_
      rintro e w6 ⟨rfl, b6⟩
      have S6 := hide (((unhide S4).later b5').later b6)
      have M6 := hide ((unhide M5).later b6)
      have G6 := hide (((unhide GB4).trans (Gb.of b5')).trans (Gb.of b6))
      cases hdt : dsts Q with
      | false =>
        have hr' := hide (show twoS l (A, t4) = ((P, Q), stopS 5 t4) by rw [unhide hr, hlt, hdt]; simp)
        have pc := hide (stop_any w6 5 (by omega) (by omega) (unhide S6))
        go_wp2_with fail
        refine (unhide pc).mono ?_
        rintro e w7 ⟨rfl, s7, g7⟩
        go_wp2_with fail
        go_ret2
        rw [unhide hr']
        have st := unhide ST w7 ((unhide M6).gb hg3 g7)
        exact ⟨lo, l, lc, dd, d, dc, rfl, st.1, st.2, s7, (unhide G6).trans g7⟩
      | true =>
        have hr' := hide (show twoS l (A, t4) = ((P, Q), t4) by rw [unhide hr, hlt, hdt]; simp)
        go_wp2_with fail
        go_ret2
        rw [unhide hr']
        have st := unhide ST w6 (unhide M6)
        exact ⟨lo, l, lc, dd, d, dc, rfl, st.1, st.2, unhide S6, unhide G6⟩
  · have he' : (t4.e != 0) = true := by simpa using he
    have hr := hide (show twoS l (A, t4) = (([], []), t4) by unfold twoS; rw [if_neg he])
    clear he
    go_wp2_with fail
    go_ret2
    rw [unhide hr]
    exact ⟨.none, 0, 0, .none, 0, 0, rfl, fun _ w'' _ => Is.nought w'', fun _ w'' _ => Is.nought w'', unhide S4, unhide GB4⟩
end
end Go.Proofs.YtnoabdafmgmenaaGreatDoor

namespace Go.Proofs.YtnoabdafmgmenaaGreatDoor
open Go.RowKit
set_option linter.unusedVariables false
set_option linter.unusedSimpArgs false

theorem pow2_le {k n : Nat} (h : k ≤ n) : (2 : Int) ^ k ≤ 2 ^ n := by
  have := Nat.pow_le_pow_right (show 0 < 2 by omega) h
  exact_mod_cast this
theorem dst_ge {D b : List Int} {s : PS} (h : (dstS D b s).2.e = 0) : 1 ≤ (dstS D b s).1 := by
  unfold dstS dsyS at h ⊢
  by_cases hx : (symS D b s).1 < 30
  · rw [if_pos hx] at h ⊢
    have hb := symS_bd D b s
    have h1 := dst_bd (symS D b s).1.toNat (by omega)
    have h2 := fldN_bd b (dstX[(symS D b s).1.toNat]?.getD 0) (symS D b s).2
    simp only [wthS]
    omega
  · rw [if_neg hx] at h
    exact absurd h (stopS_e 5 _ (by omega))
theorem dst_le (D b : List Int) (s : PS) : 0 ≤ (dstS D b s).1 ∧ (dstS D b s).1 ≤ 100000 := by
  unfold dstS dsyS
  by_cases hx : (symS D b s).1 < 30
  · rw [if_pos hx]
    have hb := symS_bd D b s
    have h1 := dst_bd (symS D b s).1.toNat (by omega)
    have h2 := fldN_bd b (dstX[(symS D b s).1.toNat]?.getD 0) (symS D b s).2
    have h3 := pow2_le h1.2.2
    simp only [wthS]
    omega
  · rw [if_neg hx]
    exact ⟨Int.le_refl 0, by omega⟩
theorem lth_le {b : List Int} {x : Int} {s : PS} (h0 : 257 ≤ x) (h1 : x < 286) : 0 ≤ (lthS b x s).1 ∧ (lthS b x s).1 ≤ 100000 := by
  unfold lthS wthS
  have h2 := len_bd (x - 257).toNat (by omega)
  have h3 := fldN_bd b (lenX[(x - 257).toNat]?.getD 0) s
  have h4 := pow2_le h2.2
  simp only
  omega

theorem run_lenAt (i : Nat) (hi : i < 29) (I : Int) (hI : I = (i : Int)) (w : World) : (Instr.indexAt 148 (.pointer (some ⟨0, 0, none⟩)) (.int .i64 I)).run Tryz.prog w = .ok (.pointer (some ⟨0, i * 2, none⟩)) w := by
  subst hI
  have hs : ∀ w : World, (sizeOf (Tryz.prog.elem 148)).run Tryz.prog w = .ok 2 w := by intro w; kernel_rfl
  have hl : Tryz.prog.arrayLen 148 = 29 := by kernel_rfl
  have hu : Tryz.prog.underlying 148 = some (.array (Tryz.prog.arrayLen 148) (Tryz.prog.elem 148)) := by kernel_rfl
  rw [run_indexAt_array w 148 _ .i64 (i : Int) hu, hl, if_pos (by omega), hs]
  simp [Result.andThen, Addr.add_lit]

section
variable {E : Env} {g : Nat} {w0 : World} {oo : Option Addr} {oc : Nat} {s : PS} {ov : Bool}

/-- How much is left to be read. -/
def msC (g K : Nat) (w : World) : Nat := if errAt g w = 0 then K + 1 - (posAt g w).toNat else 0
/-- What holds at the loop's head. -/
def RelC (E : Env) (g : Nat) (w : World) (oo : Option Addr) (ov : Bool) (L D : List Int) (R : PS) (wr : World) : Prop :=
  ∃ (t : PS) (f : Nat) (oo1 : Option Addr) (oc1 : Nat), cdS L D E.bs E.m f t = R ∧ (t.e = 0 → 8 * E.bn + 1 ≤ f + t.p) ∧ St E g wr oo1 oc1 t ov ∧ Fr g oo w oo1 wr

theorem relC_next {w w' : World} {L D : List Int} {R t t' : PS} {f : Nat} (he : t.e = 0) (hf : 8 * E.bn + 1 ≤ f + 1 + t.p) (hp : t.p ≤ 8 * E.bn) (hn : cdS L D E.bs E.m f t' = R) (hup : t'.e = 0 → t.p + 1 ≤ t'.p) {oo' : Option Addr} {oc' : Nat} (st : St E g w' oo' oc' t' ov) (fr : Fr g oo w oo' w') :
    RelC E g w oo ov L D R w' ∧ msC g (8 * E.bn) w' < 8 * E.bn + 1 - t.p := by
  refine ⟨⟨t', f, oo', oc', hn, fun q => by have := hup q; omega, st, fr⟩, ?_⟩
  unfold msC
  rw [st.errAt, st.posAt]
  split
  · rename_i q
    have := hup q
    have := st.fit.p
    simp only [Int.toNat_natCast]
    omega
  · omega

set_option maxHeartbeats 2000000 in
set_option maxRecDepth 20000 in
theorem coded_any (F : Nat) (w : World) (lo : Option Addr) (ln_ lc : Nat) (L : List Int) (d : Option Addr) (dn dc : Nat) (D : List Int) (hL : Stay g oo w lo ln_ lc L) (hD : Stay g oo w d dn dc D) (hF : 8 * E.bn + 1 ≤ F) (h : St E g w oo oc s ov) :
    Calls Tryz.prog 70 #[.pointer (some ⟨g, 0, none⟩), .slice lo ln_ lc, .slice d dn dc] w fun e w' => e = .returned (.tuple #[]) ∧ Out E g w oo (cdS L D E.bs E.m F s) ov w' := by
  have H := hide h
  have HL := hide hL
  have HD := hide hD
  clear h hL hD
  generalize hR : cdS L D E.bs E.m F s = R
  have HR := hide hR
  clear hR
  go_enter Tryz.func70, Tryz.ntmps70
  go_wp2_with fail
  go_loopw [] (fun wr => RelC E g w oo ov L D R wr) (fun wr => msC g (8 * E.bn) wr)
  case atStart => exact ⟨s, F, oo, oc, unhide HR, fun _ => by omega, unhide H, Fr.refl _ _ _⟩
  case round =>
    obtain ⟨t, f, oo1, oc1, hn, hf, st, fr⟩ := hrel
    have c2 := st.c2
    have hp := st.fit.p
    have ST := hide st
    have FR := hide fr
    have HN := hide hn
    have HF := hide hf
    clear hn hf st fr
    by_cases he : t.e = 0
    · have he' : (t.e == 0) = true := by simpa using he
      have hms := hide (show msC g (8 * E.bn) wr = 8 * E.bn + 1 - t.p by unfold msC; rw [(unhide ST).errAt, if_pos he, (unhide ST).posAt]; simp)
      have hfa := unhide HF he
      obtain ⟨f', hf'⟩ : ∃ f', f = f' + 1 := ⟨f - 1, by omega⟩
      subst hf'
      have HFA := hide hfa
      have hnx := hide (show cdX L D E.bs E.m f' (symS L E.bs t).1 (symS L E.bs t).2 = R by rw [← unhide HN, cdS_live he])
      have sc := hide (symbol_any wr lo ln_ lc L (unhide HL _ wr (unhide FR)) (unhide ST))
      have bd := symS_bd L E.bs t
      have b3 := symS_320 L E.bs t
      have hup := hide (show (symS L E.bs t).2.e = 0 → t.p + 1 ≤ (symS L E.bs t).2.p by
        rw [symS_live he]
        intro q
        obtain ⟨i, k, h1, h2, h3, h4, _⟩ := rdq_ok L E.bs t.p q
        simp only [h1, Int.toNat_natCast]
        omega)
      have HE := hide he
      clear he hfa
      generalize (symS L E.bs t).1 = X at *
      generalize (symS L E.bs t).2 = t1 at *
      have FN := hide (fun (w' : World) (oo' : Option Addr) (oc' : Nat) (t' : PS) (hn : cdS L D E.bs E.m f' t' = R) (hu : t'.e = 0 → t1.e = 0 ∧ t1.p ≤ t'.p) (st : St E g w' oo' oc' t' ov) (fr : Fr g oo w oo' w') =>
        relC_next (unhide HE) (unhide HFA) hp hn (fun q => by have a1 := hu q; have a2 := unhide hup a1.1; omega) st fr)
      by_cases h1 : X < 256
      · have hx := hide (show cdS L D E.bs E.m f' (telS E.m X t1) = R by rw [← unhide hnx]; unfold cdX; rw [if_pos h1])
        have X8 : X ≤ 255 := by omega
        have hu := hide (fun (q : (telS E.m X t1).e = 0) => (show t1.e = 0 ∧ t1.p ≤ (telS E.m X t1).p by
          have nt := nice_tel (c := fun _ => X)
          have l1 := nt.live (b := E.bs) (m := E.m) (s := t1) q
          exact ⟨l1, (nt.up E.bs E.m t1 l1 q).1⟩))
        go_wp2_with fail
        refine (unhide sc).mono ?_
        rintro e w1 ⟨rfl, s1, g1⟩
        have tc := hide (tell_any w1 X bd.1 X8 s1)
        clear s1
        go_wp2_with fail
        refine (unhide tc).mono ?_
        rintro e w2 ⟨rfl, oo2, oc2, s2, f2⟩
        have fn := hide ((unhide FN) w2 oo2 oc2 _ (unhide hx) (unhide hu) s2 (((unhide FR).trans (g1.fr oo1)).trans f2))
        clear s2 f2
        go_wp2_with fail
        go_roundw
        case rel => exact (unhide fn).1
        case measure => rw [unhide hms]; exact (unhide fn).2
      by_cases h2 : X = 256
      · have hx := hide (show R = t1 by rw [← unhide hnx]; unfold cdX; rw [if_neg h1, if_pos h2])
        subst h2
        clear h1
        go_wp2_with fail
        refine (unhide sc).mono ?_
        rintro e w1 ⟨rfl, s1, g1⟩
        have S1 := hide s1
        clear s1
        go_wp2_with fail
        refine bodyPost_ret (results_none rfl _ _ _) rfl ?_
        rw [unhide hx]
        exact ⟨rfl, oo1, oc1, unhide S1, (unhide FR).trans (g1.fr oo1)⟩
      have q2 : (X == 256) = false := by simpa using h2
      by_cases h3 : X < 286
      · have hx := hide (show cdS L D E.bs E.m f' (cpxS D E.bs E.m X t1) = R by rw [← unhide hnx]; unfold cdX; rw [if_neg h1, if_neg h2, if_pos h3])
        have hu := hide (fun (q : (cpxS D E.bs E.m X t1).e = 0) => (show t1.e = 0 ∧ t1.p ≤ (cpxS D E.bs E.m X t1).p by
          have nt := nice_cpx D X
          have l1 := nt.live (b := E.bs) (m := E.m) (s := t1) q
          exact ⟨l1, (nt.up E.bs E.m t1 l1 q).1⟩))
        obtain ⟨i, hi⟩ : ∃ i : Nat, X - 257 = (i : Int) := ⟨(X - 257).toNat, by omega⟩
        have i29 : i < 29 := by omega
        have lb := len_bd i i29
        have ll := lth_le (b := E.bs) (x := X) (s := t1) (by omega) h3
        have hlw := hide (show lthS E.bs X t1 = wthS E.bs (lenB[i]?.getD 0) (lenX[i]?.getD 0) t1 by unfold lthS; rw [show (X - 257).toNat = i by omega])
        have hcx := hide (show cpxS D E.bs E.m X t1 = cpyS E.m (lthS E.bs X t1).1.toNat (dstS D E.bs (lthS E.bs X t1).2).1.toNat (dstS D E.bs (lthS E.bs X t1).2).2 from rfl)
        obtain ⟨B, hB⟩ : ∃ B, B = lenB[i]?.getD 0 := ⟨_, rfl⟩
        obtain ⟨K, hK⟩ : ∃ K, K = lenX[i]?.getD 0 := ⟨_, rfl⟩
        rw [← hB, ← hK] at hlw lb
        have VB := hide (fun w1 (s1 : St E g w1 oo1 oc1 t1 ov) => (show w1.cell? ⟨0, i * 2, none⟩ = some (.int .i64 (B : Int)) by rw [hB]; exact s1.vars.lenB i i29))
        have VK := hide (fun w1 (s1 : St E g w1 oo1 oc1 t1 ov) => (show w1.cell? ⟨0, i * 2 + 1, none⟩ = some (.int .i64 (K : Int)) by rw [hK]; exact s1.vars.lenX i i29))
        have WC := hide (fun w1 (s1 : St E g w1 oo1 oc1 t1 ov) => within_any w1 B K (by omega) (by omega) s1)
        rw [← unhide hlw] at WC
        have dl := dst_le D E.bs (lthS E.bs X t1).2
        have dg := hide (fun q => dst_ge (D := D) (b := E.bs) (s := (lthS E.bs X t1).2) q)
        have ix := hide (run_lenAt i i29 (IntKind.i64.wrap (X - 257)) (by rw [IntKind.wrap_i64]; omega))
        have DC := hide (fun w1 (s1 : St E g w1 oo1 oc1 (lthS E.bs X t1).2 ov) (hI : Is w1 d dn dc D) => distance_any w1 d dn dc D hI s1)
        generalize (dstS D E.bs (lthS E.bs X t1).2).1 = DV at *
        generalize (dstS D E.bs (lthS E.bs X t1).2).2 = t3 at *
        generalize (lthS E.bs X t1).1 = LV at *
        generalize (lthS E.bs X t1).2 = t2 at *
        have lt3 : X - 257 < 29 := by omega
        clear hB hK hi h2 lb hlw hnx HN HF
        go_wp2_with fail
        refine (unhide sc).mono ?_
        rintro e w1 ⟨rfl, s1, g1⟩
        have S1 := hide s1
        have vb := unhide VB w1 s1
        have vk := unhide VK w1 s1
        have wc := hide (unhide WC w1.drew s1.drew)
        have hix := unhide ix
        clear s1
        go_wp2_with fail
        go_region_with (go_at_call 99; refine (unhide wc).mono ?_; rintro e w2 ⟨rfl, s2, g2⟩)
        all_goals have DC2 := hide (unhide DC w2 s2 (unhide HD _ w2 (((unhide FR).trans ((g1.drew).fr oo1)).trans (g2.fr oo1))))
        all_goals clear s2
        all_goals go_wp2_with fail
        all_goals refine (unhide DC2).mono ?_
        all_goals rintro e w3 ⟨rfl, s3, g3⟩
        all_goals have CC := hide (copy_any w3 LV.toNat DV.toNat (by omega) (by omega) (fun q => by have := unhide dg q; omega) s3)
        all_goals rw [show ((LV.toNat : Nat) : Int) = LV by omega, show ((DV.toNat : Nat) : Int) = DV by omega] at CC
        all_goals clear s3
        all_goals go_wp2_with fail
        all_goals refine (unhide CC).mono ?_
        all_goals rintro e w4 ⟨rfl, oo4, oc4, s4, f4⟩
        all_goals have fn := hide ((unhide FN) w4 oo4 oc4 _ (unhide hx) (unhide hu) (by rw [unhide hcx]; exact s4) (((unhide FR).trans (((g1.drew).trans (g2.trans g3)).fr oo1)).trans f4))
        all_goals clear s4 f4
        all_goals go_wp2_with fail
        all_goals go_roundw
        all_goals first
          | exact (unhide fn).1
          | (rw [unhide hms]; exact (unhide fn).2)
      · have hx := hide (show cdS L D E.bs E.m f' (stopS 5 t1) = R by rw [← unhide hnx]; unfold cdX; rw [if_neg h1, if_neg h2, if_neg h3])
        have hu := hide (fun (q : (stopS 5 t1).e = 0) => (show t1.e = 0 ∧ t1.p ≤ (stopS 5 t1).p from absurd q (stopS_e 5 t1 (by omega))))
        clear h2
        go_wp2_with fail
        refine (unhide sc).mono ?_
        rintro e w1 ⟨rfl, s1, g1⟩
        have pc := hide (stop_any w1 5 (by omega) (by omega) s1)
        clear s1
        go_wp2_with fail
        refine (unhide pc).mono ?_
        rintro e w2 ⟨rfl, s2, g2⟩
        have fn := hide ((unhide FN) w2 oo1 oc1 _ (unhide hx) (unhide hu) s2 ((unhide FR).trans ((g1.trans g2).fr oo1)))
        clear s2
        go_wp2_with fail
        go_roundw
        case rel => exact (unhide fn).1
        case measure => rw [unhide hms]; exact (unhide fn).2
    · have he' : (t.e == 0) = false := by simpa using he
      have hfin := hide (show R = t by rw [← unhide HN]; exact cdS_dead he f)
      clear he
      go_wp2_with fail
      go_end0
      rw [unhide hfin]
      exact ⟨rfl, oo1, oc1, unhide ST, unhide FR⟩
end
end Go.Proofs.YtnoabdafmgmenaaGreatDoor
