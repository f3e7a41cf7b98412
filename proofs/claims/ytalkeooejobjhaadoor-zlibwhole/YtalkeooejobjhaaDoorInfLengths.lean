/-
  What lengths, of package inflate, does to a stream and answers. Conditions: the state's own bounds; a code of at most 19 lengths.
-/
import Derived.Test.YtalkeooejobjhaaDoorInfCol
import Derived.Test.YtalkeooejobjhaaDoorInfPlain3
namespace Go.Proofs.YtalkeooejobjhaaDoor
open Go.RowKit
set_option linter.unusedVariables false
set_option linter.unusedSimpArgs false

def errAt (g : Nat) (w : World) : Int := match w.cell? ⟨g, 2, none⟩ with | some (.int _ z) => z | _ => 0
def posAt (g : Nat) (w : World) : Int := match w.cell? ⟨g, 1, none⟩ with | some (.int _ z) => z | _ => 0
def lenOf : Value → Nat
  | .slice _ n _ => n
  | _ => 0

section
variable {E : Env} {g : Nat} {w0 : World} {oo : Option Addr} {oc : Nat} {s : PS} {ov : Bool}

theorem St.errAt (h : St E g w0 oo oc s ov) : errAt g w0 = s.e := by unfold Proofs.YtalkeooejobjhaaDoor.errAt; rw [h.c2]
theorem St.posAt (h : St E g w0 oo oc s ov) : posAt g w0 = (s.p : Int) := by unfold Proofs.YtalkeooejobjhaaDoor.posAt; rw [h.c1]

/-- How much is left for 'lengths' to do. -/
def msL (g N : Nat) (v : Value) (w : World) : Nat := if errAt g w = 0 then N + 1 - lenOf v else 0

/-- What holds at the loop's head. -/
def RelL (E : Env) (g : Nat) (w : World) (oo : Option Addr) (oc : Nat) (ov : Bool) (C : List Int) (N : Nat) (R : List Int × PS) (v : Value) (wr : World) : Prop :=
  ∃ (a : List Int) (t : PS) (f : Nat) (ao : Option Addr) (c : Nat), v = .slice ao a.length c ∧ lenL C E.bs N f a t = R ∧ (t.e = 0 → N + 1 ≤ f + a.length) ∧ a.length ≤ N + 140 ∧ Rng a ∧ IMine w.heap.size wr ao a.length c a ∧ St E g wr oo oc t ov ∧ Gx g w.heap.size w wr

theorem relL_next {w w' : World} {C : List Int} {N f : Nat} {R : List Int × PS} {a : List Int} {X : Int} {t1 : PS} (hlt : a.length < N) (hnx : lenL C E.bs N f (lexS E.bs a X t1).1 (lexS E.bs a X t1).2 = R) (hf : N + 1 ≤ f + 1 + a.length) (hra : Rng a) (h0 : 0 ≤ X) (h1 : X < 19)
    {ao' : Option Addr} {n' c' : Nat} {l' : List Int} {t' : PS} (hx : lexS E.bs a X t1 = (l', t')) (hn' : n' = l'.length) (hm : IMine w.heap.size w' ao' n' c' l') (st : St E g w' oo oc t' ov) (gx : Gx g w.heap.size w w') :
    RelL E g w oo oc ov C N R (.slice ao' n' c') w' ∧ msL g N (.slice ao' n' c') w' < N + 1 - a.length := by
  subst hn'
  have hln := lexS_len (b := E.bs) (a := a) (x := X) (s := t1)
  have hrg := lexS_rng (b := E.bs) (s := t1) hra h0 h1
  rw [hx] at hnx hln hrg
  refine ⟨⟨l', t', f, ao', c', rfl, hnx, fun q => ?_, ?_, hrg, hm, st, gx⟩, ?_⟩
  · have := hln.2 q
    simp only at this
    omega
  · have := hln.1
    simp only at this
    omega
  · unfold msL
    rw [st.errAt]
    split
    · rename_i q
      have := hln.2 q
      simp only [lenOf] at this ⊢
      omega
    · omega

set_option maxHeartbeats 2000000 in
set_option maxRecDepth 20000 in
theorem lengths_any (w : World) (co : Option Addr) (cn cc : Nat) (C : List Int) (hC : ∀ w', Gx g w.heap.size w w' → Is w' co cn cc C) (hC19 : C.length ≤ 19) (N : Nat) (hN : N ≤ 800) (h : St E g w oo oc s ov) :
    Calls Tryd.prog 52 #[.pointer (some ⟨g, 0, none⟩), .slice co cn cc, .int .i64 (N : Int)] w fun e w' => OutL E g w.heap.size w oo oc (lenS C E.bs N s) ov e w' := by
  have hgB := h.lt
  have hoB := fun k (hk : ob oo k) => (h.out.ob hk).2
  have H := hide h
  have HC := hide hC
  have hr := hide (show lenS C E.bs N s = lenC N (lenL C E.bs N (N + 1) [] s) from rfl)
  rw [unhide hr]
  clear h hC hr
  generalize hR : lenL C E.bs N (N + 1) [] s = R
  have HR := hide hR
  clear hR
  go_enter Tryd.func52, Tryd.ntmps52
  go_wp2_with fail
  go_loopw [7] (fun v wr => RelL E g w oo oc ov C N R v wr) (fun v wr => msL g N v wr)
  case atStart => exact ⟨[], s, N + 1, .none, 0, rfl, unhide HR, (fun _ => by simp), by simp, (fun x hx => absurd hx (by simp)), IMine.nought _ _, unhide H, Gx.refl _ _ _⟩
  case round =>
    obtain ⟨a, t, f, ao, c, rfl, hl, hf, hal, hra, hm, st, gx⟩ := hrel
    have c2 := st.c2
    have HL := hide hl
    have HF := hide hf
    have HRA := hide hra
    have HM := hide hm
    have ST := hide st
    have GX := hide gx
    have hsz := gx.size
    clear hl hf hra hm st gx
    by_cases hlt : a.length < N
    · have hlt' : (a.length : Int) < (N : Int) := by omega
      by_cases he : t.e = 0
      · have he' : (t.e == 0) = true := by simpa using he
        have hms := hide (show msL g N (.slice ao a.length c) wr = N + 1 - a.length by unfold msL; rw [(unhide ST).errAt, if_pos he]; rfl)
        obtain ⟨f', hf'⟩ : ∃ f', f = f' + 1 := ⟨f - 1, by have := unhide HF he; omega⟩
        have hfa := hide (unhide HF he)
        subst hf'
        have hnx := hide (show lenL C E.bs N f' (lexS E.bs a (symS C E.bs t).1 (symS C E.bs t).2).1 (lexS E.bs a (symS C E.bs t).1 (symS C E.bs t).2).2 = R by
          rw [← unhide HL]
          simp only [lenL]
          rw [if_pos ⟨hlt, he⟩])
        have sc := hide (symbol_any wr co cn cc C (unhide HC wr (unhide GX)) (unhide ST))
        have bd := symS_bd C E.bs t
        have bd19 : 0 ≤ (symS C E.bs t).1 ∧ (symS C E.bs t).1 < 19 := by omega
        clear he bd
        generalize (symS C E.bs t).1 = X at *
        generalize (symS C E.bs t).2 = t1 at *
        have FN := hide (fun (w' : World) (ao' : Option Addr) (n' c' : Nat) (l' : List Int) (t' : PS) (hx : lexS E.bs a X t1 = (l', t')) (hn' : n' = l'.length) (hm : IMine w.heap.size w' ao' n' c' l') (st : St E g w' oo oc t' ov) (gx : Gx g w.heap.size w w') =>
          relL_next hlt (unhide hnx) (unhide hfa) (unhide HRA) bd19.1 bd19.2 hx hn' hm st gx)
        clear hnx hfa HL HF
        by_cases h16 : X = 16
        · have hx := hide (show lexS E.bs a X t1 = agnS E.bs a t1 from if_pos h16)
          have q16 : (X == 16) = true := by simpa using h16
          clear h16
          go_wp2_with fail
          refine (unhide sc).mono ?_
          rintro e w1 ⟨rfl, s1, g1⟩
          have ac := hide (again_any w.heap.size w1 ao a.length c a (Nat.le_trans hsz g1.size) hgB hoB ((unhide HM).gb hgB g1) (by omega) (unhide HRA) s1)
          have GX1 := hide ((unhide GX).trans (g1.gx hsz))
          clear s1 g1
          go_wp2_with fail
          refine (unhide ac).mono ?_
          rintro e w2 ⟨ao2, cc2, rfl, m2, s2, gx2⟩
          have fn := hide ((unhide FN) w2 ao2 _ cc2 _ _ (unhide hx) rfl m2 s2 ((unhide GX1).trans gx2))
          clear m2 s2 gx2
          go_wp2_with fail
          go_roundw
          case rel => exact (unhide fn).1
          case measure => rw [unhide hms]; exact (unhide fn).2
        have q16 : (X == 16) = false := by simpa using h16
        by_cases h17 : X = 17
        · have hx := hide (show lexS E.bs a X t1 = (a ++ List.replicate (3 + (fldN E.bs 3 t1).1).toNat 0, (fldN E.bs 3 t1).2) by unfold lexS; rw [if_neg h16, if_pos h17]; rfl)
          have q17 : (X == 17) = true := by simpa using h17
          clear h16 h17
          have fe := hide (fun w1 (s1 : St E g w1 oo oc t1 ov) => field_any w1 3 (by omega) 3 rfl s1)
          have fb := fldN_bd E.bs 3 t1
          generalize (fldN E.bs 3 t1).1 = Y at *
          generalize (fldN E.bs 3 t1).2 = t2 at *
          go_wp2_with fail
          refine (unhide sc).mono ?_
          rintro e w1 ⟨rfl, s1, g1⟩
          have S1 := hide s1
          clear s1
          go_wp2_with fail
          refine ((unhide fe) w1 (unhide S1)).mono ?_
          rintro e w2 ⟨rfl, s2, g2⟩
          have M2 := hide (((unhide HM).gb hgB g1).gb hgB g2)
          have GX2 := hide ((unhide GX).trans ((g1.trans g2).gx hsz))
          have z2 : w.heap.size ≤ w2.heap.size := Nat.le_trans hsz (g1.trans g2).size
          have S2 := hide s2
          clear s2 g1 g2
          go_wp2_with fail
          refine (times_any w.heap.size ao a.length c a 0 (3 + Y).toNat w2 z2 (unhide M2) (by omega) (by omega) (by omega) (by omega) _ (by omega)).mono ?_
          rintro e w3 ⟨ao3, cc3, rfl, m3, b3⟩
          have fn := hide ((unhide FN) w3 ao3 _ cc3 _ _ (unhide hx) (by simp) m3 ((unhide S2).under hgB hoB b3) ((unhide GX2).trans (below_gx b3)))
          clear m3 b3
          go_wp2_with fail
          go_roundw
          case rel => exact (unhide fn).1
          case measure => rw [unhide hms]; exact (unhide fn).2
        have q17 : (X == 17) = false := by simpa using h17
        by_cases h18 : X = 18
        · have hx := hide (show lexS E.bs a X t1 = (a ++ List.replicate (11 + (fldN E.bs 7 t1).1).toNat 0, (fldN E.bs 7 t1).2) by unfold lexS; rw [if_neg h16, if_neg h17, if_pos h18]; rfl)
          have q18 : (X == 18) = true := by simpa using h18
          clear h16 h17 h18
          have fe := hide (fun w1 (s1 : St E g w1 oo oc t1 ov) => field_any w1 7 (by omega) 7 rfl s1)
          have fb := fldN_bd E.bs 7 t1
          generalize (fldN E.bs 7 t1).1 = Y at *
          generalize (fldN E.bs 7 t1).2 = t2 at *
          go_wp2_with fail
          refine (unhide sc).mono ?_
          rintro e w1 ⟨rfl, s1, g1⟩
          have S1 := hide s1
          clear s1
          go_wp2_with fail
          refine ((unhide fe) w1 (unhide S1)).mono ?_
          rintro e w2 ⟨rfl, s2, g2⟩
          have M2 := hide (((unhide HM).gb hgB g1).gb hgB g2)
          have GX2 := hide ((unhide GX).trans ((g1.trans g2).gx hsz))
          have z2 : w.heap.size ≤ w2.heap.size := Nat.le_trans hsz (g1.trans g2).size
          have S2 := hide s2
          clear s2 g1 g2
          go_wp2_with fail
          refine (times_any w.heap.size ao a.length c a 0 (11 + Y).toNat w2 z2 (unhide M2) (by omega) (by omega) (by omega) (by omega) _ (by omega)).mono ?_
          rintro e w3 ⟨ao3, cc3, rfl, m3, b3⟩
          have fn := hide ((unhide FN) w3 ao3 _ cc3 _ _ (unhide hx) (by simp) m3 ((unhide S2).under hgB hoB b3) ((unhide GX2).trans (below_gx b3)))
          clear m3 b3
          go_wp2_with fail
          go_roundw
          case rel => exact (unhide fn).1
          case measure => rw [unhide hms]; exact (unhide fn).2
        have q18 : (X == 18) = false := by simpa using h18
        have hx := hide (show lexS E.bs a X t1 = (a ++ [X], t1) by unfold lexS; rw [if_neg h16, if_neg h17, if_neg h18])
        clear h16 h17 h18
        go_wp2_with fail
        refine (unhide sc).mono ?_
        rintro e w1 ⟨rfl, s1, g1⟩
        have S1 := hide s1
        have M1 := hide (((unhide HM).gb hgB g1).later (below_alloc w1 (.cells #[.int .i64 X] 3)))
        have GX1 := hide ((unhide GX).trans (g1.gx hsz))
        have z1 : w.heap.size ≤ (w1.alloc (.cells #[.int .i64 X] 3)).heap.size := by have := g1.size; simp; omega
        have z0 : w.heap.size ≤ w1.heap.size := Nat.le_trans hsz g1.size
        have hone := hide (Is.one w1 X (by omega) (by omega))
        clear s1 g1
        go_wp2_with (at_builtin; refine wpList_iapp rfl (.tmp 27) (.tmp 29) rfl w.heap.size _ _ _ _ rfl (unhide M1) _ 1 1 [X] rfl (unhide hone) (by omega) z1 ?_; intro ao1 c1 w2 m2 b2)
        have bb : Below w.heap.size w1 w2 := ((below_alloc w1 _).mono z0).trans b2
        have fn := hide ((unhide FN) w2 ao1 _ c1 _ _ (unhide hx) (by simp) m2 ((unhide S1).under hgB hoB bb) ((unhide GX1).trans (below_gx bb)))
        clear m2
        go_roundw
        case rel => exact (unhide fn).1
        case measure => rw [unhide hms]; exact (unhide fn).2
      · have he' : (t.e == 0) = false := by simpa using he
        have hR := hide (show R = (a, t) by rw [← unhide HL]; exact lenL_dead he f)
        have hfin := hide (show lenC N R = (a, t) by rw [unhide hR]; unfold lenC; simp only; rw [if_pos (by omega)])
        have hgt : ¬ (N : Int) < (a.length : Int) := by omega
        clear he
        go_wp2_with fail
        go_ret
        rw [unhide hfin]
        exact ⟨ao, c, rfl, unhide HM, unhide ST, unhide GX⟩
    · have hlt' : ¬ (a.length : Int) < (N : Int) := by omega
      have hR := hide (show R = (a, t) by rw [← unhide HL]; exact lenL_end (fun q => hlt q.1) f)
      by_cases hgt : N < a.length
      · have hgt' : (N : Int) < (a.length : Int) := by omega
        have hfin := hide (show lenC N R = (a, stopS 5 t) by rw [unhide hR]; unfold lenC; simp only; rw [if_neg (by omega)])
        have pc := hide (stop_any wr 5 (by omega) (by omega) (unhide ST))
        go_wp2_with fail
        refine (unhide pc).mono ?_
        rintro e w1 ⟨rfl, s1, g1⟩
        go_wp2_with fail
        go_ret
        rw [unhide hfin]
        exact ⟨ao, c, rfl, (unhide HM).gb hgB g1, s1, (unhide GX).trans (g1.gx hsz)⟩
      · have hgt' : ¬ (N : Int) < (a.length : Int) := by omega
        have hfin := hide (show lenC N R = (a, t) by rw [unhide hR]; unfold lenC; simp only; rw [if_pos (by omega)])
        go_wp2_with fail
        go_ret
        rw [unhide hfin]
        exact ⟨ao, c, rfl, unhide HM, unhide ST, unhide GX⟩
end
end Go.Proofs.YtalkeooejobjhaaDoor
