/-
  What lengths of the document's reader does and answers. Conditions: the state's own bounds; nothing went wrong ahead of it; a code of at most 19 lengths.
-/
import Derived.Test.YtnoabdafmgmenaaGreatDoorRiPcs
import Derived.Test.YtnoabdafmgmenaaGreatDoorMInf3
namespace Go.Proofs.YtnoabdafmgmenaaGreatDoor
open Go.RowKit
set_option linter.unusedVariables false
set_option linter.unusedSimpArgs false

theorem lenC_over {C b a : List Int} {N f T : Nat} {x : Int} {t : PS} {R : List Int × PS} (h : lenL C b N f (a ++ List.replicate T x) t = R) (he : t.e = 0) (hov : N < a.length + T) : (lenC N R).2 = { t with e := 5 } := by
  rw [← h, lenL_end (by simp; omega)]
  unfold lenC
  simp only
  rw [if_neg (by simp; omega), stopS_live he]
theorem lenC_dead {C b l : List Int} {N f : Nat} {t : PS} {R : List Int × PS} (h : lenL C b N f l t = R) (he : t.e ≠ 0) : (lenC N R).2 = t := by
  rw [← h, lenL_dead he]
  unfold lenC
  simp only
  split
  · rfl
  · exact stopS_dead he
section
variable {E : Env} {g : Nat} {oo : Option Addr} {oc : Nat} {s : PS}
def msN (g N : Nat) (v : Value) (w : World) : Nat := if rErr g w = 0 then N + 1 - lenOf v else 0
/-- What holds at the loop's head. -/
def RelN (E : Env) (g : Nat) (w2 : World) (oo : Option Addr) (oc : Nat) (C : List Int) (N : Nat) (R : List Int × PS) (v : Value) (wr : World) : Prop :=
  ∃ (a : List Int) (t : PS) (f : Nat) (ao : Option Addr) (c : Nat), v = .slice ao a.length c ∧ a.length ≤ N ∧ Rng a ∧ IMine w2.heap.size wr ao a.length c a ∧ Rt E g wr oo oc t ∧ Gx g w2.heap.size w2 wr ∧ ((t.e = 0 ∧ lenL C E.bs N f a t = R ∧ N + 1 ≤ f + a.length) ∨ (t.e ≠ 0 ∧ t = (lenC N R).2))
theorem relN_live {w2 w' : World} {C : List Int} {N f T : Nat} {R : List Int × PS} {a : List Int} {x : Int} {t2 : PS} (hR : lenL C E.bs N f (a ++ List.replicate T x) t2 = R) (h1 : 1 ≤ T) (hle : a.length + T ≤ N) (he : t2.e = 0) (hf : N + 1 ≤ f + 1 + a.length) (hra : Rng a) (h0 : 0 ≤ x) (h15 : x ≤ 15)
    {ao' : Option Addr} {c' : Nat} (hm : IMine w2.heap.size w' ao' (a.length + T) c' (a ++ List.replicate T x)) (st : Rt E g w' oo oc t2) (gx : Gx g w2.heap.size w2 w') :
    RelN E g w2 oo oc C N R (.slice ao' (a.length + T) c') w' ∧ msN g N (.slice ao' (a.length + T) c') w' < N + 1 - a.length := by
  have e1 : (a ++ List.replicate T x).length = a.length + T := by simp
  refine ⟨⟨a ++ List.replicate T x, t2, f, ao', c', by rw [e1], by omega, hra.rep T h0 h15, by rw [e1]; exact hm, st, gx, .inl ⟨he, hR, by rw [e1]; omega⟩⟩, ?_⟩
  unfold msN
  rw [st.err, if_pos he]
  simp only [lenOf]
  omega
theorem relN_dead {w2 w' : World} {C : List Int} {N : Nat} {R : List Int × PS} {a : List Int} {t' : PS} (he : t'.e ≠ 0) (ht : t' = (lenC N R).2) (hlt : a.length < N) (hra : Rng a)
    {ao : Option Addr} {c : Nat} (hm : IMine w2.heap.size w' ao a.length c a) (st : Rt E g w' oo oc t') (gx : Gx g w2.heap.size w2 w') :
    RelN E g w2 oo oc C N R (.slice ao a.length c) w' ∧ msN g N (.slice ao a.length c) w' < N + 1 - a.length := by
  refine ⟨⟨a, t', 0, ao, c, rfl, by omega, hra, hm, st, gx, .inr ⟨he, ht⟩⟩, ?_⟩
  unfold msN
  rw [st.err, if_neg he]
  omega
/-- Behind lengths. -/
def OutN (E : Env) (g : Nat) (w : World) (oo : Option Addr) (oc : Nat) (N : Nat) (r : List Int × PS) (e : Ending) (w' : World) : Prop :=
  ∃ ao n c, e = .returned (.slice ao n c) ∧ Rt E g w' oo oc r.2 ∧ Gb g w w' ∧ (r.2.e = 0 → n = N ∧ IMine w.heap.size w' ao N c r.1 ∧ r.1.length = N ∧ Rng r.1)

set_option maxHeartbeats 4000000 in
set_option maxRecDepth 20000 in
theorem lengths_rd (w : World) (co : Option Addr) (cn cc : Nat) (C : List Int) (ko : Option Addr) (kc : Nat) (hC : ∀ w', Gb g w w' → Is w' co cn cc C) (hK : ∀ w', Gb g w w' → Is w' ko cn kc (cds C)) (hc0 : cer C = 0) (hC19 : C.length ≤ 19) (N : Nat) (hN : N ≤ 800) (NI : Int) (hNI : NI = (N : Int)) (he0 : s.e = 0) (h : Rt E g w oo oc s) :
    Calls Tryz.prog 84 #[.pointer (some ⟨g, 0, none⟩), .agg #[.slice co cn cc, .slice ko cn kc], .int .i64 NI] w fun e w' => OutN E g w oo oc N (lenS C E.bs N s) e w' := by
  subst hNI
  have bl := below_alloc w (.cells #[.slice co cn cc, .slice ko cn kc] 101)
  have q1 := heap_alloc_new w (.cells #[.slice co cn cc, .slice ko cn kc] 101)
  have hz2 : (w.alloc (.cells #[.slice co cn cc, .slice ko cn kc] 101)).heap.size = w.heap.size + 1 := by simp
  have hgB0 := h.lt
  have hoB0 := fun k (hk : ob oo k) => (h.out.ob hk).2
  have H := hide (h.later bl)
  have HC := hide hC
  have HK := hide hK
  have Q1 := hide q1
  have BL := hide bl
  have hr := hide (show lenS C E.bs N s = lenC N (lenL C E.bs N (N + 1) [] s) from rfl)
  rw [unhide hr]
  clear h hC hK hr q1 bl
  generalize hR : lenL C E.bs N (N + 1) [] s = R
  have HR := hide hR
  clear hR
  go_enter Tryz.func84, Tryz.ntmps84
  go_wp2_with fail
  generalize w.alloc (.cells #[.slice co cn cc, .slice ko cn kc] 101) = w2 at *
  have hgB : g < w2.heap.size := by omega
  have hoB : ∀ k, ob oo k → k < w2.heap.size := fun k q => by have := hoB0 k q; omega
  have HZ2 := hide hz2
  go_loopw [7] (fun v wr => RelN E g w2 oo oc C N R v wr) (fun v wr => msN g N v wr)
  case atStart => exact ⟨[], s, N + 1, .none, 0, rfl, by simp, (fun x hx => absurd hx (by simp)), IMine.nought _ _, unhide H, Gx.refl _ _ _, .inl ⟨he0, unhide HR, by simp⟩⟩
  case round =>
    clear H HR
    obtain ⟨a, t, f, ao, c, rfl, hal, hra, hm, st, gx, hor⟩ := hrel
    have c2 := st.c2
    have HOR := hide hor
    have HRA := hide hra
    have HM := hide hm
    have ST := hide st
    have GX := hide gx
    have hsz := gx.size
    have k1 := hide ((gx.block w.heap.size (by omega) (by omega)).trans (unhide Q1))
    have GW := hide (show Gb g w wr from ⟨gx.os.trans (unhide BL).os, gx.tape.trans (unhide BL).tape, gx.output.trans (unhide BL).output, by omega, fun k hk hn => (gx.block k (by omega) hn).trans ((unhide BL).block k hk)⟩)
    clear hor hra hm st gx
    by_cases hlt : a.length < N
    · have hlt' : (a.length : Int) < (N : Int) := by omega
      by_cases he : t.e = 0
      · have he' : (t.e == 0) = true := by simpa using he
        have hms := hide (show msN g N (.slice ao a.length c) wr = N + 1 - a.length by unfold msN; rw [(unhide ST).err, if_pos he]; rfl)
        obtain ⟨hl, hf⟩ : lenL C E.bs N f a t = R ∧ N + 1 ≤ f + a.length := by
          rcases unhide HOR with ⟨_, q⟩ | ⟨q, _⟩
          · exact q
          · exact absurd he q
        obtain ⟨f', hf'⟩ : ∃ f', f = f' + 1 := ⟨f - 1, by omega⟩
        subst hf'
        have hnx := hide (show lenL C E.bs N f' (lexS E.bs a (symS C E.bs t).1 (symS C E.bs t).2).1 (lexS E.bs a (symS C E.bs t).1 (symS C E.bs t).2).2 = R by
          rw [← hl]
          simp only [lenL]
          rw [if_pos ⟨hlt, he⟩])
        have sc := hide (symbol_rd wr co cn cc C ko kc (unhide HC wr (unhide GW)) (unhide HK wr (unhide GW)) (fun _ => hc0) (unhide ST))
        have bd := symS_bd C E.bs t
        have bd19 : 0 ≤ (symS C E.bs t).1 ∧ (symS C E.bs t).1 < 19 := by omega
        have hse := hide (show (symS C E.bs t).2.e ≠ 0 → (symS C E.bs t).1 = 0 from symS_err)
        clear he bd HOR hl
        generalize (symS C E.bs t).1 = X at *
        generalize (symS C E.bs t).2 = t1 at *
        have FL := hide (fun (w' : World) (ao' : Option Addr) (c' T : Nat) (x : Int) (t2 : PS) (hR : lenL C E.bs N f' (a ++ List.replicate T x) t2 = R) (h1 : 1 ≤ T) (hle : a.length + T ≤ N) (he2 : t2.e = 0) (h0 : 0 ≤ x) (h15 : x ≤ 15) (hm : IMine w2.heap.size w' ao' (a.length + T) c' (a ++ List.replicate T x)) (st : Rt E g w' oo oc t2) (gx : Gx g w2.heap.size w2 w') =>
          relN_live hR h1 hle he2 hf (unhide HRA) h0 h15 hm st gx)
        have FD := hide (fun (w' : World) (t' : PS) (he2 : t'.e ≠ 0) (ht : t' = (lenC N R).2) (hm : IMine w2.heap.size w' ao a.length c a) (st : Rt E g w' oo oc t') (gx : Gx g w2.heap.size w2 w') =>
          relN_dead (C := C) he2 ht hlt (unhide HRA) hm st gx)
        clear hf
        by_cases e1 : t1.e = 0
        · have e1' : (t1.e != 0) = false := by simpa using e1
          by_cases h16 : X = 16
          · by_cases ha0 : a.length = 0
            · have q16 : (X == 16) = true := by simpa using h16
              have ha0' : ((a.length : Int) == 0) = true := by rw [beq_iff_eq]; omega
              have hfin := hide (show (lenC N R).2 = { t1 with e := 5 } by
                have h1 := unhide hnx
                unfold lexS agnS at h1
                rw [if_pos h16, if_pos ha0] at h1
                rw [lenC_dead h1 (stopS_e 5 t1 (by omega)), stopS_live e1])
              clear h16 ha0 FL FD
              go_wp2_with (first
                | (with_reducible show wpList Tryz.prog _ _ (Oper.mk _ (Op.load 101 _) _ _ _ none :: _) _ _; refine wpList_cdLoad rfl (.tmp 4) rfl w.heap.size rfl _ _ (unhide k1) ?_))
              refine (unhide sc).mono ?_
              rintro e w1 ⟨rfl, s1, g1⟩
              have d1 := s1.c2
              have f1 := s1.free 2
              have S1 := hide s1
              have M1 := hide ((unhide HM).gb hgB g1)
              have G1 := hide ((unhide GX).trans (g1.gx hsz))
              have GB1 := hide ((unhide GW).trans g1)
              have z1 : w2.heap.size ≤ w1.heap.size := Nat.le_trans hsz g1.size
              clear s1 g1
              have S4 := hide ((unhide S1).putE 5 (by omega) (by omega))
              go_wp2_with fail
              go_ret
              refine ⟨none, 0, 0, rfl, by rw [unhide hfin]; exact unhide S4, ?_, fun q => absurd q (by rw [unhide hfin]; simp)⟩
              exact (unhide GB1).set 2 _
            · 
              have q16 : (X == 16) = true := by simpa using h16
              have q17 : ¬ 17 ≤ X := by omega
              have q17' : (X == 17) = false := by rw [beq_eq_false_iff_ne]; omega
              have q18' : (X == 18) = false := by rw [beq_eq_false_iff_ne]; omega
              have ha0' : ((a.length : Int) == 0) = false := by rw [beq_eq_false_iff_ne]; omega
              obtain ⟨xv, hxv⟩ : ∃ xv, xv = a[a.length - 1]?.getD 0 := ⟨_, rfl⟩
              have hxr : 0 ≤ xv ∧ xv ≤ 15 := by rw [hxv]; exact (unhide HRA).getD _
              have hx0 := hxr.1
              have hx1 := hxr.2
              have fe := hide (fun w1 (s1 : Rt E g w1 oo oc t1) => field_rd w1 2 (by omega) 2 rfl s1)
              have fb := fldR_bd E.bs 2 t1
              have HXX := hide (show lexS E.bs a X t1 = (a ++ List.replicate (3 + (fldN E.bs 2 t1).1).toNat xv, (fldN E.bs 2 t1).2) by unfold lexS agnS; rw [if_pos h16, if_neg (by omega), hxv])
              have hVN := hide (show (fldN E.bs 2 t1).2.e = 0 → fldR E.bs 2 t1 = (fldN E.bs 2 t1).1 from fldR_ok)
              generalize fldR E.bs 2 t1 = V at *
              generalize (fldN E.bs 2 t1).1 = V0 at *
              generalize (fldN E.bs 2 t1).2 = t2 at *
              go_wp2_with (first
                | (with_reducible show wpList Tryz.prog _ _ (Oper.mk _ (Op.load 101 _) _ _ _ none :: _) _ _; refine wpList_cdLoad rfl (.tmp 4) rfl w.heap.size rfl _ _ (unhide k1) ?_))
              refine (unhide sc).mono ?_
              rintro e w1 ⟨rfl, s1, g1⟩
              have d1 := s1.c2
              have f1 := s1.free 2
              have S1 := hide s1
              have M1 := hide ((unhide HM).gb hgB g1)
              have G1 := hide ((unhide GX).trans (g1.gx hsz))
              have z1 : w2.heap.size ≤ w1.heap.size := Nat.le_trans hsz g1.size
              clear s1 g1
              obtain ⟨bb, of, hix, hcx⟩ := (unhide M1).is.idx (show a.length - 1 < a.length by omega) ((a.length : Int) - 1) (by omega)
              rw [← hxv] at hcx
              have HXV := hide hxv
              clear hxv h16
              go_wp2_with fail
              refine (unhide fe w1 (unhide S1)).mono ?_
              rintro e w3 ⟨rfl, s3, g3'⟩
              have d3 := s3.c2
              have f3 := s3.free 2
              have S3 := hide s3
              have M3 := hide ((unhide M1).gb hgB g3')
              have G3 := hide ((unhide G1).trans (g3'.gx z1))
              have z3 : w2.heap.size ≤ w3.heap.size := Nat.le_trans z1 g3'.size
              clear s3 g3' S1 M1 G1 d1 f1
              obtain ⟨T, hT⟩ : ∃ T : Nat, 3 + V = (T : Int) := ⟨(3 + V).toNat, by omega⟩
              have hT1 : 1 ≤ T ∧ T ≤ 200 := by omega
              have HR2 := hide (show t2.e = 0 → lenL C E.bs N f' (a ++ List.replicate T xv) t2 = R from fun q => by
                have h1 := unhide hnx
                rw [unhide HXX] at h1
                have h2 := unhide hVN q
                rw [← h2, hT] at h1
                simpa using h1)
              have HR3 := hide (show t2.e ≠ 0 → (lenC N R).2 = t2 from fun q => by
                have h1 := unhide hnx
                rw [unhide HXX] at h1
                exact lenC_dead h1 q)
              by_cases e2 : t2.e = 0
              · have e2' : (t2.e == 0) = true := by simpa using e2
                by_cases hov : N < a.length + T
                · have hov' : (N : Int) < (a.length : Int) + (T : Int) := by omega
                  have hT0 : (0 : Int) < (T : Int) := by omega
                  have S4 := hide ((unhide S3).putE 5 (by omega) (by omega))
                  have d4 := (unhide S4).c2
                  have fin := hide (unhide FD _ { t2 with e := 5 } (by simp) (lenC_over (unhide HR2 e2) e2 hov).symm ((unhide M3).gb hgB ((Gb.refl g w3).set 2 (.int .i64 5))) (unhide S4) ((unhide G3).trans (((Gb.refl g w3).set 2 (.int .i64 5)).gx z3)))
                  clear e2 hov
                  go_wp2_with fail
                  go_loopw [7, 11] (fun v iv ws => v = .slice ao a.length c ∧ iv = .int .i64 0 ∧ ws = w3.setCell ⟨g, 2, none⟩ (.int .i64 5)) (fun _ _ _ => 0)
                  case atStart => exact ⟨rfl, rfl, rfl⟩
                  case round =>
                    obtain ⟨rfl, rfl, rfl⟩ := hrel
                    go_wp2_with fail
                    go_roundw
                    case rel => exact (unhide fin).1
                    case measure => rw [unhide hms]; exact (unhide fin).2
                · have hov' : ¬ (N : Int) < (a.length : Int) + (T : Int) := by omega
                  have hle : a.length + T ≤ N := by omega
                  have HE2 := hide e2
                  clear e2 hov
                  go_wp2_with fail
                  go_loopw [7, 11] (fun v iv ws => ∃ (k : Nat) (ao3 : Option Addr) (c3 : Nat), k ≤ T ∧ iv = .int .i64 (k : Int) ∧ v = .slice ao3 (a.length + k) c3 ∧ IMine w2.heap.size ws ao3 (a.length + k) c3 (a ++ List.replicate k xv) ∧ Rt E g ws oo oc t2 ∧ Gx g w2.heap.size w2 ws) (fun _ iv _ => T - (intOf iv).toNat)
                  case atStart => exact ⟨0, ao, c, by omega, rfl, rfl, by simpa using unhide M3, unhide S3, unhide G3⟩
                  case round =>
                    clear S3 M3 G3 d3 z3
                    obtain ⟨k, ao3, c3, hk, rfl, rfl, m3, s3, g3⟩ := hrel
                    have x2 := s3.c2
                    have z4 := g3.size
                    have S5 := hide s3
                    have G5 := hide g3
                    by_cases hkT : k < T
                    · have hkT' : (k : Int) < (T : Int) := by omega
                      have M4 := hide (m3.later (below_alloc wr (.cells #[.int .i64 xv] 3)))
                      have one := hide (Is.one wr xv (by omega) (by omega))
                      have hz5 : w2.heap.size ≤ (wr.alloc (.cells #[.int .i64 xv] 3)).heap.size := by simp; omega
                      clear m3 s3 g3
                      go_wp2_with (at_builtin; refine wpList_iapp rfl (.tmp 89) (.tmp 91) rfl w2.heap.size _ _ _ _ rfl (unhide M4) _ 1 1 [xv] rfl (unhide one) (by omega) hz5 ?_; intro ao5 c5 w5 m5 b5)
                      have bb : Below w2.heap.size wr w5 := ((below_alloc wr _).mono z4).trans b5
                      have M5 := hide m5
                      clear m5 b5
                      go_roundw
                      case rel => exact ⟨k + 1, ao5, c5, by omega, by go_num, rfl, by rw [List.replicate_succ', ← List.append_assoc]; exact unhide M5, (unhide S5).under hgB hoB bb, (unhide G5).trans (below_gx bb)⟩
                      case measure => simp [intOf]; omega
                    · have hkT' : ¬ (k : Int) < (T : Int) := by omega
                      have hkn : k = T := by omega
                      subst hkn
                      have fin := hide (unhide FL wr ao3 c3 k xv t2 (unhide HR2 (unhide HE2)) (by omega) hle (unhide HE2) hx0 hx1 m3 s3 g3)
                      clear m3 s3 g3
                      go_wp2_with fail
                      go_roundw
                      case rel => exact (unhide fin).1
                      case measure => rw [unhide hms]; exact (unhide fin).2
              · have e2' : (t2.e == 0) = false := by simpa using e2
                have hT0 : (0 : Int) < (T : Int) := by omega
                have fin := hide (unhide FD w3 t2 e2 (unhide HR3 e2).symm (unhide M3) (unhide S3) (unhide G3))
                clear e2
                go_wp2_with fail
                go_loopw [7, 11] (fun v iv ws => v = .slice ao a.length c ∧ iv = .int .i64 0 ∧ ws = w3) (fun _ _ _ => 0)
                case atStart => exact ⟨rfl, rfl, rfl⟩
                case round =>
                  obtain ⟨rfl, rfl, rfl⟩ := hrel
                  go_wp2_with fail
                  go_roundw
                  case rel => exact (unhide fin).1
                  case measure => rw [unhide hms]; exact (unhide fin).2
          by_cases h17 : X = 17
          · 
            have q16 : (X == 16) = false := by rw [beq_eq_false_iff_ne]; omega
            have q17 : 17 ≤ X := by omega
            have q17' : (X == 17) = true := by simpa using h17
            have q18' : (X == 18) = false := by rw [beq_eq_false_iff_ne]; omega
            obtain ⟨xv, hxv⟩ : ∃ xv : Int, xv = 0 := ⟨_, rfl⟩
            have hx0 : 0 ≤ xv := by omega
            have hx1 : xv ≤ 15 := by omega
            have fe := hide (fun w1 (s1 : Rt E g w1 oo oc t1) => field_rd w1 3 (by omega) 3 rfl s1)
            have fb := fldR_bd E.bs 3 t1
            have HXX := hide (show lexS E.bs a X t1 = (a ++ List.replicate (3 + (fldN E.bs 3 t1).1).toNat xv, (fldN E.bs 3 t1).2) by unfold lexS nneS; rw [if_neg (by omega), if_pos h17, hxv]; rfl)
            have hVN := hide (show (fldN E.bs 3 t1).2.e = 0 → fldR E.bs 3 t1 = (fldN E.bs 3 t1).1 from fldR_ok)
            generalize fldR E.bs 3 t1 = V at *
            generalize (fldN E.bs 3 t1).1 = V0 at *
            generalize (fldN E.bs 3 t1).2 = t2 at *
            go_wp2_with (first
              | (with_reducible show wpList Tryz.prog _ _ (Oper.mk _ (Op.load 101 _) _ _ _ none :: _) _ _; refine wpList_cdLoad rfl (.tmp 4) rfl w.heap.size rfl _ _ (unhide k1) ?_))
            refine (unhide sc).mono ?_
            rintro e w1 ⟨rfl, s1, g1⟩
            have d1 := s1.c2
            have f1 := s1.free 2
            have S1 := hide s1
            have M1 := hide ((unhide HM).gb hgB g1)
            have G1 := hide ((unhide GX).trans (g1.gx hsz))
            have z1 : w2.heap.size ≤ w1.heap.size := Nat.le_trans hsz g1.size
            clear s1 g1
            subst hxv
            clear h16 h17
            go_wp2_with fail
            refine (unhide fe w1 (unhide S1)).mono ?_
            rintro e w3 ⟨rfl, s3, g3'⟩
            have d3 := s3.c2
            have f3 := s3.free 2
            have S3 := hide s3
            have M3 := hide ((unhide M1).gb hgB g3')
            have G3 := hide ((unhide G1).trans (g3'.gx z1))
            have z3 : w2.heap.size ≤ w3.heap.size := Nat.le_trans z1 g3'.size
            clear s3 g3' S1 M1 G1 d1 f1
            obtain ⟨T, hT⟩ : ∃ T : Nat, 3 + V = (T : Int) := ⟨(3 + V).toNat, by omega⟩
            have hT1 : 1 ≤ T ∧ T ≤ 200 := by omega
            have HR2 := hide (show t2.e = 0 → lenL C E.bs N f' (a ++ List.replicate T 0) t2 = R from fun q => by
              have h1 := unhide hnx
              rw [unhide HXX] at h1
              have h2 := unhide hVN q
              rw [← h2, hT] at h1
              simpa using h1)
            have HR3 := hide (show t2.e ≠ 0 → (lenC N R).2 = t2 from fun q => by
              have h1 := unhide hnx
              rw [unhide HXX] at h1
              exact lenC_dead h1 q)
            by_cases e2 : t2.e = 0
            · have e2' : (t2.e == 0) = true := by simpa using e2
              by_cases hov : N < a.length + T
              · have hov' : (N : Int) < (a.length : Int) + (T : Int) := by omega
                have hT0 : (0 : Int) < (T : Int) := by omega
                have S4 := hide ((unhide S3).putE 5 (by omega) (by omega))
                have d4 := (unhide S4).c2
                have fin := hide (unhide FD _ { t2 with e := 5 } (by simp) (lenC_over (unhide HR2 e2) e2 hov).symm ((unhide M3).gb hgB ((Gb.refl g w3).set 2 (.int .i64 5))) (unhide S4) ((unhide G3).trans (((Gb.refl g w3).set 2 (.int .i64 5)).gx z3)))
                clear e2 hov
                go_wp2_with fail
                go_loopw [7, 11] (fun v iv ws => v = .slice ao a.length c ∧ iv = .int .i64 0 ∧ ws = w3.setCell ⟨g, 2, none⟩ (.int .i64 5)) (fun _ _ _ => 0)
                case atStart => exact ⟨rfl, rfl, rfl⟩
                case round =>
                  obtain ⟨rfl, rfl, rfl⟩ := hrel
                  go_wp2_with fail
                  go_roundw
                  case rel => exact (unhide fin).1
                  case measure => rw [unhide hms]; exact (unhide fin).2
              · have hov' : ¬ (N : Int) < (a.length : Int) + (T : Int) := by omega
                have hle : a.length + T ≤ N := by omega
                have HE2 := hide e2
                clear e2 hov
                go_wp2_with fail
                go_loopw [7, 11] (fun v iv ws => ∃ (k : Nat) (ao3 : Option Addr) (c3 : Nat), k ≤ T ∧ iv = .int .i64 (k : Int) ∧ v = .slice ao3 (a.length + k) c3 ∧ IMine w2.heap.size ws ao3 (a.length + k) c3 (a ++ List.replicate k 0) ∧ Rt E g ws oo oc t2 ∧ Gx g w2.heap.size w2 ws) (fun _ iv _ => T - (intOf iv).toNat)
                case atStart => exact ⟨0, ao, c, by omega, rfl, rfl, by simpa using unhide M3, unhide S3, unhide G3⟩
                case round =>
                  clear S3 M3 G3 d3 z3
                  obtain ⟨k, ao3, c3, hk, rfl, rfl, m3, s3, g3⟩ := hrel
                  have x2 := s3.c2
                  have z4 := g3.size
                  have S5 := hide s3
                  have G5 := hide g3
                  by_cases hkT : k < T
                  · have hkT' : (k : Int) < (T : Int) := by omega
                    have M4 := hide (m3.later (below_alloc wr (.cells #[.int .i64 0] 3)))
                    have one := hide (Is.one wr 0 (by omega) (by omega))
                    have hz5 : w2.heap.size ≤ (wr.alloc (.cells #[.int .i64 0] 3)).heap.size := by simp; omega
                    clear m3 s3 g3
                    go_wp2_with (at_builtin; refine wpList_iapp rfl (.tmp 89) (.tmp 91) rfl w2.heap.size _ _ _ _ rfl (unhide M4) _ 1 1 [0] rfl (unhide one) (by omega) hz5 ?_; intro ao5 c5 w5 m5 b5)
                    have bb : Below w2.heap.size wr w5 := ((below_alloc wr _).mono z4).trans b5
                    have M5 := hide m5
                    clear m5 b5
                    go_roundw
                    case rel => exact ⟨k + 1, ao5, c5, by omega, by go_num, rfl, by rw [List.replicate_succ', ← List.append_assoc]; exact unhide M5, (unhide S5).under hgB hoB bb, (unhide G5).trans (below_gx bb)⟩
                    case measure => simp [intOf]; omega
                  · have hkT' : ¬ (k : Int) < (T : Int) := by omega
                    have hkn : k = T := by omega
                    subst hkn
                    have fin := hide (unhide FL wr ao3 c3 k 0 t2 (unhide HR2 (unhide HE2)) (by omega) hle (unhide HE2) hx0 hx1 m3 s3 g3)
                    clear m3 s3 g3
                    go_wp2_with fail
                    go_roundw
                    case rel => exact (unhide fin).1
                    case measure => rw [unhide hms]; exact (unhide fin).2
            · have e2' : (t2.e == 0) = false := by simpa using e2
              have hT0 : (0 : Int) < (T : Int) := by omega
              have fin := hide (unhide FD w3 t2 e2 (unhide HR3 e2).symm (unhide M3) (unhide S3) (unhide G3))
              clear e2
              go_wp2_with fail
              go_loopw [7, 11] (fun v iv ws => v = .slice ao a.length c ∧ iv = .int .i64 0 ∧ ws = w3) (fun _ _ _ => 0)
              case atStart => exact ⟨rfl, rfl, rfl⟩
              case round =>
                obtain ⟨rfl, rfl, rfl⟩ := hrel
                go_wp2_with fail
                go_roundw
                case rel => exact (unhide fin).1
                case measure => rw [unhide hms]; exact (unhide fin).2
          by_cases h18 : X = 18
          · 
            have q16 : (X == 16) = false := by rw [beq_eq_false_iff_ne]; omega
            have q17 : 17 ≤ X := by omega
            have q17' : (X == 17) = false := by rw [beq_eq_false_iff_ne]; omega
            have q18' : (X == 18) = true := by simpa using h18
            obtain ⟨xv, hxv⟩ : ∃ xv : Int, xv = 0 := ⟨_, rfl⟩
            have hx0 : 0 ≤ xv := by omega
            have hx1 : xv ≤ 15 := by omega
            have fe := hide (fun w1 (s1 : Rt E g w1 oo oc t1) => field_rd w1 7 (by omega) 7 rfl s1)
            have fb := fldR_bd E.bs 7 t1
            have HXX := hide (show lexS E.bs a X t1 = (a ++ List.replicate (11 + (fldN E.bs 7 t1).1).toNat xv, (fldN E.bs 7 t1).2) by unfold lexS nneS; rw [if_neg (by omega), if_neg (by omega), if_pos h18, hxv]; rfl)
            have hVN := hide (show (fldN E.bs 7 t1).2.e = 0 → fldR E.bs 7 t1 = (fldN E.bs 7 t1).1 from fldR_ok)
            generalize fldR E.bs 7 t1 = V at *
            generalize (fldN E.bs 7 t1).1 = V0 at *
            generalize (fldN E.bs 7 t1).2 = t2 at *
            go_wp2_with (first
              | (with_reducible show wpList Tryz.prog _ _ (Oper.mk _ (Op.load 101 _) _ _ _ none :: _) _ _; refine wpList_cdLoad rfl (.tmp 4) rfl w.heap.size rfl _ _ (unhide k1) ?_))
            refine (unhide sc).mono ?_
            rintro e w1 ⟨rfl, s1, g1⟩
            have d1 := s1.c2
            have f1 := s1.free 2
            have S1 := hide s1
            have M1 := hide ((unhide HM).gb hgB g1)
            have G1 := hide ((unhide GX).trans (g1.gx hsz))
            have z1 : w2.heap.size ≤ w1.heap.size := Nat.le_trans hsz g1.size
            clear s1 g1
            subst hxv
            clear h16 h17 h18
            go_wp2_with fail
            refine (unhide fe w1 (unhide S1)).mono ?_
            rintro e w3 ⟨rfl, s3, g3'⟩
            have d3 := s3.c2
            have f3 := s3.free 2
            have S3 := hide s3
            have M3 := hide ((unhide M1).gb hgB g3')
            have G3 := hide ((unhide G1).trans (g3'.gx z1))
            have z3 : w2.heap.size ≤ w3.heap.size := Nat.le_trans z1 g3'.size
            clear s3 g3' S1 M1 G1 d1 f1
            obtain ⟨T, hT⟩ : ∃ T : Nat, 11 + V = (T : Int) := ⟨(11 + V).toNat, by omega⟩
            have hT1 : 1 ≤ T ∧ T ≤ 200 := by omega
            have HR2 := hide (show t2.e = 0 → lenL C E.bs N f' (a ++ List.replicate T 0) t2 = R from fun q => by
              have h1 := unhide hnx
              rw [unhide HXX] at h1
              have h2 := unhide hVN q
              rw [← h2, hT] at h1
              simpa using h1)
            have HR3 := hide (show t2.e ≠ 0 → (lenC N R).2 = t2 from fun q => by
              have h1 := unhide hnx
              rw [unhide HXX] at h1
              exact lenC_dead h1 q)
            by_cases e2 : t2.e = 0
            · have e2' : (t2.e == 0) = true := by simpa using e2
              by_cases hov : N < a.length + T
              · have hov' : (N : Int) < (a.length : Int) + (T : Int) := by omega
                have hT0 : (0 : Int) < (T : Int) := by omega
                have S4 := hide ((unhide S3).putE 5 (by omega) (by omega))
                have d4 := (unhide S4).c2
                have fin := hide (unhide FD _ { t2 with e := 5 } (by simp) (lenC_over (unhide HR2 e2) e2 hov).symm ((unhide M3).gb hgB ((Gb.refl g w3).set 2 (.int .i64 5))) (unhide S4) ((unhide G3).trans (((Gb.refl g w3).set 2 (.int .i64 5)).gx z3)))
                clear e2 hov
                go_wp2_with fail
                go_loopw [7, 11] (fun v iv ws => v = .slice ao a.length c ∧ iv = .int .i64 0 ∧ ws = w3.setCell ⟨g, 2, none⟩ (.int .i64 5)) (fun _ _ _ => 0)
                case atStart => exact ⟨rfl, rfl, rfl⟩
                case round =>
                  obtain ⟨rfl, rfl, rfl⟩ := hrel
                  go_wp2_with fail
                  go_roundw
                  case rel => exact (unhide fin).1
                  case measure => rw [unhide hms]; exact (unhide fin).2
              · have hov' : ¬ (N : Int) < (a.length : Int) + (T : Int) := by omega
                have hle : a.length + T ≤ N := by omega
                have HE2 := hide e2
                clear e2 hov
                go_wp2_with fail
                go_loopw [7, 11] (fun v iv ws => ∃ (k : Nat) (ao3 : Option Addr) (c3 : Nat), k ≤ T ∧ iv = .int .i64 (k : Int) ∧ v = .slice ao3 (a.length + k) c3 ∧ IMine w2.heap.size ws ao3 (a.length + k) c3 (a ++ List.replicate k 0) ∧ Rt E g ws oo oc t2 ∧ Gx g w2.heap.size w2 ws) (fun _ iv _ => T - (intOf iv).toNat)
                case atStart => exact ⟨0, ao, c, by omega, rfl, rfl, by simpa using unhide M3, unhide S3, unhide G3⟩
                case round =>
                  clear S3 M3 G3 d3 z3
                  obtain ⟨k, ao3, c3, hk, rfl, rfl, m3, s3, g3⟩ := hrel
                  have x2 := s3.c2
                  have z4 := g3.size
                  have S5 := hide s3
                  have G5 := hide g3
                  by_cases hkT : k < T
                  · have hkT' : (k : Int) < (T : Int) := by omega
                    have M4 := hide (m3.later (below_alloc wr (.cells #[.int .i64 0] 3)))
                    have one := hide (Is.one wr 0 (by omega) (by omega))
                    have hz5 : w2.heap.size ≤ (wr.alloc (.cells #[.int .i64 0] 3)).heap.size := by simp; omega
                    clear m3 s3 g3
                    go_wp2_with (at_builtin; refine wpList_iapp rfl (.tmp 89) (.tmp 91) rfl w2.heap.size _ _ _ _ rfl (unhide M4) _ 1 1 [0] rfl (unhide one) (by omega) hz5 ?_; intro ao5 c5 w5 m5 b5)
                    have bb : Below w2.heap.size wr w5 := ((below_alloc wr _).mono z4).trans b5
                    have M5 := hide m5
                    clear m5 b5
                    go_roundw
                    case rel => exact ⟨k + 1, ao5, c5, by omega, by go_num, rfl, by rw [List.replicate_succ', ← List.append_assoc]; exact unhide M5, (unhide S5).under hgB hoB bb, (unhide G5).trans (below_gx bb)⟩
                    case measure => simp [intOf]; omega
                  · have hkT' : ¬ (k : Int) < (T : Int) := by omega
                    have hkn : k = T := by omega
                    subst hkn
                    have fin := hide (unhide FL wr ao3 c3 k 0 t2 (unhide HR2 (unhide HE2)) (by omega) hle (unhide HE2) hx0 hx1 m3 s3 g3)
                    clear m3 s3 g3
                    go_wp2_with fail
                    go_roundw
                    case rel => exact (unhide fin).1
                    case measure => rw [unhide hms]; exact (unhide fin).2
            · have e2' : (t2.e == 0) = false := by simpa using e2
              have hT0 : (0 : Int) < (T : Int) := by omega
              have fin := hide (unhide FD w3 t2 e2 (unhide HR3 e2).symm (unhide M3) (unhide S3) (unhide G3))
              clear e2
              go_wp2_with fail
              go_loopw [7, 11] (fun v iv ws => v = .slice ao a.length c ∧ iv = .int .i64 0 ∧ ws = w3) (fun _ _ _ => 0)
              case atStart => exact ⟨rfl, rfl, rfl⟩
              case round =>
                obtain ⟨rfl, rfl, rfl⟩ := hrel
                go_wp2_with fail
                go_roundw
                case rel => exact (unhide fin).1
                case measure => rw [unhide hms]; exact (unhide fin).2
          have q16 : (X == 16) = false := by rw [beq_eq_false_iff_ne]; omega
          have q17 : ¬ 17 ≤ X := by omega
          have q17' : (X == 17) = false := by rw [beq_eq_false_iff_ne]; omega
          have q18' : (X == 18) = false := by rw [beq_eq_false_iff_ne]; omega
          have HR2 := hide (show lenL C E.bs N f' (a ++ List.replicate 1 X) t1 = R by
            have h1 := unhide hnx
            unfold lexS at h1
            rw [if_neg h16, if_neg h17, if_neg h18] at h1
            exact h1)
          have hx0 := bd19.1
          have hx1 : X ≤ 15 := by omega
          clear h16 h17 h18
          go_wp2_with (first
            | (with_reducible show wpList Tryz.prog _ _ (Oper.mk _ (Op.load 101 _) _ _ _ none :: _) _ _; refine wpList_cdLoad rfl (.tmp 4) rfl w.heap.size rfl _ _ (unhide k1) ?_))
          refine (unhide sc).mono ?_
          rintro e w1 ⟨rfl, s1, g1⟩
          have d1 := s1.c2
          have f1 := s1.free 2
          have S1 := hide s1
          have M1 := hide ((unhide HM).gb hgB g1)
          have G1 := hide ((unhide GX).trans (g1.gx hsz))
          have z1 : w2.heap.size ≤ w1.heap.size := Nat.le_trans hsz g1.size
          clear s1 g1
          have e2' : (t1.e == 0) = true := by simpa using e1
          have hov' : ¬ (N : Int) < (a.length : Int) + 1 := by omega
          have hle : a.length + 1 ≤ N := by omega
          have HE2 := hide e1
          clear e1
          go_wp2_with fail
          go_loopw [7, 11] (fun v iv ws => ∃ (k : Nat) (ao3 : Option Addr) (c3 : Nat), k ≤ 1 ∧ iv = .int .i64 (k : Int) ∧ v = .slice ao3 (a.length + k) c3 ∧ IMine w2.heap.size ws ao3 (a.length + k) c3 (a ++ List.replicate k X) ∧ Rt E g ws oo oc t1 ∧ Gx g w2.heap.size w2 ws) (fun _ iv _ => 1 - (intOf iv).toNat)
          case atStart => exact ⟨0, ao, c, by omega, rfl, rfl, by simpa using unhide M1, unhide S1, unhide G1⟩
          case round =>
            clear S1 M1 G1 d1 z1
            obtain ⟨k, ao3, c3, hk, rfl, rfl, m3, s3, g3⟩ := hrel
            have x2 := s3.c2
            have z4 := g3.size
            have S5 := hide s3
            have G5 := hide g3
            by_cases hkT : k < 1
            · have hkT' : (k : Int) < 1 := by omega
              have M4 := hide (m3.later (below_alloc wr (.cells #[.int .i64 X] 3)))
              have one := hide (Is.one wr X (by omega) (by omega))
              have hz5 : w2.heap.size ≤ (wr.alloc (.cells #[.int .i64 X] 3)).heap.size := by simp; omega
              clear m3 s3 g3
              go_wp2_with (at_builtin; refine wpList_iapp rfl (.tmp 89) (.tmp 91) rfl w2.heap.size _ _ _ _ rfl (unhide M4) _ 1 1 [X] rfl (unhide one) (by omega) hz5 ?_; intro ao5 c5 w5 m5 b5)
              have bb : Below w2.heap.size wr w5 := ((below_alloc wr _).mono z4).trans b5
              have M5 := hide m5
              clear m5 b5
              go_roundw
              case rel => exact ⟨k + 1, ao5, c5, by omega, by go_num, rfl, by rw [List.replicate_succ', ← List.append_assoc]; exact unhide M5, (unhide S5).under hgB hoB bb, (unhide G5).trans (below_gx bb)⟩
              case measure => simp [intOf]; omega
            · have hkT' : ¬ (k : Int) < 1 := by omega
              have hkn : k = 1 := by omega
              subst hkn
              have fin := hide (unhide FL wr ao3 c3 1 X t1 (unhide HR2) (by omega) hle (unhide HE2) hx0 hx1 m3 s3 g3)
              clear m3 s3 g3
              go_wp2_with fail
              go_roundw
              case rel => exact (unhide fin).1
              case measure => rw [unhide hms]; exact (unhide fin).2
        · have e1' : (t1.e != 0) = true := by simpa using e1
          have hfin := hide (show (lenC N R).2 = t1 from lenC_dead (unhide hnx) (by
            rw [unhide hse e1]
            unfold lexS
            simpa using e1) |>.trans (by rw [unhide hse e1]; unfold lexS; simp))
          clear FL FD
          go_wp2_with (first
            | (with_reducible show wpList Tryz.prog _ _ (Oper.mk _ (Op.load 101 _) _ _ _ none :: _) _ _; refine wpList_cdLoad rfl (.tmp 4) rfl w.heap.size rfl _ _ (unhide k1) ?_))
          refine (unhide sc).mono ?_
          rintro e w1 ⟨rfl, s1, g1⟩
          have d1 := s1.c2
          have f1 := s1.free 2
          have S1 := hide s1
          have M1 := hide ((unhide HM).gb hgB g1)
          have G1 := hide ((unhide GX).trans (g1.gx hsz))
          have GB1 := hide ((unhide GW).trans g1)
          have z1 : w2.heap.size ≤ w1.heap.size := Nat.le_trans hsz g1.size
          clear s1 g1
          go_wp2_with fail
          go_ret
          refine ⟨none, 0, 0, rfl, by rw [unhide hfin]; exact unhide S1, unhide GB1, fun q => absurd q (by rw [unhide hfin]; exact e1)⟩
      · have he' : (t.e == 0) = false := by simpa using he
        have hfin := hide (show (lenC N R).2 = t by
          rcases unhide HOR with ⟨q, _⟩ | ⟨_, q⟩
          · exact absurd q he
          · exact q.symm)
        go_wp2_with fail
        go_ret
        exact ⟨_, _, _, rfl, by rw [unhide hfin]; exact unhide ST, unhide GW, fun q => absurd q (by rw [unhide hfin]; exact he)⟩
    · have hlt' : ¬ (a.length : Int) < (N : Int) := by omega
      have hfin := hide (show (lenC N R).2 = t ∧ (t.e = 0 → (lenC N R).1 = a) by
        rcases unhide HOR with ⟨q, h1, _⟩ | ⟨q, h1⟩
        · rw [← h1, lenL_end (by omega)]
          unfold lenC
          simp only
          rw [if_pos hal]
          exact ⟨rfl, fun _ => by first | rfl | trivial⟩
        · exact ⟨h1.symm, fun z => absurd z q⟩)
      have han : a.length = N := by omega
      go_wp2_with fail
      go_ret
      refine ⟨_, _, _, rfl, by rw [(unhide hfin).1]; exact unhide ST, unhide GW, fun q => ?_⟩
      rw [(unhide hfin).1] at q
      rw [(unhide hfin).2 q]
      subst han
      exact ⟨rfl, (unhide HM).mono (by omega), rfl, unhide HRA⟩
end
end Go.Proofs.YtnoabdafmgmenaaGreatDoor
