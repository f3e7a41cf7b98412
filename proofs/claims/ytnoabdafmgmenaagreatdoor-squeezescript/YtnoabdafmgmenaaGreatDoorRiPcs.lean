/-
  What pieces of the document's reader does: the symbols of a block. Conditions: the state's own bounds; the two codes stay while the stream goes on.
-/
import Derived.Test.YtnoabdafmgmenaaGreatDoorMRi1
import Derived.Test.YtnoabdafmgmenaaGreatDoorMRi2
import Derived.Test.YtnoabdafmgmenaaGreatDoorMInfP
namespace Go.Proofs.YtnoabdafmgmenaaGreatDoor
open Go.RowKit
set_option linter.unusedVariables false
set_option linter.unusedSimpArgs false

def rErr (g : Nat) (w : World) : Int := match w.cell? ⟨g, 2, none⟩ with | some (.int _ z) => z | _ => 0
def rPos (g : Nat) (w : World) : Int := match w.cell? ⟨g, 1, none⟩ with | some (.int _ z) => z | _ => 0
section
variable {E : Env} {g : Nat} {w0 : World} {oo : Option Addr} {oc : Nat} {s : PS}
theorem Rt.err (h : Rt E g w0 oo oc s) : rErr g w0 = s.e := by unfold rErr; rw [h.c2]
theorem Rt.pos (h : Rt E g w0 oo oc s) : rPos g w0 = (s.p : Int) := by unfold rPos; rw [h.c1]
/-- How much is left to be read. -/
def msR (g K : Nat) (w : World) : Nat := if rErr g w = 0 then K + 1 - (rPos g w).toNat else 0
/-- A code that stays while the stream goes on: its lengths and its codes. -/
structure Cd (g : Nat) (oo : Option Addr) (w : World) (ao : Option Addr) (n c : Nat) (ko : Option Addr) (kc : Nat) (L : List Int) : Prop where
  len : ∀ oo' w', Fr g oo w oo' w' → Is w' ao n c L
  cod : ∀ oo' w', Fr g oo w oo' w' → Is w' ko n kc (cds L)
  ok : cer L = 0
/-- What holds at the loop's head. -/
def RelR (E : Env) (g : Nat) (w : World) (oo : Option Addr) (L D : List Int) (R : PS) (wr : World) : Prop :=
  ∃ (t : PS) (f : Nat) (oo1 : Option Addr) (oc1 : Nat), cdS L D E.bs E.m f t = R ∧ (t.e = 0 → 8 * E.bn + 1 ≤ f + t.p) ∧ Rt E g wr oo1 oc1 t ∧ Fr g oo w oo1 wr
theorem relR_next {w w' : World} {L D : List Int} {R t t' : PS} {f : Nat} (he : t.e = 0) (hf : 8 * E.bn + 1 ≤ f + 1 + t.p) (hp : t.p ≤ 8 * E.bn) (hn : cdS L D E.bs E.m f t' = R) (hup : t'.e = 0 → t.p + 1 ≤ t'.p) {oo' : Option Addr} {oc' : Nat} (st : Rt E g w' oo' oc' t') (fr : Fr g oo w oo' w') :
    RelR E g w oo L D R w' ∧ msR g (8 * E.bn) w' < 8 * E.bn + 1 - t.p := by
  refine ⟨⟨t', f, oo', oc', hn, fun q => by have := hup q; omega, st, fr⟩, ?_⟩
  unfold msR
  rw [st.err, st.pos]
  split
  · rename_i q
    have := hup q
    have := st.fit.p
    simp only [Int.toNat_natCast]
    omega
  · omega

theorem wpList_cdLoad {ops : Array Oper} {rest : List Oper} {o : Oper} {a : Act} {w : World} {Q : Exit → Act → World → Prop} (hgd : o.guard = none) (x : Operand) (ho : o.op = .load 101 x)
    (q : Nat) (hx : a.eval x = .pointer (some ⟨q, 0, none⟩)) (v1 v2 : Value) (hg : w.heap[q]? = some (.cells #[v1, v2] 101 (0, 0)))
    (h : wpList Tryz.prog ops Q rest (a.put o.dst (.agg #[v1, v2])) w) : wpList Tryz.prog ops Q (o :: rest) a w :=
  wpList_load_row hgd _ x ho q hx _ #[v1, v2] (0, 0) _ hg Tryz.underlying101 rfl Tryz.codeSize h
theorem two_blocks (w : World) (A B : Array Value) (T : TypeId) : ((w.alloc (.cells A T)).alloc (.cells B T)).heap[w.heap.size]? = some (.cells A T (0, 0)) ∧ ((w.alloc (.cells A T)).alloc (.cells B T)).heap[w.heap.size + 1]? = some (.cells B T (0, 0)) ∧ Below w.heap.size w ((w.alloc (.cells A T)).alloc (.cells B T)) ∧ w.heap.size + 1 < ((w.alloc (.cells A T)).alloc (.cells B T)).heap.size := by
  have e1 := heap_alloc_new w (.cells A T)
  have e2 := heap_alloc_new (w.alloc (.cells A T)) (.cells B T)
  have hs : (w.alloc (.cells A T)).heap.size = w.heap.size + 1 := by simp
  have b2 := below_alloc (w.alloc (.cells A T)) (.cells B T)
  refine ⟨by rw [b2.block _ (by omega)]; exact e1, by rw [← hs]; exact e2, (below_alloc w _).trans (b2.mono (by omega)), by simp⟩
theorem lenr_bd : ∀ i : Nat, i < 29 → lb i ≤ 258 ∧ lx i ≤ 5 := by decide
theorem dstr_bd : ∀ j : Nat, j < 30 → 1 ≤ db j ∧ db j ≤ 24577 ∧ dx j ≤ 13 := by decide
theorem cpy_dead {m : Int} {n d : Nat} {s : PS} (h : s.e ≠ 0) : cpyS m n d s = s := by
  unfold cpyS farS
  split
  · rw [stopS_dead h, cpyL_dead h]
  · rw [cpyL_dead h]
theorem dsy_dead {b : List Int} {x : Int} {s : PS} (h : s.e ≠ 0) : (dsyS b x s).2 = s := by
  unfold dsyS
  split
  · simp only [wthS]; rw [fldN_dead h]
  · exact stopS_dead h
theorem cdX_dead {L D b : List Int} {m : Int} {f : Nat} {s : PS} (h : s.e ≠ 0) : cdX L D b m f 0 s = s := by
  unfold cdX
  rw [if_pos (by omega), telS_dead h, cdS_dead h]
theorem symS_err {L b : List Int} {s : PS} (h : (symS L b s).2.e ≠ 0) : (symS L b s).1 = 0 := by
  by_cases he : s.e = 0
  · rw [symS_live he] at h ⊢
    exact (rdq_no L b s.p h).1
  · rw [symS_dead he]

set_option maxHeartbeats 4000000 in
set_option maxRecDepth 20000 in
theorem pieces_rd (F : Nat) (w : World) (lo : Option Addr) (ln_ lc : Nat) (lk : Option Addr) (lkc : Nat) (L : List Int) (d : Option Addr) (dn dc : Nat) (dk : Option Addr) (dkc : Nat) (D : List Int) (hL : Cd g oo w lo ln_ lc lk lkc L) (hD : Cd g oo w d dn dc dk dkc D) (hF : 8 * E.bn + 1 ≤ F) (h : Rt E g w oo oc s) :
    Calls Tryz.prog 61 #[.pointer (some ⟨g, 0, none⟩), .agg #[.slice lo ln_ lc, .slice lk ln_ lkc], .agg #[.slice d dn dc, .slice dk dn dkc]] w fun e w' => e = .returned (.tuple #[]) ∧ OutR E g w oo (cdS L D E.bs E.m F s) w' := by
  obtain ⟨q1, q2, bl, z2⟩ := two_blocks w #[.slice lo ln_ lc, .slice lk ln_ lkc] #[.slice d dn dc, .slice dk dn dkc] 101
  have FR2 := hide (show Fr g oo w oo _ from (Gb.of (g := g) bl).fr oo)
  have H := hide (h.later bl)
  have hgl := h.lt
  have HOB := hide (show ∀ k, ob oo k → k < w.heap.size from fun k q => (h.out.ob q).2)
  have HL := hide hL
  have HD := hide hD
  have Q1 := hide q1
  have Q2 := hide q2
  have Z2 := hide z2
  clear h hL hD bl q1 q2 z2
  generalize hR : cdS L D E.bs E.m F s = R
  have HR := hide hR
  clear hR
  go_enter Tryz.func61, Tryz.ntmps61
  go_wp2_with fail
  generalize (w.alloc (.cells #[.slice lo ln_ lc, .slice lk ln_ lkc] 101)).alloc (.cells #[.slice d dn dc, .slice dk dn dkc] 101) = w2 at *
  go_loopw [] (fun wr => RelR E g w2 oo L D R wr) (fun wr => msR g (8 * E.bn) wr)
  case atStart => exact ⟨s, F, oo, oc, unhide HR, fun _ => by omega, unhide H, Fr.refl _ _ _⟩
  case round =>
    clear H HR
    obtain ⟨t, f, oo1, oc1, hn, hf, st, fr⟩ := hrel
    have c2 := st.c2
    have hp := st.fit.p
    have zz := unhide Z2
    have k1 := hide ((fr.block w.heap.size (by omega) (by omega) (fun q => by have := unhide HOB _ q; omega)).trans (unhide Q1))
    have k2 := hide ((fr.block (w.heap.size + 1) (by omega) (by omega) (fun q => by have := unhide HOB _ q; omega)).trans (unhide Q2))
    have ST := hide st
    have FR := hide fr
    have HN := hide hn
    have HF := hide hf
    clear hn hf st fr zz
    by_cases he : t.e = 0
    · have he' : (t.e == 0) = true := by simpa using he
      have hms := hide (show msR g (8 * E.bn) wr = 8 * E.bn + 1 - t.p by unfold msR; rw [(unhide ST).err, if_pos he, (unhide ST).pos]; simp)
      have hfa := unhide HF he
      obtain ⟨f', hf'⟩ : ∃ f', f = f' + 1 := ⟨f - 1, by omega⟩
      subst hf'
      have HFA := hide hfa
      have hnx := hide (show cdX L D E.bs E.m f' (symS L E.bs t).1 (symS L E.bs t).2 = R by rw [← unhide HN, cdS_live he])
      have sc := hide (symbol_rd wr lo ln_ lc L lk lkc ((unhide HL).len _ wr ((unhide FR2).trans (unhide FR))) ((unhide HL).cod _ wr ((unhide FR2).trans (unhide FR))) (fun _ => (unhide HL).ok) (unhide ST))
      have bd := symS_bd L E.bs t
      have b3 := symS_320 L E.bs t
      have hup := hide (show (symS L E.bs t).2.e = 0 → t.p + 1 ≤ (symS L E.bs t).2.p by
        rw [symS_live he]
        intro q
        obtain ⟨i, k, h1, h2, h3, h4, _⟩ := rdq_ok L E.bs t.p q
        simp only [h1, Int.toNat_natCast]
        omega)
      have hdd := hide (show (symS L E.bs t).2.e ≠ 0 → R = (symS L E.bs t).2 by
        intro q
        rw [← unhide hnx, symS_err q, cdX_dead q])
      have HE := hide he
      clear he hfa
      generalize (symS L E.bs t).1 = X at *
      generalize (symS L E.bs t).2 = t1 at *
      have FN := hide (fun (w' : World) (oo' : Option Addr) (oc' : Nat) (t' : PS) (hn : cdS L D E.bs E.m f' t' = R) (hu : t'.e = 0 → t1.e = 0 ∧ t1.p ≤ t'.p) (st : Rt E g w' oo' oc' t') (fr : Fr g oo w2 oo' w') =>
        relR_next (unhide HE) (unhide HFA) hp hn (fun q => by have a1 := hu q; have a2 := unhide hup a1.1; omega) st fr)
      by_cases e1 : t1.e = 0
      · have e1' : (t1.e != 0) = false := by simpa using e1
        by_cases h1 : X < 256
        · have hx := hide (show cdS L D E.bs E.m f' (telS E.m X t1) = R by rw [← unhide hnx]; unfold cdX; rw [if_pos h1])
          have X8 : X ≤ 255 := by omega
          have x6 : (X == 256) = false := by rw [beq_eq_false_iff_ne]; omega
          have hu := hide (fun (q : (telS E.m X t1).e = 0) => (show t1.e = 0 ∧ t1.p ≤ (telS E.m X t1).p by
            have nt := nice_tel (c := fun _ => X)
            have l1 := nt.live (b := E.bs) (m := E.m) (s := t1) q
            exact ⟨l1, (nt.up E.bs E.m t1 l1 q).1⟩))
          go_wp2_with (first
            | (with_reducible show wpList Tryz.prog _ _ (Oper.mk _ (Op.load 101 _) _ _ _ none :: _) _ _; refine wpList_cdLoad rfl (.tmp 4) rfl w.heap.size rfl _ _ (unhide k1) ?_)
            | (go_at_call 78; refine (unhide sc).mono ?_; rintro e w1 ⟨rfl, s1, g1⟩; have d2 := s1.c2; have S1 := hide s1; clear s1))
          refine (tell_rd w1 X bd.1 X8 (unhide S1)).mono ?_
          rintro e w3 ⟨rfl, oo2, oc2, s2, f2⟩
          have fn := hide ((unhide FN) w3 oo2 oc2 _ (unhide hx) (unhide hu) s2 (((unhide FR).trans (g1.fr oo1)).trans f2))
          clear s2 f2
          go_wp2_with fail
          go_roundw
          case rel => exact (unhide fn).1
          case measure => rw [unhide hms]; exact (unhide fn).2
        · by_cases h2 : X = 256
          · have hx := hide (show R = t1 by rw [← unhide hnx]; unfold cdX; rw [if_neg h1, if_pos h2])
            subst h2
            go_wp2_with (first
              | (with_reducible show wpList Tryz.prog _ _ (Oper.mk _ (Op.load 101 _) _ _ _ none :: _) _ _; refine wpList_cdLoad rfl (.tmp 4) rfl w.heap.size rfl _ _ (unhide k1) ?_)
              | (go_at_call 78; refine (unhide sc).mono ?_; rintro e w1 ⟨rfl, s1, g1⟩; have d2 := s1.c2; have S1 := hide s1; clear s1))
            refine bodyPost_ret (results_none rfl _ _ _) rfl ?_
            rw [unhide hx]
            exact ⟨rfl, oo1, oc1, unhide S1, ((unhide FR2).trans (unhide FR)).trans (g1.fr oo1)⟩
          · have x6 : (X == 256) = false := by rw [beq_eq_false_iff_ne]; exact h2
            by_cases h3 : X < 286
            · obtain ⟨i, hi⟩ : ∃ i : Nat, X = 257 + (i : Int) := ⟨(X - 257).toNat, by omega⟩
              have i29 : i < 29 := by omega
              have lbd := lenr_bd i i29
              have h3' : ¬ 285 < X := by omega
              have hx := hide (show cdS L D E.bs E.m f' (cpyS E.m ((lb i : Int) + (fldN E.bs (lx i) t1).1).toNat (dsyS E.bs (symS D E.bs (fldN E.bs (lx i) t1).2).1 (symS D E.bs (fldN E.bs (lx i) t1).2).2).1.toNat (dsyS E.bs (symS D E.bs (fldN E.bs (lx i) t1).2).1 (symS D E.bs (fldN E.bs (lx i) t1).2).2).2) = R by
                rw [← unhide hnx]; unfold cdX; rw [if_neg h1, if_neg h2, if_pos h3]
                unfold cpxS dstS lthS wthS
                rw [show (X - 257).toNat = i by omega]
                rfl)
              have lc := hide (fun w' => length_ref w' i (by omega) X hi)
              have fc := hide (fun w' (h : Rt E g w' oo1 oc1 t1) => field_rd w' (lx i) (by omega) ((lx i : Nat) : Int) rfl h)
              have v1b := fldR_bd E.bs (lx i) t1
              have v1c := two20r (show lx i ≤ 19 by omega)
              have hv1 := hide (show (fldN E.bs (lx i) t1).2.e = 0 → fldR E.bs (lx i) t1 = (fldN E.bs (lx i) t1).1 from fldR_ok)
              have hup2 := hide (show (fldN E.bs (lx i) t1).2.e = 0 → t1.p ≤ (fldN E.bs (lx i) t1).2.p from fun q => ((nice_fld (lx i)).up E.bs E.m t1 e1 q).1)
              have sd := hide (fun w' (hI : Is w' d dn dc D) (hK : Is w' dk dn dkc (cds D)) (h : Rt E g w' oo1 oc1 (fldN E.bs (lx i) t1).2) => symbol_rd w' d dn dc D dk dkc hI hK (fun _ => (unhide HD).ok) h)
              have yb := symS_bd D E.bs (fldN E.bs (lx i) t1).2
              have hl3 := hide (show (symS D E.bs (fldN E.bs (lx i) t1).2).2.e = 0 → (fldN E.bs (lx i) t1).2.e = 0 ∧ (fldN E.bs (lx i) t1).2.p ≤ (symS D E.bs (fldN E.bs (lx i) t1).2).2.p from fun q => by
                have l1 := (nice_sym D).live (b := E.bs) (m := E.m) (s := (fldN E.bs (lx i) t1).2) q
                exact ⟨l1, ((nice_sym D).up E.bs E.m _ l1 q).1⟩)
              have HI := hide hi
              have HX1 := hide h1
              clear h2 h3 hi hnx
              generalize hB : lb i = B at *
              generalize hXX : lx i = XX at *
              generalize (symS D E.bs (fldN E.bs XX t1).2).1 = Y at *
              generalize (symS D E.bs (fldN E.bs XX t1).2).2 = t3 at *
              generalize fldR E.bs XX t1 = V1 at *
              generalize (fldN E.bs XX t1).1 = V0 at *
              generalize (fldN E.bs XX t1).2 = t2 at *
              have v1d : V1 ≤ 1048576 := by omega
              have v10 := v1b.1
              clear v1b v1c
              go_wp2_with (first
                | (with_reducible show wpList Tryz.prog _ _ (Oper.mk _ (Op.load 101 _) _ _ _ none :: _) _ _; refine wpList_cdLoad rfl (.tmp 4) rfl w.heap.size rfl _ _ (unhide k1) ?_))
              refine (unhide sc).mono ?_
              rintro e w1 ⟨rfl, s1, g1⟩
              have d2 := s1.c2
              have S1 := hide s1
              clear s1
              go_wp2_with fail
              refine same_world (unhide lc w1) ?_
              go_wp2_with fail
              refine (unhide fc w1 (unhide S1)).mono ?_
              rintro e w3 ⟨rfl, s3, g3⟩
              have S3 := hide s3
              have G3 := hide (((unhide FR).trans (g1.fr oo1)).trans (g3.fr oo1))
              have k3 := hide (((unhide G3).block (w.heap.size + 1) (by have := unhide Z2; omega) (by omega) (fun q => by have := unhide HOB _ q; omega)).trans (unhide Q2))
              clear s3 g1 g3
              go_wp2_with (first
                | (with_reducible show wpList Tryz.prog _ _ (Oper.mk _ (Op.load 101 _) _ _ _ none :: _) _ _; refine wpList_cdLoad rfl (.tmp 5) rfl (w.heap.size + 1) rfl _ _ (unhide k3) ?_))
              refine (unhide sd w3 ((unhide HD).len _ w3 ((unhide FR2).trans (unhide G3))) ((unhide HD).cod _ w3 ((unhide FR2).trans (unhide G3))) (unhide S3)).mono ?_
              rintro e w4 ⟨rfl, s4, g4⟩
              have d4 := s4.c2
              have f4 := s4.free 2
              have S4 := hide s4
              have G4 := hide ((unhide G3).trans (g4.fr oo1))
              clear s4 g4
              by_cases e3 : t3.e = 0
              · have e3' : (t3.e == 0) = true := by simpa using e3
                have e3'' : (t3.e != 0) = false := by simpa using e3
                obtain ⟨l2, p23⟩ := unhide hl3 e3
                have p12 := unhide hup2 l2
                obtain rfl := unhide hv1 l2
                clear hl3 hup2 hv1
                obtain ⟨NN, hNN⟩ : ∃ NN : Nat, (B : Int) + V1 = (NN : Int) := ⟨((B : Int) + V1).toNat, by omega⟩
                have hNb : NN ≤ 2000000 := by omega
                by_cases hy : Y < 30
                · obtain ⟨j, hj⟩ : ∃ j : Nat, Y = (j : Int) := ⟨Y.toNat, by omega⟩
                  have hy' : ¬ 29 < Y := by omega
                  have j30 : j < 30 := by omega
                  have dbd := dstr_bd j j30
                  have hx2 := hide (show cdS L D E.bs E.m f' (cpyS E.m NN ((db j : Int) + (fldN E.bs (dx j) t3).1).toNat (fldN E.bs (dx j) t3).2) = R by
                    rw [← unhide hx]
                    unfold dsyS wthS
                    rw [if_pos hy, hNN, show Y.toNat = j by omega]
                    rfl)
                  have dcall := hide (fun w' => distance_ref w' j (by omega) Y hj)
                  have fe := hide (fun w' (h : Rt E g w' oo1 oc1 t3) => field_rd w' (dx j) (by omega) ((dx j : Nat) : Int) rfl h)
                  have v2b := fldR_bd E.bs (dx j) t3
                  have v2c := two20r (show dx j ≤ 19 by omega)
                  have hv2 := hide (show (fldN E.bs (dx j) t3).2.e = 0 → fldR E.bs (dx j) t3 = (fldN E.bs (dx j) t3).1 from fldR_ok)
                  have hup4 := hide (show (fldN E.bs (dx j) t3).2.e = 0 → t3.p ≤ (fldN E.bs (dx j) t3).2.p from fun q => ((nice_fld (dx j)).up E.bs E.m t3 e3 q).1)
                  clear hx hy hj e3
                  generalize db j = DB at *
                  generalize dx j = DX at *
                  generalize fldR E.bs DX t3 = V2 at *
                  generalize (fldN E.bs DX t3).1 = V3 at *
                  generalize (fldN E.bs DX t3).2 = t4 at *
                  have v2d : V2 ≤ 1048576 := by omega
                  have v20 := v2b.1
                  clear v2b v2c
                  go_wp2_with fail
                  refine same_world (unhide dcall w4) ?_
                  go_wp2_with fail
                  refine (unhide fe w4 (unhide S4)).mono ?_
                  rintro e w6 ⟨rfl, s6, g6⟩
                  have d6 := s6.c2
                  have d63 := s6.c3
                  have f6 := s6.free 2
                  have o6 := s6.fit.o
                  have S6 := hide s6
                  have G6 := hide ((unhide G4).trans (g6.fr oo1))
                  clear s6 g6
                  obtain ⟨K, hK⟩ : ∃ K : Nat, (DB : Int) + V2 = (K : Int) := ⟨((DB : Int) + V2).toNat, by omega⟩
                  by_cases e4 : t4.e = 0
                  · have e4' : (t4.e == 0) = true := by simpa using e4
                    obtain rfl := unhide hv2 e4
                    have p34 := unhide hup4 e4
                    rw [hK, Int.toNat_natCast] at hx2
                    by_cases hfar : t4.o.length < K
                    · have hfar' : (t4.o.length : Int) < (K : Int) := by omega
                      have fn := hide ((unhide FN) _ oo1 oc1 { t4 with e := 5 } (by
                        have := unhide hx2
                        unfold cpyS farS at this
                        rw [if_pos hfar, cpyL_dead (stopS_e 5 t4 (by omega)), stopS_live e4] at this
                        exact this) (fun q => absurd q (by simp)) ((unhide S6).putE 5 (by omega) (by omega)) ((unhide G6).trans (((Gb.refl g w6).set 2 (.int .i64 5)).fr oo1)))
                      have d7 := ((unhide S6).putE 5 (by omega) (by omega)).c2
                      clear e4 hfar
                      go_wp2_with fail
                      go_loopw [12] (fun iv ws => iv = .int .i64 0 ∧ ws = w6.setCell ⟨g, 2, none⟩ (.int .i64 5)) (fun _ _ => 0)
                      case atStart => exact ⟨rfl, rfl⟩
                      case round =>
                        obtain ⟨rfl, rfl⟩ := hrel
                        by_cases hn0 : 0 < NN
                        · have hn0' : (0 : Int) < (NN : Int) := by omega
                          go_wp2_with fail
                          go_roundw
                          case rel => exact (unhide fn).1
                          case measure => rw [unhide hms]; exact (unhide fn).2
                        · have hn0' : ¬ (0 : Int) < (NN : Int) := by omega
                          go_wp2_with fail
                          go_roundw
                          case rel => exact (unhide fn).1
                          case measure => rw [unhide hms]; exact (unhide fn).2
                    · have hfar' : ¬ (t4.o.length : Int) < (K : Int) := by omega
                      have hxc := hide (show cdS L D E.bs E.m f' (cpyL E.m K NN t4) = R by
                        have := unhide hx2
                        unfold cpyS farS at this
                        rw [if_neg hfar] at this
                        exact this)
                      have hpo := hide (show (cpyL E.m K NN t4).e = 0 → t4.p ≤ (cpyL E.m K NN t4).p from fun q => ((nice_cpyL K NN).up E.bs E.m t4 e4 q).1)
                      generalize hRR : cpyL E.m K NN t4 = RR at *
                      have HRR := hide hRR
                      have hdl := hide (show t4.e = 0 → 1 ≤ K ∧ K ≤ t4.o.length from fun _ => ⟨by omega, by omega⟩)
                      have hfn : K ≤ t4.o.length := by omega
                      clear hRR hx2 e4
                      go_wp2_with fail
                      go_loopw [12] (fun iv ws => ∃ (k : Nat) (tt : PS) (oo3 : Option Addr) (oc3 : Nat), k ≤ NN ∧ iv = .int .i64 (k : Int) ∧ cpyL E.m K (NN - k) tt = RR ∧ (tt.e = 0 → 1 ≤ K ∧ K ≤ tt.o.length) ∧ Rt E g ws oo3 oc3 tt ∧ Fr g oo w2 oo3 ws) (fun iv _ => NN - (intOf iv).toNat)
                      case atStart => exact ⟨0, t4, oo1, oc1, by omega, rfl, unhide HRR, unhide hdl, unhide S6, unhide G6⟩
                      case round =>
                        clear S6 G6 S4 G4 S3 G3 S1 k1 k2 k3 sc sd lc fc fe dcall hdl HRR d2 d4 f4 d6 d63 f6 o6
                        obtain ⟨k, tt, oo3, oc3, hk, rfl, hc, hdl2, st, fr⟩ := hrel
                        have x2 := st.c2
                        have x3 := st.c3
                        have xo := st.fit.o
                        by_cases hlt : k < NN
                        · have hlt' : (k : Int) < (NN : Int) := by omega
                          by_cases he5 : tt.e = 0
                          · have he5' : (tt.e == 0) = true := by simpa using he5
                            have dl := hdl2 he5
                            obtain ⟨bb, of, hix, hcx⟩ := st.out.bs.idx (show tt.o.length - K < tt.o.length by omega) (IntKind.i64.wrap ((tt.o.length : Int) - (K : Int))) (by rw [IntKind.wrap_i64]; omega)
                            have hby := st.out.byt.at (tt.o.length - K)
                            have hnx2 := hide (show cpyL E.m K (NN - (k + 1)) (telS E.m (tt.o[tt.o.length - K]?.getD 0) tt) = RR by
                              obtain ⟨jj, hjj⟩ : ∃ jj, NN - k = jj + 1 := ⟨NN - k - 1, by omega⟩
                              rw [← hc, hjj, show NN - (k + 1) = jj by omega]
                              rfl)
                            have hd5 := hide (show (telS E.m (tt.o[tt.o.length - K]?.getD 0) tt).e = 0 → 1 ≤ K ∧ K ≤ (telS E.m (tt.o[tt.o.length - K]?.getD 0) tt).o.length by
                              intro q
                              by_cases hm : (tt.o.length : Int) < E.m
                              · rw [telS_live he5 hm]
                                simp
                                omega
                              · rw [telS_full he5 hm] at q
                                exact absurd q (by simp))
                            generalize tt.o[tt.o.length - K]?.getD 0 = V at *
                            have ST5 := hide st
                            have FR5 := hide fr
                            clear st fr hc hdl2 he5
                            go_wp2_with fail
                            go_region_with (go_at_call 77; refine (tell_rd _ V hby.1 hby.2 ((unhide ST5).drew)).mono ?_; rintro e w7 ⟨rfl, oo7, oc7, s7, f7⟩; have S7 := hide s7; have F7 := hide f7; clear s7 f7)
                            all_goals go_wp2_with fail
                            all_goals go_roundw
                            all_goals first
                              | (simp [intOf]; omega)
                              | exact ⟨k + 1, telS E.m V tt, oo7, oc7, by omega, by go_num, unhide hnx2, unhide hd5, unhide S7, ((unhide FR5).trans ((((Gb.refl g wr).drew)).fr oo3)).trans (unhide F7)⟩
                          · have he5' : (tt.e == 0) = false := by simpa using he5
                            have hrt : RR = tt := by rw [← hc]; exact cpyL_dead he5 _
                            have fn := hide ((unhide FN) wr oo3 oc3 RR (unhide hxc) (fun q => absurd q (by rw [hrt]; exact he5)) (by rw [hrt]; exact st) fr)
                            clear st fr hc hdl2 he5 hrt
                            go_wp2_with fail
                            go_roundw
                            case rel => exact (unhide fn).1
                            case measure => rw [unhide hms]; exact (unhide fn).2
                        · have hkn : k = NN := by omega
                          have hlt' : ¬ (k : Int) < (NN : Int) := by omega
                          have hrt : RR = tt := by rw [← hc, hkn, Nat.sub_self]; rfl
                          have fn := hide ((unhide FN) wr oo3 oc3 RR (unhide hxc) (fun q => ⟨e1, by have := unhide hpo q; omega⟩) (by rw [hrt]; exact st) fr)
                          clear st fr hc hdl2 hrt hkn
                          go_wp2_with fail
                          go_roundw
                          case rel => exact (unhide fn).1
                          case measure => rw [unhide hms]; exact (unhide fn).2
                  · have e4' : (t4.e == 0) = false := by simpa using e4
                    have fn := hide ((unhide FN) w6 oo1 oc1 t4 (by rw [← unhide hx2, cpy_dead e4]) (fun q => absurd q e4) (unhide S6) (unhide G6))
                    clear e4
                    go_wp2_with fail
                    go_loopw [12] (fun iv ws => iv = .int .i64 0 ∧ ws = w6) (fun _ _ => 0)
                    case atStart => exact ⟨rfl, rfl⟩
                    case round =>
                      obtain ⟨rfl, rfl⟩ := hrel
                      by_cases hn0 : 0 < NN
                      · have hn0' : (0 : Int) < (NN : Int) := by omega
                        go_wp2_with fail
                        go_roundw
                        case rel => exact (unhide fn).1
                        case measure => rw [unhide hms]; exact (unhide fn).2
                      · have hn0' : ¬ (0 : Int) < (NN : Int) := by omega
                        go_wp2_with fail
                        go_roundw
                        case rel => exact (unhide fn).1
                        case measure => rw [unhide hms]; exact (unhide fn).2
                · have hy' : 29 < Y := by omega
                  have hfin := hide (show R = { t3 with e := 5 } by
                    rw [← unhide hx]
                    unfold dsyS
                    rw [if_neg hy]
                    simp only
                    rw [cpy_dead (stopS_e 5 t3 (by omega)), cdS_dead (stopS_e 5 t3 (by omega)), stopS_live e3])
                  have S5 := hide ((unhide S4).putE 5 (by omega) (by omega))
                  have d5 := (unhide S5).c2
                  clear e3 hy
                  go_wp2_with fail
                  refine bodyPost_ret (results_none rfl _ _ _) rfl ?_
                  rw [unhide hfin]
                  exact ⟨rfl, oo1, oc1, unhide S5, (unhide FR2).trans ((unhide G4).trans (((Gb.refl g w4).set _ _).fr oo1))⟩
              · have e3' : (t3.e == 0) = false := by simpa using e3
                have e3'' : (t3.e != 0) = true := by simpa using e3
                have hfin := hide (show R = t3 by rw [← unhide hx, dsy_dead e3, cpy_dead e3, cdS_dead e3])
                clear e3
                go_wp2_with fail
                refine bodyPost_ret (results_none rfl _ _ _) rfl ?_
                rw [unhide hfin]
                exact ⟨rfl, oo1, oc1, unhide S4, (unhide FR2).trans (unhide G4)⟩
            · have hx := hide (show R = { t1 with e := 5 } by rw [← unhide hnx]; unfold cdX; rw [if_neg h1, if_neg h2, if_neg h3, cdS_dead (stopS_e 5 t1 (by omega)), stopS_live e1])
              have h3' : 285 < X := by omega
              clear h2 h3
              go_wp2_with (first
                | (with_reducible show wpList Tryz.prog _ _ (Oper.mk _ (Op.load 101 _) _ _ _ none :: _) _ _; refine wpList_cdLoad rfl (.tmp 4) rfl w.heap.size rfl _ _ (unhide k1) ?_)
                | (go_at_call 78; refine (unhide sc).mono ?_; rintro e w1 ⟨rfl, s1, g1⟩; have d2 := s1.c2; have df := s1.free 2; have S1 := hide s1; clear s1))
              refine bodyPost_ret (results_none rfl _ _ _) rfl ?_
              rw [unhide hx]
              exact ⟨rfl, oo1, oc1, (unhide S1).putE 5 (by omega) (by omega), ((unhide FR2).trans (unhide FR)).trans ((g1.set _ _).fr oo1)⟩
      · have e1' : (t1.e != 0) = true := by simpa using e1
        have hx := hide (unhide hdd e1)
        clear e1
        go_wp2_with (first
          | (with_reducible show wpList Tryz.prog _ _ (Oper.mk _ (Op.load 101 _) _ _ _ none :: _) _ _; refine wpList_cdLoad rfl (.tmp 4) rfl w.heap.size rfl _ _ (unhide k1) ?_)
          | (go_at_call 78; refine (unhide sc).mono ?_; rintro e w1 ⟨rfl, s1, g1⟩; have d2 := s1.c2; have S1 := hide s1; clear s1))
        refine bodyPost_ret (results_none rfl _ _ _) rfl ?_
        rw [unhide hx]
        exact ⟨rfl, oo1, oc1, unhide S1, ((unhide FR2).trans (unhide FR)).trans (g1.fr oo1)⟩
    · have he' : (t.e == 0) = false := by simpa using he
      have hfin := hide (show R = t by rw [← unhide HN]; exact cdS_dead he f)
      clear he
      go_wp2_with fail
      go_end0
      rw [unhide hfin]
      exact ⟨rfl, oo1, oc1, unhide ST, (unhide FR2).trans (unhide FR)⟩
end
end Go.Proofs.YtnoabdafmgmenaaGreatDoor
