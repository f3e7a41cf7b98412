/-
  What coded, of package inflate, does to a stream. Conditions: the state's own bounds; the two codes stay while the stream goes on.
-/
import Derived.Test.YtalkeooejobjhaaDoorInfTwo
import Derived.Test.YtalkeooejobjhaaDoorInfCopy
import Derived.Test.YtalkeooejobjhaaDoorInfNice
namespace Go.Proofs.YtalkeooejobjhaaDoor
open Go.RowKit
set_option linter.unusedVariables false
set_option linter.unusedSimpArgs false

theorem pow2_le {k n : Nat} (h : k ≤ n) : (2 : Int) ^ k ≤ 2 ^ n := by
  have := Nat.pow_le_pow_right (show 0 < 2 by omega) h
  exact_mod_cast this
theorem dst_ge {D b : List Int} {s : PS} (h : (dstS D b s).2.e = 0) : 1 ≤ (dstS D b s).1 := by
  unfold dstS dsyS at h ⊢
  by_cases hx : (symS D b s).1 < 30
  · rw [if_pos hx] at h ⊢
    have hb := symS_bd D b s
    have h1 := dst_bd (symS D b s).1.toNat (by omega)
    have h2 := fldN_bd b (dstX[(symS D b s).1.toNat]?.getD 0) (symS D b s).2
    simp only [wthS]
    omega
  · rw [if_neg hx] at h
    exact absurd h (stopS_e 5 _ (by omega))
theorem dst_le (D b : List Int) (s : PS) : 0 ≤ (dstS D b s).1 ∧ (dstS D b s).1 ≤ 100000 := by
  unfold dstS dsyS
  by_cases hx : (symS D b s).1 < 30
  · rw [if_pos hx]
    have hb := symS_bd D b s
    have h1 := dst_bd (symS D b s).1.toNat (by omega)
    have h2 := fldN_bd b (dstX[(symS D b s).1.toNat]?.getD 0) (symS D b s).2
    have h3 := pow2_le h1.2.2
    simp only [wthS]
    omega
  · rw [if_neg hx]
    exact ⟨Int.le_refl 0, by omega⟩
theorem lth_le {b : List Int} {x : Int} {s : PS} (h0 : 257 ≤ x) (h1 : x < 286) : 0 ≤ (lthS b x s).1 ∧ (lthS b x s).1 ≤ 100000 := by
  unfold lthS wthS
  have h2 := len_bd (x - 257).toNat (by omega)
  have h3 := fldN_bd b (lenX[(x - 257).toNat]?.getD 0) s
  have h4 := pow2_le h2.2
  simp only
  omega

theorem run_lenAt (i : Nat) (hi : i < 29) (I : Int) (hI : I = (i : Int)) (w : World) : (Instr.indexAt 90 (.pointer (some ⟨0, 0, none⟩)) (.int .i64 I)).run Tryd.prog w = .ok (.pointer (some ⟨0, i * 2, none⟩)) w := by
  subst hI
  have hs : ∀ w : World, (sizeOf (Tryd.prog.elem 90)).run Tryd.prog w = .ok 2 w := by intro w; kernel_rfl
  have hl : Tryd.prog.arrayLen 90 = 29 := by kernel_rfl
  have hu : Tryd.prog.underlying 90 = some (.array (Tryd.prog.arrayLen 90) (Tryd.prog.elem 90)) := by kernel_rfl
  rw [run_indexAt_array w 90 _ .i64 (i : Int) hu, hl, if_pos (by omega), hs]
  simp [Result.andThen, Addr.add_lit]

section
variable {E : Env} {g : Nat} {w0 : World} {oo : Option Addr} {oc : Nat} {s : PS} {ov : Bool}

/-- How much is left to be read. -/
def msC (g K : Nat) (w : World) : Nat := if errAt g w = 0 then K + 1 - (posAt g w).toNat else 0
/-- What holds at the loop's head. -/
def RelC (E : Env) (g : Nat) (w : World) (oo : Option Addr) (ov : Bool) (L D : List Int) (R : PS) (wr : World) : Prop :=
  ∃ (t : PS) (f : Nat) (oo1 : Option Addr) (oc1 : Nat), cdS L D E.bs E.m f t = R ∧ (t.e = 0 → 8 * E.bn + 1 ≤ f + t.p) ∧ St E g wr oo1 oc1 t ov ∧ Fr g oo w oo1 wr

theorem relC_next {w w' : World} {L D : List Int} {R t t' : PS} {f : Nat} (he : t.e = 0) (hf : 8 * E.bn + 1 ≤ f + 1 + t.p) (hp : t.p ≤ 8 * E.bn) (hn : cdS L D E.bs E.m f t' = R) (hup : t'.e = 0 → t.p + 1 ≤ t'.p) {oo' : Option Addr} {oc' : Nat} (st : St E g w' oo' oc' t' ov) (fr : Fr g oo w oo' w') :
    RelC E g w oo ov L D R w' ∧ msC g (8 * E.bn) w' < 8 * E.bn + 1 - t.p := by
  refine ⟨⟨t', f, oo', oc', hn, fun q => by have := hup q; omega, st, fr⟩, ?_⟩
  unfold msC
  rw [st.errAt, st.posAt]
  split
  · rename_i q
    have := hup q
    have := st.fit.p
    simp only [Int.toNat_natCast]
    omega
  · omega

set_option maxHeartbeats 2000000 in
set_option maxRecDepth 20000 in
theorem coded_any (F : Nat) (w : World) (lo : Option Addr) (ln_ lc : Nat) (L : List Int) (d : Option Addr) (dn dc : Nat) (D : List Int) (hL : Stay g oo w lo ln_ lc L) (hD : Stay g oo w d dn dc D) (hF : 8 * E.bn + 1 ≤ F) (h : St E g w oo oc s ov) :
    Calls Tryd.prog 29 #[.pointer (some ⟨g, 0, none⟩), .slice lo ln_ lc, .slice d dn dc] w fun e w' => e = .returned (.tuple #[]) ∧ Out E g w oo (cdS L D E.bs E.m F s) ov w' := by
  have H := hide h
  have HL := hide hL
  have HD := hide hD
  clear h hL hD
  generalize hR : cdS L D E.bs E.m F s = R
  have HR := hide hR
  clear hR
  go_enter Tryd.func29, Tryd.ntmps29
  go_wp2_with fail
  go_loopw [] (fun wr => RelC E g w oo ov L D R wr) (fun wr => msC g (8 * E.bn) wr)
  case atStart => exact ⟨s, F, oo, oc, unhide HR, fun _ => by omega, unhide H, Fr.refl _ _ _⟩
  case round =>
    obtain ⟨t, f, oo1, oc1, hn, hf, st, fr⟩ := hrel
    have c2 := st.c2
    have hp := st.fit.p
    have ST := hide st
    have FR := hide fr
    have HN := hide hn
    have HF := hide hf
    clear hn hf st fr
    by_cases he : t.e = 0
    · have he' : (t.e == 0) = true := by simpa using he
      have hms := hide (show msC g (8 * E.bn) wr = 8 * E.bn + 1 - t.p by unfold msC; rw [(unhide ST).errAt, if_pos he, (unhide ST).posAt]; simp)
      have hfa := unhide HF he
      obtain ⟨f', hf'⟩ : ∃ f', f = f' + 1 := ⟨f - 1, by omega⟩
      subst hf'
      have HFA := hide hfa
      have hnx := hide (show cdX L D E.bs E.m f' (symS L E.bs t).1 (symS L E.bs t).2 = R by rw [← unhide HN, cdS_live he])
      have sc := hide (symbol_any wr lo ln_ lc L (unhide HL _ wr (unhide FR)) (unhide ST))
      have bd := symS_bd L E.bs t
      have b3 := symS_320 L E.bs t
      have hup := hide (show (symS L E.bs t).2.e = 0 → t.p + 1 ≤ (symS L E.bs t).2.p by
        rw [symS_live he]
        intro q
        obtain ⟨i, k, h1, h2, h3, h4, _⟩ := rdq_ok L E.bs t.p q
        simp only [h1, Int.toNat_natCast]
        omega)
      have HE := hide he
      clear he hfa
      generalize (symS L E.bs t).1 = X at *
      generalize (symS L E.bs t).2 = t1 at *
      have FN := hide (fun (w' : World) (oo' : Option Addr) (oc' : Nat) (t' : PS) (hn : cdS L D E.bs E.m f' t' = R) (hu : t'.e = 0 → t1.e = 0 ∧ t1.p ≤ t'.p) (st : St E g w' oo' oc' t' ov) (fr : Fr g oo w oo' w') =>
        relC_next (unhide HE) (unhide HFA) hp hn (fun q => by have a1 := hu q; have a2 := unhide hup a1.1; omega) st fr)
      by_cases h1 : X < 256
      · have hx := hide (show cdS L D E.bs E.m f' (telS E.m X t1) = R by rw [← unhide hnx]; unfold cdX; rw [if_pos h1])
        have X8 : X ≤ 255 := by omega
        have hu := hide (fun (q : (telS E.m X t1).e = 0) => (show t1.e = 0 ∧ t1.p ≤ (telS E.m X t1).p by
          have nt := nice_tel (c := fun _ => X)
          have l1 := nt.live (b := E.bs) (m := E.m) (s := t1) q
          exact ⟨l1, (nt.up E.bs E.m t1 l1 q).1⟩))
        go_wp2_with fail
        refine (unhide sc).mono ?_
        rintro e w1 ⟨rfl, s1, g1⟩
        have tc := hide (tell_any w1 X bd.1 X8 s1)
        clear s1
        go_wp2_with fail
        refine (unhide tc).mono ?_
        rintro e w2 ⟨rfl, oo2, oc2, s2, f2⟩
        have fn := hide ((unhide FN) w2 oo2 oc2 _ (unhide hx) (unhide hu) s2 (((unhide FR).trans (g1.fr oo1)).trans f2))
        clear s2 f2
        go_wp2_with fail
        go_roundw
        case rel => exact (unhide fn).1
        case measure => rw [unhide hms]; exact (unhide fn).2
      by_cases h2 : X = 256
      · have hx := hide (show R = t1 by rw [← unhide hnx]; unfold cdX; rw [if_neg h1, if_pos h2])
        subst h2
        clear h1
        go_wp2_with fail
        refine (unhide sc).mono ?_
        rintro e w1 ⟨rfl, s1, g1⟩
        have S1 := hide s1
        clear s1
        go_wp2_with fail
        refine bodyPost_ret (results_none rfl _ _ _) rfl ?_
        rw [unhide hx]
        exact ⟨rfl, oo1, oc1, unhide S1, (unhide FR).trans (g1.fr oo1)⟩
      have q2 : (X == 256) = false := by simpa using h2
      by_cases h3 : X < 286
      · have hx := hide (show cdS L D E.bs E.m f' (cpxS D E.bs E.m X t1) = R by rw [← unhide hnx]; unfold cdX; rw [if_neg h1, if_neg h2, if_pos h3])
        have hu := hide (fun (q : (cpxS D E.bs E.m X t1).e = 0) => (show t1.e = 0 ∧ t1.p ≤ (cpxS D E.bs E.m X t1).p by
          have nt := nice_cpx D X
          have l1 := nt.live (b := E.bs) (m := E.m) (s := t1) q
          exact ⟨l1, (nt.up E.bs E.m t1 l1 q).1⟩))
        obtain ⟨i, hi⟩ : ∃ i : Nat, X - 257 = (i : Int) := ⟨(X - 257).toNat, by omega⟩
        have i29 : i < 29 := by omega
        have lb := len_bd i i29
        have ll := lth_le (b := E.bs) (x := X) (s := t1) (by omega) h3
        have hlw := hide (show lthS E.bs X t1 = wthS E.bs (lenB[i]?.getD 0) (lenX[i]?.getD 0) t1 by unfold lthS; rw [show (X - 257).toNat = i by omega])
        have hcx := hide (show cpxS D E.bs E.m X t1 = cpyS E.m (lthS E.bs X t1).1.toNat (dstS D E.bs (lthS E.bs X t1).2).1.toNat (dstS D E.bs (lthS E.bs X t1).2).2 from rfl)
        obtain ⟨B, hB⟩ : ∃ B, B = lenB[i]?.getD 0 := ⟨_, rfl⟩
        obtain ⟨K, hK⟩ : ∃ K, K = lenX[i]?.getD 0 := ⟨_, rfl⟩
        rw [← hB, ← hK] at hlw lb
        have VB := hide (fun w1 (s1 : St E g w1 oo1 oc1 t1 ov) => (show w1.cell? ⟨0, i * 2, none⟩ = some (.int .i64 (B : Int)) by rw [hB]; exact s1.vars.lenB i i29))
        have VK := hide (fun w1 (s1 : St E g w1 oo1 oc1 t1 ov) => (show w1.cell? ⟨0, i * 2 + 1, none⟩ = some (.int .i64 (K : Int)) by rw [hK]; exact s1.vars.lenX i i29))
        have WC := hide (fun w1 (s1 : St E g w1 oo1 oc1 t1 ov) => within_any w1 B K (by omega) (by omega) s1)
        rw [← unhide hlw] at WC
        have dl := dst_le D E.bs (lthS E.bs X t1).2
        have dg := hide (fun q => dst_ge (D := D) (b := E.bs) (s := (lthS E.bs X t1).2) q)
        have ix := hide (run_lenAt i i29 (IntKind.i64.wrap (X - 257)) (by rw [IntKind.wrap_i64]; omega))
        have DC := hide (fun w1 (s1 : St E g w1 oo1 oc1 (lthS E.bs X t1).2 ov) (hI : Is w1 d dn dc D) => distance_any w1 d dn dc D hI s1)
        generalize (dstS D E.bs (lthS E.bs X t1).2).1 = DV at *
        generalize (dstS D E.bs (lthS E.bs X t1).2).2 = t3 at *
        generalize (lthS E.bs X t1).1 = LV at *
        generalize (lthS E.bs X t1).2 = t2 at *
        have lt3 : X - 257 < 29 := by omega
        clear hB hK hi h2 lb hlw hnx HN HF
        go_wp2_with fail
        refine (unhide sc).mono ?_
        rintro e w1 ⟨rfl, s1, g1⟩
        have S1 := hide s1
        have vb := unhide VB w1 s1
        have vk := unhide VK w1 s1
        have wc := hide (unhide WC w1.drew s1.drew)
        have hix := unhide ix
        clear s1
        go_wp2_with fail
        go_region_with (go_at_call 47; refine (unhide wc).mono ?_; rintro e w2 ⟨rfl, s2, g2⟩)
        all_goals have DC2 := hide (unhide DC w2 s2 (unhide HD _ w2 (((unhide FR).trans ((g1.drew).fr oo1)).trans (g2.fr oo1))))
        all_goals clear s2
        all_goals go_wp2_with fail
        all_goals refine (unhide DC2).mono ?_
        all_goals rintro e w3 ⟨rfl, s3, g3⟩
        all_goals have CC := hide (copy_any w3 LV.toNat DV.toNat (by omega) (by omega) (fun q => by have := unhide dg q; omega) s3)
        all_goals rw [show ((LV.toNat : Nat) : Int) = LV by omega, show ((DV.toNat : Nat) : Int) = DV by omega] at CC
        all_goals clear s3
        all_goals go_wp2_with fail
        all_goals refine (unhide CC).mono ?_
        all_goals rintro e w4 ⟨rfl, oo4, oc4, s4, f4⟩
        all_goals have fn := hide ((unhide FN) w4 oo4 oc4 _ (unhide hx) (unhide hu) (by rw [unhide hcx]; exact s4) (((unhide FR).trans (((g1.drew).trans (g2.trans g3)).fr oo1)).trans f4))
        all_goals clear s4 f4
        all_goals go_wp2_with fail
        all_goals go_roundw
        all_goals first
          | exact (unhide fn).1
          | (rw [unhide hms]; exact (unhide fn).2)
      · have hx := hide (show cdS L D E.bs E.m f' (stopS 5 t1) = R by rw [← unhide hnx]; unfold cdX; rw [if_neg h1, if_neg h2, if_neg h3])
        have hu := hide (fun (q : (stopS 5 t1).e = 0) => (show t1.e = 0 ∧ t1.p ≤ (stopS 5 t1).p from absurd q (stopS_e 5 t1 (by omega))))
        clear h2
        go_wp2_with fail
        refine (unhide sc).mono ?_
        rintro e w1 ⟨rfl, s1, g1⟩
        have pc := hide (stop_any w1 5 (by omega) (by omega) s1)
        clear s1
        go_wp2_with fail
        refine (unhide pc).mono ?_
        rintro e w2 ⟨rfl, s2, g2⟩
        have fn := hide ((unhide FN) w2 oo1 oc1 _ (unhide hx) (unhide hu) s2 ((unhide FR).trans ((g1.trans g2).fr oo1)))
        clear s2
        go_wp2_with fail
        go_roundw
        case rel => exact (unhide fn).1
        case measure => rw [unhide hms]; exact (unhide fn).2
    · have he' : (t.e == 0) = false := by simpa using he
      have hfin := hide (show R = t by rw [← unhide HN]; exact cdS_dead he f)
      clear he
      go_wp2_with fail
      go_end0
      rw [unhide hfin]
      exact ⟨rfl, oo1, oc1, unhide ST, unhide FR⟩
end
end Go.Proofs.YtalkeooejobjhaaDoor
