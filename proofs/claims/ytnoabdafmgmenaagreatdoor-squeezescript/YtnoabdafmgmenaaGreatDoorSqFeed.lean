/-
  What step, Feed, Expect and New of package squeeze do: the plain functions qstep, qfeed and the like. Conditions: at most 1,000,000 bytes at a time, that lie apart from the reader; a most of at most 1,000; the tables hold what the program's text says.
-/
import Derived.Test.YtnoabdafmgmenaaGreatDoorSqStp
namespace Go.Proofs.YtnoabdafmgmenaaGreatDoor
open Go.RowKit
set_option linter.unusedVariables false
set_option linter.unusedSimpArgs false

theorem qstep_err {M : Int} {s : QS} {c : List Int} (h : (qstep M s c).2.2 ≠ 0) (e : Int) : qst e (qstep M s c).1 = qst e s := by
  unfold qstep at h ⊢
  split
  · rfl
  · split
    · rfl
    · split
      · rfl
      · split
        · rfl
        · rename_i h1 h2 h3 h4
          rw [if_neg h1, if_neg h2, if_neg h3, if_neg h4] at h
          exact absurd rfl h
theorem qstep_range (M : Int) (s : QS) (c : List Int) : 0 ≤ (qstep M s c).2.2 ∧ (qstep M s c).2.2 ≤ 100 := by
  have h1 := qE_range M { s with held := s.held ++ c }
  have h2 := qF_range (((s.held ++ c).drop 7).take (qN (s.held ++ c))) (qT (s.held ++ c))
  unfold qstep
  split
  · simp
  · split
    · exact h1
    · split
      · simp
      · split
        · exact h2
        · simp
theorem qstep_told {M : Int} {s : QS} {c : List Int} (hP : qP M s) (hk : Qok M s) (hb : Byt (s.held ++ c)) (h1 : c.length ≤ qM s) : (qstep M s c).2.1.length ≤ 2000 := by
  unfold qstep
  split
  · simp
  · rename_i h7
    obtain ⟨a1, a2⟩ := step_head hP h1 h7
    split
    · simp
    · rename_i hh
      split
      · simp
      · split
        · simp
        · have he : qE M { s with held := s.held ++ c } = 0 := by
            by_cases q : s.held.length < 7
            · by_cases e : qE M { s with held := s.held ++ c } = 0
              · exact e
              · exact absurd ⟨q, e⟩ hh
            · exact a1 q
          have hq := qN_le (s := { s with held := s.held ++ c }) hb he
          simp only at hq
          have hm := hk.m1
          have hl := qF_len (((s.held ++ c).drop 7).take (qN (s.held ++ c))) (qT (s.held ++ c))
          simp only [qfr]
          rw [List.length_take, List.length_drop] at hl
          omega

/-- What is changed besides is new. -/
theorem fs_new {S S' T T' : Nat → Prop} {w w2 w3 : World} (h : Fs S w S' w2) (k : Fs T w2 T' w3) (hT : ∀ k, T k → w.heap.size ≤ k) : Fs S w S' w3 :=
  ⟨k.os.trans h.os, k.tape.trans h.tape, k.output.trans h.output, Nat.le_trans h.size k.size, fun i hi hn => (k.block i (Nat.lt_of_lt_of_le hi h.size) (fun z => by have := hT i z; omega)).trans (h.block i hi hn), h.src⟩

section
variable {g : Nat} {M : Int} {ho : Option Addr} {hc : Nat} {s : QS}
/-- The tables lie below the reader. -/
theorem vars_fs {w w2 : World} {S S' : Nat → Prop} (hv : Vars w) (hlow : ∀ k, S k → 3 ≤ k) (f : Fs S w S' w2) : Vars w2 := hv.later (Nat.le_refl 3) (f.below hv.size hlow)
theorem low_fs {w w2 : World} {S S' : Nat → Prop} (hv : Vars w) (hlow : ∀ k, S k → 3 ≤ k) (f : Fs S w S' w2) : ∀ k, S' k → 3 ≤ k := fun k q => by
  rcases f.src k q with q | q
  · exact hlow k q
  · have := hv.size; omega

theorem qStep_any (w : World) (h : Rq w g M ho hc s) (hv : Vars w) (hlow : ∀ k, fq g ho k → 3 ≤ k) (hP : qP M s) (bo : Option Addr) (cn cc : Nat) (c : List Int) (hb : Bs w bo cn cc c) (h1 : 1 ≤ cn) (h2 : c.length ≤ qM s) (hap : ∀ k, ob bo k → ¬ fq g ho k) :
    Calls Tryz.prog 20 #[.pointer (some ⟨g, 0, none⟩), .slice bo cn cc] w fun e w' => OutSt w g M ho (qstep M s c) e w' := by
  obtain ⟨nx, l, y⟩ := s
  have hlen := hb.len
  have hby : Byt (l ++ c) := h.own.byt.app hb.byt
  have hvs : ∀ w2 ho2, Fs (fq g ho) w (fq g ho2) w2 → Vars w2 := fun w2 ho2 f => vars_fs hv hlow f
  have hbl : Byt l := h.own.byt
  have h107 := step_len hP h.ok hbl h2
  simp only at h107
  obtain ⟨l1, hl1⟩ : ∃ l1, l ++ c = l1 := ⟨_, rfl⟩
  have hll : l1.length = l.length + cn := by rw [← hl1, List.length_append]; omega
  unfold qstep
  simp only
  rw [hl1] at hby h107 ⊢
  by_cases h7 : l1.length < 7
  · rw [if_pos h7]
    exact step_short w h bo cn cc c hb hap l1 hl1 h7
  · obtain ⟨a1, a2⟩ := step_head hP h2 (by simp only; rw [hl1]; exact h7)
    simp only at a1 a2
    rw [hl1] at a1 a2
    rw [if_neg h7]
    by_cases he : qE M ⟨nx, l1, y⟩ = 0
    · have hq := qN_le (M := M) (s := ⟨nx, l1, y⟩) hby he
      simp only at hq
      have hm1 := h.ok.m1
      rw [if_neg (fun q => q.2 he)]
      by_cases hn : l1.length < 7 + qN l1
      · rw [if_pos hn]
        by_cases hl : l.length < 7
        · unfold qM at h2
          simp only at h2
          rw [if_pos hl] at h2
          exact step_begun w h bo cn cc c hb hap l1 hl1 (by omega) he (by omega)
        · exact step_more w h bo cn cc c hb hap l1 hl1 (by omega) h1 h107 hn
      · rw [if_neg hn]
        by_cases hl : l.length < 7
        · unfold qM at h2
          simp only at h2
          rw [if_pos hl] at h2
          by_cases hf : (qfr l1).2 = 0
          · rw [if_neg (by simpa using hf)]
            exact step_empty_fine w h bo cn cc c hb hap l1 hl1 (by omega) he (by omega) (by omega) hf hvs
          · rw [if_pos hf]
            exact step_empty_late w h bo cn cc c hb hap l1 hl1 (by omega) he (by omega) (by omega) hf hvs
        · by_cases hf : (qfr l1).2 = 0
          · rw [if_neg (by simpa using hf)]
            exact step_last_fine w h bo cn cc c hb hap l1 hl1 (by omega) h1 h107 (by omega) (by omega) hf hvs
          · rw [if_pos hf]
            exact step_last_late w h bo cn cc c hb hap l1 hl1 (by omega) h1 h107 (by omega) (by omega) hf hvs
    · have hl : l.length < 7 := by
        by_cases q : l.length < 7
        · exact q
        · exact absurd (a1 q) he
      rw [if_pos ⟨hl, he⟩]
      unfold qM at h2
      simp only at h2
      rw [if_pos hl] at h2
      exact step_bad w h bo cn cc c hb hap l1 hl1 (by omega) he

/-- Behind Feed. -/
def OutQ (w : World) (g : Nat) (M : Int) (ho : Option Addr) (R : QS × List Int × Int) (e : Ending) (w' : World) : Prop :=
  ∃ to tn tc ho' hc', e = .returned (.tuple #[.slice to tn tc, .int .i64 R.2.2]) ∧ Mine w.heap.size w' to tn tc R.2.1 ∧ (∀ k, ob to k → ¬ fq g ho' k) ∧ Rq w' g M ho' hc' R.1 ∧ Fs (fq g ho) w (fq g ho') w'
/-- A slice's length. -/
def slnQ : Value → Nat
  | .slice _ n _ => n
  | _ => 0

set_option maxHeartbeats 8000000 in
set_option maxRecDepth 20000 in
theorem qFeed_any (w : World) (h : Rq w g M ho hc s) (hv : Vars w) (hlow : ∀ k, fq g ho k → 3 ≤ k) (hP : s.why = 0 → qP M s) (bo : Option Addr) (bn bc : Nat) (bs : List Int) (hb : Bs w bo bn bc bs) (hbn : bn ≤ 1000000) (hap : ∀ k, ob bo k → k < w.heap.size ∧ ¬ fq g ho k) :
    Calls Tryz.prog 10 #[.pointer (some ⟨g, 0, none⟩), .slice bo bn bc] w fun e w' => OutQ w g M ho (qfeed M s bs) e w' := by
  have c3 := h.c3
  have cm := hide (qMade_any w h)
  have hw0 := h.ok.w0
  have hble := hb.le
  have hbmx := hb.max
  obtain ⟨R, hR⟩ : ∃ R, R = qfeed M s bs := ⟨_, rfl⟩
  rw [← hR]
  by_cases a1 : s.why = 0
  · have b1 : (s.why != 0) = false := by rw [bne_eq_false_iff_eq]; exact a1
    have hPs := hP a1
    have HR0 := hide (show R = ql M (s.held ++ bs).length { s with held := s.held ++ bs } [] by rw [hR]; unfold qfeed; rw [if_neg (by simpa using a1)])
    have HR := hide h
    have HB := hide hb
    have HA := hide hap
    have HV := hide hv
    have HLO := hide hlow
    have HPS := hide hPs
    have HLEN := hide hb.len
    have HWY := hide a1
    clear h hb hap hv hlow hP hPs hR a1
    go_enter Tryz.func10, Tryz.ntmps10
    go_wp2_with (go_at_call 18; refine same_world (unhide cm) ?_)
    go_loopw [1, 6] (fun bv tv wr => ∃ (f a L : Nat) (s' : QS) (t : List Int) (ao : Option Addr) (ac : Nat) (to : Option Addr) (tn tc : Nat) (ho1 : Option Addr) (hc1 : Nat), a ≤ bn ∧ bn - a = L ∧ bv = .slice ao L ac ∧ tv = .slice to tn tc ∧ (s'.held ++ bs.drop a).length ≤ f ∧ R = ql M f { s' with held := s'.held ++ bs.drop a } t ∧ qP M s' ∧ s'.why = 0 ∧ Bs wr ao L ac (bs.drop a) ∧ (∀ k, ob ao k → ob bo k) ∧ Mine w.heap.size wr to tn tc t ∧ (∀ k, ob to k → ¬ fq g ho1 k) ∧ Rq wr g M ho1 hc1 s' ∧ Fs (fq g ho) w (fq g ho1) wr ∧ tn ≤ 2000 * a) (fun bv _ _ => slnQ bv)
    case atStart => exact ⟨_, 0, bn, s, [], bo, bc, none, 0, 0, ho, hc, by omega, by omega, rfl, rfl, by rw [List.drop_zero]; exact Nat.le_refl _, by rw [List.drop_zero]; exact unhide HR0, unhide HPS, unhide HWY, by rw [List.drop_zero]; exact unhide HB, fun k q => q, Mine.nought _ _, fun k q => absurd q ob_none, unhide HR, Fs.refl _ _, by omega⟩
    case round =>
      clear HR0 HR HB HPS HWY c3 cm b1 hw0
      obtain ⟨f, a, L, s', t, ao, ac, to, tn, tc, ho1, hc1, ha, hL, rfl, rfl, hf, hRr, hPr, hwr, hBr, hao, hMt, hdt, hRq, hFr, htl⟩ := hrel
      have hLle := hBr.le
      have hLmx := hBr.max
      have hBl := hBr.len
      have hMl := hMt.len
      have hvr := vars_fs (unhide HV) (unhide HLO) hFr
      have hlr := low_fs (unhide HV) (unhide HLO) hFr
      by_cases hL0 : 0 < L
      · have hL0' : (0 : Int) < (L : Int) := by omega
        have hqp := qM_pos hPr
        have cmi := hide (qMissing_any wr hRq (fun q => by
          rcases hPr with z | z
          · exact absurd z q
          · have := z.2; omega))
        obtain ⟨n, hn⟩ : ∃ n : Nat, n = min L (qM s') := ⟨_, rfl⟩
        have hnL : n ≤ L := by omega
        have hn1 : 1 ≤ n := by omega
        obtain ⟨Qi, hQi⟩ : ∃ Qi : Int, (qM s' : Int) = Qi := ⟨_, rfl⟩
        rw [hQi] at cmi
        have k1 : (if (L : Int) < Qi then (L : Int) else Qi) = (n : Int) := by split <;> omega
        have k2 : (if Qi < (L : Int) then Qi else (L : Int)) = (n : Int) := by split <;> omega
        have cut1 := run_cut_h ao L ac n (by omega) (n : Int) rfl
        have cut2 := run_cut_l ao L ac n hnL (n : Int) rfl
        simp only [Nat.sub_zero] at cut1
        have hC1 := hBr.cut (Nat.zero_le n) hnL
        have hC2 := hBr.cut hnL (Nat.le_refl L)
        simp only [Nat.sub_zero, List.drop_zero] at hC1
        rw [List.take_of_length_le (by rw [List.length_drop]; omega), List.drop_drop] at hC2
        have ho1' : ∀ k, ob (cutAt ao ac 0) k → ob bo k := fun k q => hao k (ob_cut q)
        have ho2' : ∀ k, ob (cutAt ao ac n) k → ob bo k := fun k q => hao k (ob_cut q)
        generalize cutAt ao ac 0 = a1 at *
        generalize cutAt ao ac n = a2 at *
        generalize ac - n = ac2 at *
        have hdr : (bs.drop a).drop n = bs.drop (a + n) := by rw [List.drop_drop]
        have hbf : ∀ k, ob bo k → ¬ fq g ho1 k := fun k q z => by
          have := unhide HA k q
          rcases hFr.src k z with z | z
          · exact this.2 z
          · omega
        have htk : ((bs.drop a).take n).length = n := by rw [List.length_take]; omega
        have hnq : n ≤ qM s' := by omega
        have hqs := qstep_ql M s' (bs.drop a) t f n hPr hn1 (by omega) (by omega) (by omega) hf
        have hrg := qstep_range M s' ((bs.drop a).take n)
        have htd := qstep_told (c := (bs.drop a).take n) hPr hRq.ok (hRq.own.byt.app hC1.byt) (by rw [htk]; exact hnq)
        have her := fun (q : (qstep M s' ((bs.drop a).take n)).2.2 ≠ 0) => qstep_err q (qstep M s' ((bs.drop a).take n)).2.2
        have cst := hide (fun j => qStep_any (wr.drewN j) (hRq.drewN j) (hvr.low (below_drewN wr j)) hlr hPr a1 n ac ((bs.drop a).take n) (hC1.drewN j) hn1 (by rw [htk]; exact hnq) (fun k q => hbf k (ho1' k q)))
        have HC2 := hide hC2
        have HMT := hide hMt
        have HDT := hide hdt
        have HRQ := hide hRq
        have HFR := hide hFr
        have HBF := hide hbf
        have HO2 := hide ho2'
        have HDR := hide hdr
        clear hBr hao hMt hdt hRq hFr hC1 hC2 hvr hlr hbf ho1' ho2' hdr hf hPr hBl hqp hQi hn htk hnq
        generalize qstep M s' ((bs.drop a).take n) = Y at *
        obtain ⟨y1, y2, y3⟩ := Y
        simp only at hqs hrg htd her cst
        by_cases ae : y3 = 0
        · subst ae
          obtain ⟨hP', hw', f', hf', hR'⟩ := hqs.2 rfl
          have HP' := hide (And.intro hP' (hw'.trans hwr))
          have HF' := hide hf'
          have HR' := hide (hRr.trans hR')
          clear hqs her hP' hw' hf' hR' hRr hwr
          go_wp2_with (first
            | (go_at_call 19; refine (unhide cmi).mono ?_; rintro e wx ⟨rfl, j, rfl⟩)
            | (go_at_call 20; refine (unhide cst j).mono ?_; rintro e w2 ⟨pa, pn, pcc, ho2, hc2, rfl, hbp, hop, hr2, hf2⟩; have hpl := hbp.len; simp only at hpl hbp hr2; have T2 := hide (((unhide HMT).later (below_drewN wr j)).fs hf2 (unhide HDT)); have BP := hide hbp; have OP := hide hop; have R2 := hide hr2; have F2 := hide hf2; clear hbp hop hr2 hf2)
            | (at_builtin; refine wpList_appS rfl (.tmp 41) (.tmp 42) rfl w.heap.size _ _ _ _ rfl (unhide T2) _ _ _ _ rfl (unhide BP) (by omega) (Nat.le_trans (unhide HFR).size (unhide F2).size) ?_; intro to3 tc3 w3 m3 f3; have M3 := hide m3; have F3 := hide f3; clear m3 f3))
          have hz2 := (unhide F2).size
          have hdt2 : ∀ k, ob to k → ¬ fq g ho2 k := fun k q z => by
            rcases (unhide F2).src k z with z | z
            · exact unhide HDT k q z
            · have := ((unhide HMT).ob q).2; simp at z; omega
          have R3 := (unhide R2).fs (unhide F3) (fun k q z => hdt2 k z q)
          have F23 : Fs (fq g ho) w (fq g ho2) w3 := fs_new ((unhide HFR).trans (unhide F2).undrewN) (unhide F3) (fun k q => ((unhide HMT).ob q).1)
          have hb2 : ∀ k, ob bo k → ¬ fq g ho2 k := fun k q z => by
            rcases (unhide F2).src k z with z | z
            · exact unhide HBF k q z
            · have := (unhide HA k q).1; have := (unhide HFR).size; simp at z; omega
          have B3 := (((unhide HC2).drewN j).fs (unhide F2) (fun k q => unhide HBF k (unhide HO2 k q))).fs (unhide F3) (fun k q z => by have := ((unhide HMT).ob z).1; have := (unhide HA k (unhide HO2 k q)).1; omega)
          go_roundw
          case rel =>
            refine ⟨f', a + n, L - n, y1, t ++ y2, a2, ac2, to3, tn + pn, tc3, ho2, hc2, by omega, by omega, rfl, rfl, by rw [← unhide HDR]; exact unhide HF', by rw [← unhide HDR]; exact unhide HR', (unhide HP').1, (unhide HP').2, B3, unhide HO2, unhide M3, fun k q z => ?_, R3, F23, by omega⟩
            rcases (unhide F3).src k q with q | q
            · exact hdt2 k q z
            · have := (unhide R2).ltf z; omega
          case measure => simp [slnQ]; omega
        · have be : (y3 != 0) = true := by rw [bne_iff_ne]; exact ae
          have HR' := hide (hRr.trans (hqs.1 ae))
          have HER := hide (her ae)
          clear hqs her hRr hwr ae
          go_wp2_with (first
            | (go_at_call 19; refine (unhide cmi).mono ?_; rintro e wx ⟨rfl, j, rfl⟩)
            | (go_at_call 20; refine (unhide cst j).mono ?_; rintro e w2 ⟨pa, pn, pcc, ho2, hc2, rfl, hbp, hop, hr2, hf2⟩; simp only at hr2; have T2 := hide (((unhide HMT).later (below_drewN wr j)).fs hf2 (unhide HDT)); have R2 := hide hr2; have F2 := hide hf2; clear hbp hop hr2 hf2)
            | (go_at_call 21; refine (qStop_any w2 (unhide R2) y3 hrg.1 hrg.2).mono ?_; rintro e w3 ⟨rfl, r3, g3⟩; have R3 := hide r3; have G3 := hide g3; clear r3 g3))
          go_ret2
          rw [unhide HR']
          have F3 : Fs (fq g ho2) w2 (fq g none) w3 := (Fs.gb (S := fq g ho2) (unhide G3) (.inl rfl)).weak (fun k q => q) (fun k q => .inl (by rcases q with q | q; exact .inl q; exact absurd q ob_none))
          have hg : g < wr.heap.size := (unhide HRQ).lt
          have hnt : ∀ k, ob to k → ¬ fq g none k := fun k q z => by
            rcases z with z | z
            · exact unhide HDT k q (.inl z)
            · exact ob_none z
          refine ⟨to, tn, tc, none, 0, rfl, (unhide T2).keepB fun k q => (unhide G3).block k ((unhide T2).ob q).2 (fun e => hnt k q (.inl e)), hnt, ?_, ((unhide HFR).trans (unhide F2).undrewN).trans F3⟩
          have r3 := unhide R3
          rw [unhide HER] at r3
          exact r3
      · have hL0' : ¬ (0 : Int) < (L : Int) := by omega
        have hda : bs.drop a = [] := List.drop_eq_nil_of_le (by rw [unhide HLEN]; omega)
        have HR' := hide (show R = (s', t, 0) by rw [hRr, hda, List.append_nil]; exact hPr.ql f t)
        have HMT := hide hMt
        have HDT := hide hdt
        have HRQ := hide hRq
        have HFR := hide hFr
        clear hBr hao hMt hdt hRq hFr hRr hf hPr hwr hvr hlr
        go_wp2_with fail
        go_ret2
        rw [unhide HR']
        exact ⟨to, tn, tc, ho1, hc1, rfl, unhide HMT, unhide HDT, unhide HRQ, unhide HFR⟩
  · have b1 : (s.why != 0) = true := by rw [bne_iff_ne]; exact a1
    have HR0 := hide (show R = (s, [], 9) by rw [hR]; unfold qfeed; rw [if_pos a1])
    have HR := hide h
    clear h hb hap hv hlow hP hR a1
    go_enter Tryz.func10, Tryz.ntmps10
    go_wp2_with (go_at_call 18; refine same_world (unhide cm) ?_)
    go_ret2
    rw [unhide HR0]
    exact ⟨none, 0, 0, ho, hc, rfl, Mine.nought _ _, fun k q => absurd q ob_none, unhide HR, Fs.refl _ _⟩

/-- What Expect answers, and leaves. -/
def qxE (s : QS) : Int := if s.why ≠ 0 then 9 else if 0 < s.held.length then 5 else 0
def qxS (s : QS) (q : Int) : QS := if qxE s = 0 then { s with nx := q } else s

set_option maxHeartbeats 1000000 in
theorem qExpect_any (w : World) (h : Rq w g M ho hc s) (q : Int) (q0 : 0 ≤ q) (q1 : q ≤ 255) :
    Calls Tryz.prog 8 #[.pointer (some ⟨g, 0, none⟩), .int .u8 q] w fun e w' => e = .returned (.int .i64 (qxE s)) ∧ Rq w' g M ho hc (qxS s q) ∧ Gb g w w' := by
  have c1 := h.c1
  have c2 := h.c2
  have c3 := h.c3
  have f1 := h.free 1
  have cm := hide (qMade_any w h)
  have HN := hide (h.numbered q q0 q1)
  have HR := hide h
  clear h
  by_cases a1 : s.why = 0
  · have b1 : (s.why != 0) = false := by rw [bne_eq_false_iff_eq]; exact a1
    by_cases a2 : 0 < s.held.length
    · have hE : qxE s = 5 := by unfold qxE; rw [if_neg (by simpa using a1), if_pos a2]
      have hX : qxS s q = s := by unfold qxS; rw [hE]; rfl
      rw [hE, hX]
      clear hE hX a1 HN
      generalize s.held.length = H at *
      have a2' : (0 : Int) < (H : Int) := by omega
      go_enter Tryz.func8, Tryz.ntmps8
      go_wp2_with (go_at_call 18; refine same_world (unhide cm) ?_)
      go_ret
      exact ⟨rfl, unhide HR, Gb.refl g w⟩
    · have hE : qxE s = 0 := by unfold qxE; rw [if_neg (by simpa using a1), if_neg a2]
      have hX : qxS s q = { s with nx := q } := by unfold qxS; rw [hE]; rfl
      rw [hE, hX]
      clear hE hX a1 HR
      generalize s.held.length = H at *
      have a2' : ¬ (0 : Int) < (H : Int) := by omega
      go_enter Tryz.func8, Tryz.ntmps8
      go_wp2_with (go_at_call 18; refine same_world (unhide cm) ?_)
      go_ret
      exact ⟨rfl, unhide HN, (Gb.refl g w).set 1 _⟩
  · have b1 : (s.why != 0) = true := by rw [bne_iff_ne]; exact a1
    have hE : qxE s = 9 := by unfold qxE; rw [if_pos a1]
    have hX : qxS s q = s := by unfold qxS; rw [hE]; rfl
    rw [hE, hX]
    clear hE hX a1 HN
    go_enter Tryz.func8, Tryz.ntmps8
    go_wp2_with (go_at_call 18; refine same_world (unhide cm) ?_)
    go_ret
    exact ⟨rfl, unhide HR, Gb.refl g w⟩
end

/-- A new reader. -/
def qz : QS := ⟨0, [], 0⟩
set_option maxHeartbeats 1000000 in
theorem qNew_ok (M : Int) (w : World) (m0 : 1 ≤ M) (m1 : M ≤ 1000) (cm : ∀ w, Calls Tryz.prog 17 #[.int .i64 M] w fun e w' => e = .returned (.bool (decide (1 ≤ M ∧ M ≤ 16777215))) ∧ w' = w) :
    Calls Tryz.prog 5 #[.int .i64 M] w fun e w' => e = .returned (.tuple #[.pointer (some ⟨w.heap.size, 0, none⟩), .int .i64 0]) ∧ Rq w' w.heap.size M none 0 qz ∧ Below w.heap.size w w' := by
  have cm' := hide cm
  rw [show decide (1 ≤ M ∧ M ≤ 16777215) = true by simp; omega] at cm'
  clear cm
  go_enter Tryz.func5, Tryz.ntmps5
  go_wp2_with (go_at_call 17; refine same_world (unhide cm' _) ?_)
  go_ret2
  exact ⟨rfl, ⟨heap_alloc_new w _, Mine.nought _ _, ob_none, ⟨m0, m1, by simp [qz], by simp [qz], by simp [qz], by simp [qz], by simp [qz]⟩⟩, below_alloc w _⟩
set_option maxHeartbeats 1000000 in
theorem qNew_bad (M : Int) (w : World) (hm : M < 1 ∨ 16777215 < M) (cm : ∀ w, Calls Tryz.prog 17 #[.int .i64 M] w fun e w' => e = .returned (.bool (decide (1 ≤ M ∧ M ≤ 16777215))) ∧ w' = w) :
    Calls Tryz.prog 5 #[.int .i64 M] w fun e w' => e = .returned (.tuple #[.pointer none, .int .i64 2]) ∧ w' = w := by
  have cm' := hide cm
  rw [show decide (1 ≤ M ∧ M ≤ 16777215) = false by simp; omega] at cm'
  clear cm hm
  go_enter Tryz.func5, Tryz.ntmps5
  go_wp2_with (go_at_call 17; refine same_world (unhide cm' _) ?_)
  go_ret2
  exact ⟨rfl, rfl⟩
end Go.Proofs.YtnoabdafmgmenaaGreatDoor
