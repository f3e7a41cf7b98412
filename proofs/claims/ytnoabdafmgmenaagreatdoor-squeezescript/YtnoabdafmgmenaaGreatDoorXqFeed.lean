/-
  What Feed of the document's squeezed reader does: what the program's does. Conditions: the state's own bounds; a most of at most 1,000; at most 1,500 bytes are fed.
-/
import Derived.Test.YtnoabdafmgmenaaGreatDoorXqRd
import Derived.BigQuiet
namespace Go.Proofs.YtnoabdafmgmenaaGreatDoor
open Go.RowKit
set_option linter.unusedVariables false
set_option linter.unusedSimpArgs false

/-- Behind the document's Feed. -/
def OutX (w : World) (g : Nat) (M : Int) (xo : Option Addr) (R : QS × List Int × Int) (e : Ending) (w' : World) : Prop :=
  ∃ po pn pc xo' xc', e = .returned (.tuple #[.slice po pn pc, .int .i64 R.2.2]) ∧ Mine w.heap.size w' po pn pc R.2.1 ∧ (∀ k, ob po k → ¬ fq g xo' k) ∧ Xq w' g M xo' xc' R.1 ∧ Fs (fq g xo) w (fq g xo') w'
theorem Fs.over {S S' T T' : Nat → Prop} {w w5 w6 : World} (h : Fs S w S' w5) (f : Fs T w5 T' w6) (hT : ∀ k, T k → w.heap.size ≤ k) : Fs S w S' w6 :=
  ⟨f.os.trans h.os, f.tape.trans h.tape, f.output.trans h.output, Nat.le_trans h.size f.size, fun k hk hn => (f.block k (Nat.lt_of_lt_of_le hk h.size) (fun q => by have := hT k q; omega)).trans (h.block k hk hn), h.src⟩
theorem qF_none (b : List Int) (t : Nat) (h : (qF b t).2 ≠ 0) : (qF b t).1 = [] := by
  unfold qF at h ⊢
  split
  · rename_i q
    rw [if_pos q] at h
    exact absurd rfl h
  · rename_i q
    rw [if_neg q] at h
    split
    · rfl
    · rename_i q2
      rw [if_neg q2] at h
      split
      · rfl
      · rename_i q3
        rw [if_neg q3] at h
        exact absurd rfl h
def hlA (g : Nat) (w : World) : Nat := match w.cell? ⟨g, 2, none⟩ with | some (.slice _ n _) => n | _ => 0
/-- What holds at the loop's head. -/
def RelX (w : World) (g : Nat) (M : Int) (xo : Option Addr) (R : QS × List Int × Int) (v : Value) (ws : World) : Prop :=
  ∃ (s' : QS) (t : List Int) (f : Nat) (xo' : Option Addr) (xc' : Nat) (po' : Option Addr) (pc' : Nat), v = .slice po' t.length pc' ∧ ql M f s' t = R ∧ s'.held.length ≤ f ∧ s'.why = 0 ∧ t.length + 300 * s'.held.length ≤ 900000 ∧ Xq ws g M xo' xc' s' ∧ Mine w.heap.size ws po' t.length pc' t ∧ (∀ k, ob po' k → ¬ fq g xo' k) ∧ Fs (fq g xo) w (fq g xo') ws

section
variable {g : Nat} {M : Int} {xo : Option Addr} {xc : Nat} {s : QS}
theorem Xq.hlA {w : World} (h : Xq w g M xo xc s) : hlA g w = s.held.length := by unfold Proofs.YtnoabdafmgmenaaGreatDoor.hlA; rw [h.c2]

set_option maxHeartbeats 8000000 in
set_option maxRecDepth 20000 in
theorem xqFeed_any (w : World) (h : Xq w g M xo xc s) (hP : s.held.length ≤ 1007) (bo : Option Addr) (bn bc : Nat) (bs : List Int) (hb : Bs w bo bn bc bs) (hbn : bn ≤ 1500) :
    Calls Tryz.prog 11 #[.pointer (some ⟨g, 0, none⟩), .slice bo bn bc] w fun e w' => OutX w g M xo (qfeed M s bs) e w' := by
  have c3 := h.c3
  have hgl := h.lt
  by_cases hw : s.why = 0
  case neg =>
    have hw' : (s.why != 0) = true := by simpa using hw
    have hR := hide (show qfeed M s bs = (s, [], 9) by unfold qfeed; rw [if_pos hw])
    have H := hide h
    clear h hb hw
    go_enter Tryz.func11, Tryz.ntmps11
    go_wp2_with fail
    go_ret2
    rw [unhide hR]
    exact ⟨none, 0, 0, xo, xc, rfl, Mine.nought _ _, fun k q => absurd q ob_none, unhide H, Fs.refl _ _⟩
  have hw' : (s.why != 0) = false := by simpa using hw
  obtain ⟨R, hR⟩ : ∃ R, qfeed M s bs = R := ⟨_, rfl⟩
  have HR := hide (show ql M (s.held ++ bs).length { s with held := s.held ++ bs } [] = R by rw [← hR]; unfold qfeed; rw [if_neg (by simpa using hw)])
  rw [hR]
  clear hR
  have hbl := hb.len
  have B0 := hide (below_alloc w (.cells #[] 5))
  have M0 := hide (Mine.empty w)
  have X0 := hide (h.later (below_alloc w (.cells #[] 5)))
  have c2 := (unhide X0).c2
  have HBB := hide hb
  have HW := hide hw
  have hlt := h.hlt
  clear h hb hw
  have hnew : ∀ k, fq g xo k → ¬ ob (some ⟨w.heap.size, 0, none⟩) k := fun k q r => by
    rw [ob_some] at r
    simp at r
    rcases q with q | q
    · omega
    · have := hlt k q; omega
  go_enter Tryz.func11, Tryz.ntmps11
  go_upto_region 4 with (first
    | (at_builtin; refine wpList_appS rfl (.tmp 17) (.tmp 21) rfl w.heap.size _ 0 0 [] rfl (unhide M0) xo s.held.length xc s.held rfl (unhide X0).b (by omega) (by simp) ?_; intro a1 k1 w1 m1 f1; rw [Nat.zero_add, List.nil_append] at m1; have M1 := hide m1; have z1 := f1.size; have X1 := hide ((unhide X0).fs f1 hnew); have B1 := hide ((unhide B0).trans (f1.below (B := w.heap.size) (by simp) (fun k q => by rw [ob_some] at q; simp at q; omega))); have HB1 := hide ((unhide HBB).later (unhide B1)); clear m1 f1)
    | (at_builtin; refine wpList_appS rfl (.tmp 22) (.tmp 23) rfl w.heap.size a1 s.held.length k1 s.held rfl (unhide M1) bo bn bc bs rfl (unhide HB1) (by omega) (by simp at z1; omega) ?_; intro a2 k2 w2 m2 f2; have M2 := hide m2; have z2 := f2.size; have hob1 := hide (fun k (q : ob a1 k) => ((unhide M1).ob q).1); have X2 := hide ((unhide X1).fs f2 (fun k q r => by have := unhide hob1 k r; rcases q with q | q; omega; have := hlt k q; omega)); have B2 := hide ((unhide B1).trans (f2.below (B := w.heap.size) (by simp at z1; omega) (fun k q => unhide hob1 k q))); clear m2 f2; have d2 := (unhide X2).c2; have d2f := (unhide X2).free 2))
  have hga : ¬ ob a2 g := fun q => by have := ((unhide M2).ob q).1; omega
  have X3 := hide ((unhide X2).reheld (unhide M2).bs hga (fun k q => ((unhide M2).ob q).2) (by simp; omega))
  have F3 := hide (show Fs (fq g xo) w (fq g a2) (w2.setCell ⟨g, 2, none⟩ (.slice a2 (s.held.length + bn) k2)) from
    (Fs.of (S' := fq g a2) (unhide B2) (fun k q => q.elim (fun e => .inl (.inl e)) (fun e => .inr ((unhide M2).ob e).1))).set (.inl rfl) 2 _)
  clear M1 M2 X1 X2 X0 B0 B1 B2 M0 hob1 d2 d2f z1 z2 HB1 HBB hnew hga c2 c3
  generalize w2.setCell ⟨g, 2, none⟩ (.slice a2 (s.held.length + bn) k2) = wS at *
  go_wp2_with fail
  go_loopw [6] (fun v ws => RelX w g M xo R v ws) (fun _ ws => hlA g ws)
  case atStart => exact ⟨_, [], (s.held ++ bs).length, a2, k2, none, 0, rfl, unhide HR, Nat.le_refl _, unhide HW, by simp; omega, unhide X3, Mine.nought _ _, fun k q => absurd q ob_none, unhide F3⟩
  case round =>
    clear X3 F3 HR HW
    obtain ⟨s', t, f, xo', xc', po', pc', rfl, hql, hf, hwhy, hbd, st, mt, hdis, fs⟩ := hrel
    have d0 := st.c0
    have d1 := st.c1
    have d2 := st.c2
    have d3 := st.c3
    rw [hwhy] at d3
    have hl := st.ok.hl
    have hm0 := st.ok.m0
    have hm1 := st.ok.m1
    have hn0 := st.ok.n0
    have hn1 := st.ok.n1
    have hms := hide st.hlA
    have hle := st.b.le
    have hmx := st.b.max
    have HQL := hide hql
    have XA := hide st
    have MA := hide mt
    have HD := hide hdis
    have FA := hide fs
    have HS0 := hide (show ({ s' with why := 0 } : QS) = s' by rw [← hwhy])
    by_cases h7 : s'.held.length < 7
    · have h7' : ¬ (7 : Int) ≤ (s'.held.length : Int) := by omega
      have hR := hide (show R = (s', t, 0) by rw [← hql]; exact ql_short h7)
      clear hql st mt hdis fs
      go_wp2_with fail
      go_ret2
      rw [unhide hR]
      exact ⟨po', _, pc', xo', xc', rfl, unhide MA, unhide HD, unhide XA, unhide FA⟩
    · have h7' : (7 : Int) ≤ (s'.held.length : Int) := by omega
      obtain ⟨a4, k4, hc4, hi4, hob4⟩ := st.b.cut_lo (lo := 4) (by omega) 4 rfl
      have hle4 := hi4.le
      have t1 := hide (fun j => three_rd (wr.drewN j) xo' s'.held.length xc' s'.held (st.drewN j).b (by omega))
      have t2 := hide (fun j => three_rd (wr.drewN j) a4 (s'.held.length - 4) k4 (s'.held.drop 4) (hi4.drewN j) (by omega))
      have hby := st.b.byt
      have nb := val_bounds hby 3
      have tb := val_bounds (hby.drop 4) 3
      have hqn := qN_int hby
      have hqt := qT_int hby
      have hEd := hide (show qE M s' = if M < val s'.held 3 then 5 else if M < val (s'.held.drop 4) 3 then 5 else if s'.held.getD 3 0 ≠ s'.nx then 6 else 0 from rfl)
      obtain ⟨p3, q3, i3, e3⟩ := st.b.idx (i := 3) (by omega) 3 rfl
      have E3 := hide e3
      have y3b := hby.at 3
      have hyd : s'.held.getD 3 0 = s'.held[3]?.getD 0 := by simp
      rw [hyd] at hEd
      clear hql st mt hdis fs hi4 hob4 e3 hby hyd
      generalize val s'.held 3 = N at *
      generalize val (s'.held.drop 4) 3 = T at *
      generalize s'.held[3]?.getD 0 = Y at *
      have hN0 := nb.1
      have hN1 := nb.2
      have hT0 := tb.1
      have hT1 := tb.2
      clear nb tb
      go_wp2_with fail
      go_quiet (first | (go_at_call 22; with_reducible show Calls _ _ #[.slice xo' _ _] _ _; refine Calls.quiet_of (unhide t1 _)) | (go_at_call 22; refine Calls.quiet_of (unhide t2 _)))
      replace XA := hide ((unhide XA).drewN nq)
      replace MA := hide ((unhide MA).later (dr_below _ nq))
      replace FA := hide ((unhide FA).drewN nq)
      replace E3 := hide (show (wr.drewN nq).cell? ⟨p3, q3, none⟩ = some (.int .u8 Y) from unhide E3)
      replace d0 := (unhide XA).c0
      replace d1 := (unhide XA).c1
      replace d2 := (unhide XA).c2
      replace d3 := (unhide XA).c3
      rw [hwhy] at d3
      have d3f := (unhide XA).free 3
      clear t1 t2 hc4 hle4
      generalize wr.drewN nq = wa at *
      by_cases b1 : M < N
      · have hE : qE M s' = 5 := by rw [unhide hEd, if_pos b1]
        have HE := hide hE
        clear hE
        have hR := hide (show R = (qst 5 s', t, 5) by rw [← unhide HQL, ql_err hf h7 (by rw [unhide HE]; decide), unhide HE])
        have XH := (unhide XA).halted 5 (by omega) (by omega)
        have XF := hide (XH.reheld (Bs.nought _) ob_none (fun k q => absurd q ob_none) (by simp))
        have y2 := XH.c2
        have y2f := XH.free 2
        have y3 := (unhide XF).c3
        have FF := hide (((unhide FA).set (g := g) (.inl rfl) 3 (.int .i64 5)).set (g := g) (.inl rfl) 2 (.slice none 0 0))
        have MF := hide (((unhide MA).keepB (w' := wa.setCell ⟨g, 3, none⟩ (.int .i64 5)) (fun k q => heap_setCell_other wa ⟨g, 3, none⟩ k _ (fun e => unhide HD k q (.inl e)))).keepB (w' := (wa.setCell ⟨g, 3, none⟩ (.int .i64 5)).setCell ⟨g, 2, none⟩ (.slice none 0 0)) (fun k q => heap_setCell_other _ ⟨g, 2, none⟩ k _ (fun e => unhide HD k q (.inl e))))
        clear XH
        go_wp2_with fail
        go_quiet (fail)
        go_wp2_with fail
        go_ret2
        rw [unhide hR]
        exact ⟨po', _, pc', none, 0, rfl, (unhide MF).later (dr_below _ _), fun k q r => unhide HD k q (r.imp id fun z => absurd z ob_none), (unhide XF).drewN _, ((unhide FF).weak (fun k q => q) (fun k q => .inr (q.imp id fun z => absurd z ob_none))).drewN _⟩
      · by_cases b2 : M < T
        · have hE : qE M s' = 5 := by rw [unhide hEd, if_neg b1, if_pos b2]
          have HE := hide hE
          clear hE
          have hR := hide (show R = (qst 5 s', t, 5) by rw [← unhide HQL, ql_err hf h7 (by rw [unhide HE]; decide), unhide HE])
          have XH := (unhide XA).halted 5 (by omega) (by omega)
          have XF := hide (XH.reheld (Bs.nought _) ob_none (fun k q => absurd q ob_none) (by simp))
          have y2 := XH.c2
          have y2f := XH.free 2
          have y3 := (unhide XF).c3
          have FF := hide (((unhide FA).set (g := g) (.inl rfl) 3 (.int .i64 5)).set (g := g) (.inl rfl) 2 (.slice none 0 0))
          have MF := hide (((unhide MA).keepB (w' := wa.setCell ⟨g, 3, none⟩ (.int .i64 5)) (fun k q => heap_setCell_other wa ⟨g, 3, none⟩ k _ (fun e => unhide HD k q (.inl e)))).keepB (w' := (wa.setCell ⟨g, 3, none⟩ (.int .i64 5)).setCell ⟨g, 2, none⟩ (.slice none 0 0)) (fun k q => heap_setCell_other _ ⟨g, 2, none⟩ k _ (fun e => unhide HD k q (.inl e))))
          clear XH
          go_wp2_with fail
          go_quiet (fail)
          go_wp2_with fail
          go_ret2
          rw [unhide hR]
          exact ⟨po', _, pc', none, 0, rfl, (unhide MF).later (dr_below _ _), fun k q r => unhide HD k q (r.imp id fun z => absurd z ob_none), (unhide XF).drewN _, ((unhide FF).weak (fun k q => q) (fun k q => .inr (q.imp id fun z => absurd z ob_none))).drewN _⟩
        · by_cases b3 : Y = s'.nx
          · have b3' : (Y != s'.nx) = false := by simpa using b3
            have hE : qE M s' = 0 := by rw [unhide hEd, if_neg b1, if_neg b2, if_neg (by simpa using b3)]
            have HE := hide hE
            have e3 := unhide E3
            clear hE b3
            go_upto_region 9 with fail
            go_quiet (fail)
            replace XA := hide ((unhide XA).drewN nq)
            replace MA := hide ((unhide MA).later (dr_below _ nq))
            replace FA := hide ((unhide FA).drewN nq)
            replace d0 := (unhide XA).c0
            replace d1 := (unhide XA).c1
            replace d2 := (unhide XA).c2
            replace d3 := (unhide XA).c3
            rw [hwhy] at d3
            replace d3f := (unhide XA).free 3
            clear e3 E3
            generalize wa.drewN nq = wb at *
            obtain ⟨n, hn⟩ : ∃ n, qN s'.held = n := ⟨_, rfl⟩
            obtain ⟨tt, htt⟩ : ∃ tt, qT s'.held = tt := ⟨_, rfl⟩
            rw [hn] at hqn
            rw [htt] at hqt
            subst hqn
            subst hqt
            by_cases b4 : s'.held.length < 7 + n
            · have b4' : (s'.held.length : Int) < 7 + (n : Int) := by omega
              have hR := hide (show R = (s', t, 0) by rw [← unhide HQL]; exact ql_part h7 (unhide HE) (by rw [hn]; exact b4))
              go_wp2_with fail
              go_ret2
              rw [unhide hR]
              exact ⟨po', _, pc', xo', xc', rfl, unhide MA, unhide HD, unhide XA, unhide FA⟩
            · have b4' : ¬ (s'.held.length : Int) < 7 + (n : Int) := by omega
              have fr := hide (frame_rd wb (unhide XA) n tt (by omega) (by omega) (by omega) (n : Int) (tt : Int) rfl rfl)
              have hqf : qfr s'.held = qF ((s'.held.drop 7).take n) tt := by unfold qfr; rw [hn, htt]
              have hql' := qF_len ((s'.held.drop 7).take n) tt
              have hrg := qF_range ((s'.held.drop 7).take n) tt
              have hemp := hide (show (qF ((s'.held.drop 7).take n) tt).2 ≠ 0 → (qF ((s'.held.drop 7).take n) tt).1 = [] from qF_none _ _)
              rw [← hqf] at fr hql' hrg hemp
              have hlt2 : ((s'.held.drop 7).take n).length ≤ n := by simp; omega
              clear hqf
              have hb5 := hide (show (qfr s'.held).2 ≠ 0 → R = (qst (qfr s'.held).2 s', t, (qfr s'.held).2) from fun y => by rw [← unhide HQL]; exact ql_bad hf h7 (unhide HE) (by rw [hn]; exact b4) y)
              have hg5 := hide (show (qfr s'.held).2 = 0 → ∃ f', (s'.held.drop (7 + n)).length ≤ f' ∧ ql M f' (qnx s') (t ++ (qfr s'.held).1) = R from fun y => by
                obtain ⟨f', h1, _, h3⟩ := ql_tell (M := M) (t := t) hf h7 (unhide HE) (by rw [hn]; exact b4) y
                rw [hn] at h1
                exact ⟨f', h1, by rw [← h3]; exact unhide HQL⟩)
              have hqx := hide (show qnx s' = { s' with nx := (s'.nx + 1) % 256, held := s'.held.drop (7 + n) } by unfold qnx; rw [hn])
              generalize qfr s'.held = QR at *
              obtain ⟨l, er⟩ := QR
              simp only at fr hql' hrg hemp hb5 hg5
              have hWZ := (unhide FA).size
              have hdp := hide (fun k (q : fq g xo' k) (r : ob po' k) => unhide HD k r q)
              go_upto_region 16 with (first
                | (go_at_call 23; refine (unhide fr).mono ?_; rintro e w5 ⟨a5, n5, k5, rfl, m5, b5⟩; have hn5 : l.length = n5 := m5.len; have X5 := hide ((unhide XA).later b5); have M5 := hide ((unhide MA).later b5); have F5 := hide ((unhide FA).trans (Fs.of b5 (fun k q => .inl q))); have L5 := hide m5.bs; have z5 := b5.size; clear m5 b5)
                | (at_builtin; refine wpList_appS rfl (.tmp 103) (.tmp 104) rfl w.heap.size po' t.length pc' t rfl (unhide M5) a5 n5 k5 l rfl (unhide L5) (by omega) (by omega) ?_; intro po6 pc6 w6 m6 f6; have X6 := hide ((unhide X5).fs f6 (unhide hdp)); have F6 := hide ((unhide F5).over f6 (fun k q => ((unhide M5).ob q).1)); have M6 := hide m6; have D6 := hide (show ∀ k, ob po6 k → ¬ fq g xo' k from fun k q r => (f6.src k q).elim (fun e => unhide HD k e r) (fun e => by have := (unhide X5).ltf r; omega)); clear m6 f6))
              have g3 := (unhide X6).c3
              have g3f := (unhide X6).free 3
              have XH := hide ((unhide X6).halted er hrg.1 hrg.2)
              have MH := hide ((unhide M6).keepB (w' := w6.setCell ⟨g, 3, none⟩ (.int .i64 er)) (fun k q => heap_setCell_other w6 ⟨g, 3, none⟩ k _ (fun e => unhide D6 k q (.inl e))))
              have FH := hide ((unhide F6).set (g := g) (.inl rfl) 3 (.int .i64 er))
              clear X5 M5 F5 L5 XA MA FA fr d0 d1 d2 d3 d3f
              by_cases e5 : er = 0
              · have e5' : (er != 0) = false := by simpa using e5
                subst e5
                obtain ⟨f', hf', hq'⟩ := unhide hg5 rfl
                rw [unhide HS0] at XH
                have x1 := (unhide XH).c1
                have x2 := (unhide XH).c2
                have x2f := (unhide XH).free 2
                obtain ⟨a8, k8, hc8, hi8, hob8⟩ := (unhide XH).b.cut_lo (lo := 7 + n) (by omega) (7 + (n : Int)) (by omega)
                have X8 := hide ((unhide XH).reheld hi8 (fun q => (unhide XH).gx (hob8 g q)) (fun k q => (unhide XH).hlt k (hob8 k q)) (by simp; omega))
                have x81 := (unhide X8).c1
                have x81f := (unhide X8).free 1
                have X9 := hide ((unhide X8).numbered ((s'.nx + 1) % 256) (by omega) (by omega))
                have F9 := hide ((((unhide FH).set (g := g) (.inl rfl) 2 (.slice a8 (s'.held.length - (7 + n)) k8)).set (g := g) (.inl rfl) 1 (.int .u8 ((s'.nx + 1) % 256))).weak (T := fq g xo) (T' := fq g a8) (fun k q => q) (fun k q => .inr (q.imp id fun e => hob8 k e)))
                have M9 := hide (((unhide MH).keepB (w' := (w6.setCell ⟨g, 3, none⟩ (.int .i64 0)).setCell ⟨g, 2, none⟩ (.slice a8 (s'.held.length - (7 + n)) k8)) (fun k q => heap_setCell_other _ ⟨g, 2, none⟩ k _ (fun e => unhide D6 k q (.inl e)))).keepB (w' := ((w6.setCell ⟨g, 3, none⟩ (.int .i64 0)).setCell ⟨g, 2, none⟩ (.slice a8 (s'.held.length - (7 + n)) k8)).setCell ⟨g, 1, none⟩ (.int .u8 ((s'.nx + 1) % 256))) (fun k q => heap_setCell_other _ ⟨g, 1, none⟩ k _ (fun e => unhide D6 k q (.inl e))))
                have D9 := hide (show ∀ k, ob po6 k → ¬ fq g a8 k from fun k q r => unhide D6 k q (r.imp id fun e => hob8 k e))
                clear hi8 hob8 XH MH FH X6 M6 F6
                go_wp2_with fail
                go_roundw
                case rel => exact ⟨{ s' with nx := (s'.nx + 1) % 256, held := s'.held.drop (7 + n) }, t ++ l, f', a8, k8, po6, pc6, by simp [hn5], by rw [← unhide hqx]; exact hq', by simpa using hf', hwhy, by simp; omega, unhide X9, by simpa [hn5] using unhide M9, unhide D9, unhide F9⟩
                case measure => rw [unhide hms, (unhide X9).hlA]; simp; omega
              · have e5' : (er != 0) = true := by simpa using e5
                have hR := hide (unhide hb5 e5)
                have hl0 := unhide hemp e5
                subst hl0
                simp at hn5
                subst hn5
                have XF := hide ((unhide XH).reheld (Bs.nought _) ob_none (fun k q => absurd q ob_none) (by simp))
                have y2 := (unhide XH).c2
                have y2f := (unhide XH).free 2
                have y3 := (unhide XF).c3
                have FF := hide ((unhide FH).set (g := g) (.inl rfl) 2 (.slice none 0 0))
                have MF := hide ((unhide MH).keepB (w' := (w6.setCell ⟨g, 3, none⟩ (.int .i64 er)).setCell ⟨g, 2, none⟩ (.slice none 0 0)) (fun k q => heap_setCell_other _ ⟨g, 2, none⟩ k _ (fun e => unhide D6 k q (.inl e))))
                clear XH MH FH X6 M6 F6 e5
                go_wp2_with fail
                go_quiet (fail)
                go_wp2_with fail
                go_ret2
                rw [unhide hR]
                exact ⟨po6, _, pc6, none, 0, rfl, by simpa using (unhide MF).later (dr_below _ _), fun k q r => unhide D6 k q (r.imp id fun z => absurd z ob_none), (unhide XF).drewN _, ((unhide FF).weak (fun k q => q) (fun k q => .inr (q.imp id fun z => absurd z ob_none))).drewN _⟩
          · have b3' : (Y != s'.nx) = true := by simpa using b3
            have hE : qE M s' = 6 := by rw [unhide hEd, if_neg b1, if_neg b2, if_pos b3]
            have HE := hide hE
            have e3 := unhide E3
            clear hE b3
            go_upto_region 9 with fail
            go_quiet (fail)
            replace XA := hide ((unhide XA).drewN nq)
            replace MA := hide ((unhide MA).later (dr_below _ nq))
            replace FA := hide ((unhide FA).drewN nq)
            replace d0 := (unhide XA).c0
            replace d1 := (unhide XA).c1
            replace d2 := (unhide XA).c2
            replace d3 := (unhide XA).c3
            rw [hwhy] at d3
            replace d3f := (unhide XA).free 3
            clear e3 E3
            generalize wa.drewN nq = wa at *
            have hR := hide (show R = (qst 6 s', t, 6) by rw [← unhide HQL, ql_err hf h7 (by rw [unhide HE]; decide), unhide HE])
            have XH := (unhide XA).halted 6 (by omega) (by omega)
            have XF := hide (XH.reheld (Bs.nought _) ob_none (fun k q => absurd q ob_none) (by simp))
            have y2 := XH.c2
            have y2f := XH.free 2
            have y3 := (unhide XF).c3
            have FF := hide (((unhide FA).set (g := g) (.inl rfl) 3 (.int .i64 6)).set (g := g) (.inl rfl) 2 (.slice none 0 0))
            have MF := hide (((unhide MA).keepB (w' := wa.setCell ⟨g, 3, none⟩ (.int .i64 6)) (fun k q => heap_setCell_other wa ⟨g, 3, none⟩ k _ (fun e => unhide HD k q (.inl e)))).keepB (w' := (wa.setCell ⟨g, 3, none⟩ (.int .i64 6)).setCell ⟨g, 2, none⟩ (.slice none 0 0)) (fun k q => heap_setCell_other _ ⟨g, 2, none⟩ k _ (fun e => unhide HD k q (.inl e))))
            clear XH
            go_wp2_with fail
            go_quiet (fail)
            go_wp2_with fail
            go_ret2
            rw [unhide hR]
            exact ⟨po', _, pc', none, 0, rfl, (unhide MF).later (dr_below _ _), fun k q r => unhide HD k q (r.imp id fun z => absurd z ob_none), (unhide XF).drewN _, ((unhide FF).weak (fun k q => q) (fun k q => .inr (q.imp id fun z => absurd z ob_none))).drewN _⟩
end
end Go.Proofs.YtnoabdafmgmenaaGreatDoor
