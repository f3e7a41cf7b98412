/-
  The statement SqueezeScript, as a call: a squeezed reader, fed with any bytes in any chunks, answers and holds what the document says, call by call. Conditions: the calls can be read; the tables of package inflate lie as the program's text lays them.
-/
import Derived.Test.YtnoabdafmgmenaaGreatDoorXqFeed
import Derived.Test.YtnoabdafmgmenaaGreatDoorSqLives
import Derived.Test.YtnoabdafmgmenaaGreatDoorMAct
import Derived.Deep.DeepCutAuto
namespace Go.Proofs.YtnoabdafmgmenaaGreatDoor
open Go.RowKit
set_option linter.unusedVariables false
set_option linter.unusedSimpArgs false

theorem xor_u8b (x y : Int) (h0 : 0 ≤ x) (h1 : x ≤ 255) (h2 : 0 ≤ y) (h3 : y ≤ 255) : 0 ≤ bits .xor .u8 x y ∧ bits .xor .u8 x y ≤ 255 := by
  rw [u8_xor x y h0 (by omega) h2 (by omega)]
  have hlt : x.toNat ^^^ y.toNat < 2 ^ 8 := Nat.xor_lt_two_pow (by omega) (by omega)
  exact ⟨by omega, by omega⟩


theorem qlw_P {M : Int} : ∀ (f : Nat) (s : QS) (t : List Int), s.held.length ≤ f → (ql M f s t).1.why = 0 → qP M (ql M f s t).1
  | 0, s, t, hf, _ => by
    have : (ql M 0 s t).1 = s := rfl
    rw [this]
    exact .inl (by omega)
  | f + 1, s, t, hf, hw => by
    by_cases h7 : s.held.length < 7
    · rw [ql_short h7]
      exact .inl h7
    · by_cases he : qE M s = 0
      · by_cases hn : s.held.length < 7 + qN s.held
        · rw [ql_part h7 he hn]
          exact .inr ⟨he, hn⟩
        · by_cases hb : (qfr s.held).2 = 0
          · obtain ⟨f', h1, h2, h3⟩ := ql_tell (M := M) (t := t) hf h7 he hn hb
            have : f' = f := by omega
            subst this
            rw [h3] at hw ⊢
            exact qlw_P f' _ _ h1 hw
          · rw [ql_bad hf h7 he hn hb] at hw
            exact absurd hw hb
      · rw [ql_err hf h7 he] at hw
        exact absurd hw he
theorem qfeed_P {M : Int} {s : QS} {b : List Int} (hP : s.why = 0 → qP M s) : (qfeed M s b).1.why = 0 → qP M (qfeed M s b).1 := by
  unfold qfeed
  split
  · exact hP
  · intro h
    exact qlw_P _ _ _ (Nat.le_refl _) h
theorem qxS_P {M : Int} {s : QS} {q : Int} (hP : s.why = 0 → qP M s) : (qxS s q).why = 0 → qP M (qxS s q) := by
  unfold qxS
  split
  · rename_i h
    intro _
    refine .inl ?_
    unfold qxE at h
    split at h
    · cases h
    · split at h
      · cases h
      · simp only; omega
  · exact hP

/-- The program's reader and the document's, apart from each other, hold the same. -/
structure Duq (B : Nat) (w : World) (g gx : Nat) (M : Int) (ho : Option Addr) (hc : Nat) (xo : Option Addr) (xc : Nat) (s : QS) : Prop where
  rq : Rq w g M ho hc s
  xq : Xq w gx M xo xc s
  low : ∀ k, fq g ho k → B ≤ k
  xlow : ∀ k, fq gx xo k → B ≤ k
  apart : ∀ k, fq g ho k → ¬ fq gx xo k
  P : s.why = 0 → qP M s
section
variable {B : Nat} {w w' : World} {g gx : Nat} {M : Int} {ho : Option Addr} {hc : Nat} {xo : Option Addr} {xc : Nat} {s : QS}
theorem Duq.keepB (h : Duq B w g gx M ho hc xo xc s) (hz : w.heap.size ≤ w'.heap.size) (hk : ∀ k, fq g ho k ∨ fq gx xo k → k < w.heap.size → w'.heap[k]? = w.heap[k]?) : Duq B w' g gx M ho hc xo xc s :=
  ⟨h.rq.keep fun k q => hk k (.inl q) (h.rq.ltf q), h.xq.keep hz fun k q => hk k (.inr q) (h.xq.ltf q), h.low, h.xlow, h.apart, h.P⟩
theorem Duq.later (h : Duq B w g gx M ho hc xo xc s) (hb : Below w.heap.size w w') : Duq B w' g gx M ho hc xo xc s := h.keepB hb.size fun k _ hl => hb.block k hl
theorem Duq.expect {w1 : World} (h : Duq B w g gx M ho hc xo xc s) (q : Int) (h1 : Rq w1 g M ho hc (qxS s q)) (h2 : Xq w1 gx M xo xc (qxS s q)) : Duq B w1 g gx M ho hc xo xc (qxS s q) :=
  ⟨h1, h2, h.low, h.xlow, h.apart, qxS_P h.P⟩
/-- Feed of both: the same. -/
theorem Duq.fed {wb w4 w5 : World} (h : Duq B wb g gx M ho hc xo xc s) {pb : List Int} {tp : Option Addr} {np kp : Nat} {ho' : Option Addr} {hc' : Nat} (mp : Mine wb.heap.size w4 tp np kp (qfeed M s pb).2.1) (hr : Rq w4 g M ho' hc' (qfeed M s pb).1) (hfs : Fs (fq g ho) wb (fq g ho') w4)
    {tq : Option Addr} {nq kq : Nat} {xo' : Option Addr} {xc' : Nat} (mq : Mine w4.heap.size w5 tq nq kq (qfeed M s pb).2.1) (hx : Xq w5 gx M xo' xc' (qfeed M s pb).1) (hfx : Fs (fq gx xo) w4 (fq gx xo') w5) (hB : B ≤ wb.heap.size) :
    Duq B w5 g gx M ho' hc' xo' xc' (qfeed M s pb).1 ∧ Mine wb.heap.size w5 tp np kp (qfeed M s pb).2.1 ∧ (∀ k, ob tp k ∨ ob tq k ∨ fq g ho' k ∨ fq gx xo' k → fq g ho k ∨ fq gx xo k ∨ wb.heap.size ≤ k) := by
  have hx1 : ∀ k, fq gx xo k → k < wb.heap.size := fun k q => h.xq.ltf q
  have hsz := hfs.size
  have dis : ∀ k, fq g ho' k → ¬ fq gx xo k := fun k q p => by
    rcases hfs.src k q with q | q
    · exact h.apart k q p
    · have := hx1 k p; omega
  refine ⟨⟨hr.fs hfx dis, hx, fun k q => ?_, fun k q => ?_, fun k q p => ?_, qfeed_P h.P⟩, mp.fs hfx (fun k q p => by have := (mp.ob q).1; have := hx1 k p; omega), fun k q => ?_⟩
  · rcases hfs.src k q with q | q
    · exact h.low k q
    · omega
  · rcases hfx.src k q with q | q
    · exact h.xlow k q
    · omega
  · rcases hfx.src k p with p | p
    · exact dis k q p
    · have := hr.ltf q; omega
  · rcases q with q | q | q | q
    · exact .inr (.inr (mp.ob q).1)
    · have := (mq.ob q).1
      exact .inr (.inr (by omega))
    · rcases hfs.src k q with q | q
      · exact .inl q
      · exact .inr (.inr q)
    · rcases hfx.src k q with q | q
      · exact .inr (.inl q)
      · exact .inr (.inr (by omega))
end

set_option maxHeartbeats 8000000 in
set_option maxRecDepth 20000 in
theorem lawSqScript (M : Int) (lo : Option Addr) (ln lc : Nat) (xs : List Am) (w : World) (hv : Vars w) (hl : Acs w lo ln lc xs) :
    Calls Tryz.prog 3 #[.int .i64 M, .slice lo ln lc] w fun e w' => e = .returned (.bool true) ∧ Below w.heap.size w w' := by
  have cl := hide (slives_any w)
  have hle := hl.le
  have hmx := hl.max
  have HL := hide hl
  have HLN := hide hl.len
  have h3 := hv.size
  have HV := hide (fun ws (hb : Below w.heap.size w ws) => hv.later h3 hb)
  clear hl hv
  by_cases a0 : 1000 < M ∧ M ≤ 16777215
  · obtain ⟨a01, a02⟩ := a0
    go_enter Tryz.func3, Tryz.ntmps3
    go_wp2_with (go_at_call 4; refine (unhide cl).mono ?_; rintro e w1 ⟨rfl, b1⟩)
    go_ret
    exact ⟨rfl, b1⟩
  have ac : (M < 1 ∨ 16777215 < M) ∨ (1 ≤ M ∧ M ≤ 1000) := by omega
  clear a0
  rcases ac with a1 | a1
  · have cn := hide (fun w => qNew_bad M w a1 (isMost_any M))
    have cx := hide (fun w => xqNew_bad M w a1)
    rcases a1 with a1 | a1
    · have a1' : ¬ 1000 < M := by omega
      go_enter Tryz.func3, Tryz.ntmps3
      go_wp2_with (first
        | (go_at_call 4; refine (unhide cl).mono ?_; rintro e w1 ⟨rfl, b1⟩; have B1 := hide b1; clear b1)
        | (go_at_call 5; refine same_world (unhide cn _) ?_)
        | (go_at_call 6; refine same_world (unhide cx _) ?_))
      go_ret
      exact ⟨rfl, unhide B1⟩
    · have a1' : 1000 < M := by omega
      have a1'' : ¬ M ≤ 16777215 := by omega
      go_enter Tryz.func3, Tryz.ntmps3
      go_wp2_with (first
        | (go_at_call 4; refine (unhide cl).mono ?_; rintro e w1 ⟨rfl, b1⟩; have B1 := hide b1; clear b1)
        | (go_at_call 5; refine same_world (unhide cn _) ?_)
        | (go_at_call 6; refine same_world (unhide cx _) ?_))
      go_ret
      exact ⟨rfl, unhide B1⟩
  · have cn := hide (fun w => qNew_ok M w a1.1 a1.2 (isMost_any M))
    have cx := hide (fun w => xqNew_ok M w a1.1 a1.2)
    obtain ⟨m0, m1⟩ := a1
    have m1' : ¬ 1000 < M := by omega
    go_enter Tryz.func3, Tryz.ntmps3
    go_wp2_with (first
      | (go_at_call 4; refine (unhide cl).mono ?_; rintro e w1 ⟨rfl, b1⟩; have B1 := hide b1; have z1 := b1.size; clear b1)
      | (go_at_call 5; refine (unhide cn w1).mono ?_; rintro e w2 ⟨rfl, r2, b2⟩; have R2 := hide r2; have B2 := hide ((unhide B1).trans (b2.mono z1)); have z2 : w1.heap.size < w2.heap.size := r2.lt; clear r2 b2)
      | (go_at_call 6; refine (unhide cx w2).mono ?_; rintro e w3 ⟨rfl, r3, b3⟩; have D3 := hide (show Duq w.heap.size w3 w1.heap.size w2.heap.size M none 0 none 0 qz from ⟨(unhide R2).later b3, r3, (fun k q => by rcases q with q | q; omega; exact absurd q ob_none), (fun k q => by rcases q with q | q; omega; exact absurd q ob_none), (fun k q p => by
          rcases q with q | q
          · rcases p with p | p
            · omega
            · exact absurd p ob_none
          · exact absurd q ob_none), fun _ => .inl (by simp [qz])⟩); have B3 := hide ((unhide B2).trans (b3.mono (by omega))); clear r3 b3))
    go_loopw [9] (fun iv ws => ∃ (i : Nat) (r : QS) (ho : Option Addr) (hc : Nat) (xo : Option Addr) (yc : Nat), i ≤ 40 ∧ i ≤ ln ∧ iv = .int .i64 (i : Int) ∧ Duq w.heap.size ws w1.heap.size w2.heap.size M ho hc xo yc r ∧ Below w.heap.size w ws) (fun iv _ => 40 - (intOf iv).toNat)
    case atStart => exact ⟨0, qz, none, 0, none, 0, by omega, by omega, rfl, unhide D3, unhide B3⟩
    case round =>
      clear D3 B3 B2 B1 R2 cl cn cx
      obtain ⟨i, r, ho, hc, xo, yc, hi, hin, rfl, hD, hW⟩ := hrel
      have hz := hW.size
      by_cases ai : i < ln
      · by_cases a60 : i < 40
        · have ai' : (i : Int) < (ln : Int) := by omega
          have a60' : (i : Int) < 40 := by omega
          obtain ⟨p, hp⟩ : ∃ p, xs[i]? = some p := ⟨_, List.getElem?_eq_getElem (show i < xs.length by rw [unhide HLN]; exact ai)⟩
          obtain ⟨b, o, hix, e0, e1, e2, hbs, s0, s1⟩ := (unhide HL).at' i p hp
          have f0 := cell_later hW e0
          have f1 := cell_later hW e1
          have f2 := cell_later hW e2
          have cle := hbs.le
          have cmx := hbs.max
          have HBS := hide hbs
          obtain ⟨pk, pa, pc, pb, ps⟩ := p
          simp only at f0 f1 f2 s0 s1 cle cmx HBS
          clear hp e0 e1 e2 hbs
          have ba := below_alloc wr (.cells #[.int .i64 pk, .slice pa pb.length pc, .int .u8 ps] 33)
          have g0 : (wr.alloc (.cells #[.int .i64 pk, .slice pa pb.length pc, .int .u8 ps] 33)).cell? ⟨wr.heap.size, 0, none⟩ = some (.int .i64 pk) := cell_top wr _ _ 0 _ rfl
          have g1 : (wr.alloc (.cells #[.int .i64 pk, .slice pa pb.length pc, .int .u8 ps] 33)).cell? ⟨wr.heap.size, 1, none⟩ = some (.slice pa pb.length pc) := cell_top wr _ _ 1 _ rfl
          have g2 : (wr.alloc (.cells #[.int .i64 pk, .slice pa pb.length pc, .int .u8 ps] 33)).cell? ⟨wr.heap.size, 2, none⟩ = some (.int .u8 ps) := cell_top wr _ _ 2 _ rfl
          obtain ⟨wa, hwa⟩ : ∃ wa, wr.alloc (.cells #[.int .i64 pk, .slice pa pb.length pc, .int .u8 ps] 33) = wa := ⟨_, rfl⟩
          rw [hwa] at g0 g1 g2 ba
          have DA := hide (hD.later ba)
          have HFT := hide (And.intro (fun k q => hD.rq.ltf (k := k) q) (fun k q => hD.xq.ltf (k := k) q))
          have hne1 : wr.heap.size ≠ w1.heap.size := by have := hD.rq.lt; omega
          have hne2 : wr.heap.size ≠ w2.heap.size := by have := hD.xq.lt; omega
          have BA := hide (hW.trans (ba.mono hz))
          have za : w.heap.size ≤ wa.heap.size := (unhide BA).size
          have hva : wr.heap.size < wa.heap.size := by rw [← hwa]; simp
          have hhl := hD.rq.ok.hl
          clear hD hW ba
          by_cases a3 : pb.length ≤ 1000
          · have a3' : ¬ (1000 : Int) < (pb.length : Int) := by omega
            have cp := hide (fun w => pick_any pk 3 w (by omega) (by omega))
            go_wp2_with fail
            refine (unhide cp _).mono ?_
            rintro e wx ⟨⟨kk, rfl, k0, k1⟩, hwx⟩
            have hwx' := hwx.symm
            subst hwx'
            clear cp hwx
            by_cases a2 : kk = 2
            · subst a2
              have RA := hide ((unhide DA).rq.later (below_drew wa))
              have XA := hide ((unhide DA).xq.later (below_drew wa))
              have cE1 := hide (fun wy (q : Rq wy w1.heap.size M ho hc r) => qExpect_any wy q ps s0 s1)
              have cE2 := hide (fun wy (q : Xq wy w2.heap.size M xo yc r) => xqExpect_any wy q ps s0 s1)
              have KR := hide (show ∀ (wy wz : World) (sy : QS), Rq wy w1.heap.size M ho hc sy → Gb w2.heap.size wy wz → Rq wz w1.heap.size M ho hc sy from fun wy wz sy q G => q.keep fun k p => G.block k (q.ltf p) (fun e => (unhide DA).apart k p (e ▸ .inl rfl)))
              have KX := hide (show ∀ (wy wz : World) (ry : QS), Xq wy w2.heap.size M xo yc ry → Gb w1.heap.size wy wz → Xq wz w2.heap.size M xo yc ry from fun wy wz ry q G => q.keep G.size fun k p => G.block k (q.ltf p) (fun e => (unhide DA).apart w1.heap.size (.inl rfl) (e ▸ p)))
              have KE := hide (fun (wy : World) q1 q2 => (unhide DA).expect (w1 := wy) ps q1 q2)
              have hg1 : w.heap.size ≤ w1.heap.size := z1
              have hg2 : w.heap.size ≤ w2.heap.size := by omega
              have BAd := hide (show Below w.heap.size w wa.drew from (unhide BA).trans ⟨rfl, rfl, rfl, Nat.le_refl _, fun _ _ => rfl⟩)
              have KB := hide (show ∀ (g : Nat) (wy wz : World), w.heap.size ≤ g → Below w.heap.size w wy → Gb g wy wz → Below w.heap.size w wz from fun g wy wz hg q G => q.trans ⟨G.os, G.tape, G.output, G.size, fun k hk => G.block k (by have := q.size; omega) (by omega)⟩)
              generalize qxE r = EE at *
              go_wp2_with fail
              go_cut [77] (fun v wy => v = .bool false ∧ Duq w.heap.size wy w1.heap.size w2.heap.size M ho hc xo yc (qxS r ps) ∧ Below w.heap.size w wy)
              case first =>
                go_region_with (first
                  | (go_at_call 8; refine (unhide cE1 _ (by first | exact unhide RA | exact unhide RB (unhide RA))).mono ?_; rintro e w4 ⟨rfl, r4, g4⟩; have hv4 : wr.heap.size < w4.heap.size := Nat.lt_of_lt_of_le (by first | exact hva | exact hv5) g4.size; have g24 : w4.cell? ⟨wr.heap.size, 2, none⟩ = some (.int .u8 ps) := (g4.cell (a := ⟨wr.heap.size, 2, none⟩) (by first | exact hva | exact hv5) hne1).trans (by first | exact g2 | exact g25); have R4 := hide r4; have G4 := hide g4; have XB := hide (fun q => unhide KX _ w4 r q g4); clear r4 g4)
                  | (go_at_call 9; refine (unhide cE2 _ (by first | exact unhide XA | exact unhide XB (unhide XA))).mono ?_; rintro e w5 ⟨rfl, x5, g5⟩; have hv5 : wr.heap.size < w5.heap.size := Nat.lt_of_lt_of_le (by first | exact hva | exact hv4) g5.size; have g25 : w5.cell? ⟨wr.heap.size, 2, none⟩ = some (.int .u8 ps) := (g5.cell (a := ⟨wr.heap.size, 2, none⟩) (by first | exact hva | exact hv4) hne2).trans (by first | exact g2 | exact g24); have X5 := hide x5; have G5 := hide g5; have RB := hide (fun q => unhide KR _ w5 r q g5); clear x5 g5))
                all_goals go_wp2_with fail
                all_goals go_meet
                all_goals first
                  | exact ⟨by simp, unhide KE _ (unhide KR _ _ _ (unhide R4) (unhide G5)) (unhide X5), unhide KB _ _ _ hg2 (unhide KB _ _ _ hg1 (unhide BAd) (unhide G4)) (unhide G5)⟩
                  | exact ⟨by simp, unhide KE _ (unhide R4) (unhide KX _ _ _ (unhide X5) (unhide G4)), unhide KB _ _ _ hg1 (unhide KB _ _ _ hg2 (unhide BAd) (unhide G5)) (unhide G4)⟩
              case rest =>
                clear KB BAd KE KX KR cE1 cE2 XA RA DA BA g0 g1 g2
                obtain ⟨rfl, dT, bT⟩ := hcut
                obtain ⟨wT, hwT⟩ : ∃ wy, wy = wc := ⟨_, rfl⟩
                rw [← hwT] at dT bT ⊢
                clear hwT
                obtain ⟨rT, hrT⟩ : ∃ ry, ry = qxS r ps := ⟨_, rfl⟩
                rw [← hrT] at dT
                clear hrT
                have cN := hide (fun j => qNext_any (wT.drewN j) (dT.rq.drewN j))
                have cH := hide (fun j => qHeld_any (wT.drewN j) (dT.rq.drewN j))
                have cS := hide (fun j => qStopped_any (wT.drewN j) (dT.rq.drewN j))
                have kx1 := dT.xq.c1
                have kx2 := dT.xq.c2
                have kx3 := dT.xq.c3
                have hhl := dT.xq.ok.hl
                have DT := hide dT
                have BT := hide bT
                clear dT bT
                generalize rT.nx = SQ at *
                generalize rT.why = WY at *
                generalize hHH : rT.held.length = HH at *
                clear hHH
                go_wp2_with fail
                go_quiet (first
                  | (go_at_call 13; refine Calls.quiet_of_same (unhide cN _))
                  | (go_at_call 14; refine Calls.quiet_of_same (unhide cH _))
                  | (go_at_call 15; refine Calls.quiet_of_same (unhide cS _)))
                go_wp2_with fail
                go_roundw
                case rel => exact ⟨i + 1, rT, _, _, _, _, by omega, by omega, by go_num, (unhide DT).later (dr_below wT _), (unhide BT).trans ⟨rfl, rfl, rfl, Nat.le_refl _, fun _ _ => rfl⟩⟩
                case measure => simp [intOf]; omega
            · have a2' : (kk == 2) = false := by rw [beq_eq_false_iff_ne]; exact a2
              clear a2
              have bb := below_alloc wa (.cells #[] 5)
              have gu1 := (cell_under wa (.cells #[] 5) wr.heap.size 1 hva).trans g1
              have BB := hide bb
              have BAa := hide ((unhide BA).trans (bb.mono za))
              clear bb
              go_upto_region 21 with (first
                | (at_builtin; refine wpList_app rfl (.tmp 78) (.tmp 80) rfl wa.heap.size _ _ _ _ rfl (Mine.empty wa) pa pb.length pc pb rfl ((unhide HBS).later (unhide BAa)) (by omega) (by simp) ?_; intro o1 k1 wb m1 b1; rw [Nat.zero_add, List.nil_append] at m1; have M1 := hide m1; have B1 := hide ((unhide BB).trans b1); clear m1 b1))
              have zb := (unhide B1).size
              have DB := hide ((unhide DA).later (unhide B1))
              have BBb := hide ((unhide BA).trans ((unhide B1).mono za))
              have gb1 := ((unhide B1).cell (p := ⟨wr.heap.size, 1, none⟩) hva).trans g1
              have hft := (unhide HFT).1
              have hftx := (unhide HFT).2
              have fc := hide (qFeed_any wb (unhide DB).rq (unhide HV _ (unhide BBb)) (fun k q => by have := (unhide DB).low k q; omega) (unhide DB).P o1 pb.length k1 pb (unhide M1).bs (by omega) (fun k q => ⟨((unhide M1).ob q).2, fun p => by have := ((unhide M1).ob q).1; have := hft k p; omega⟩))
              go_wp2_with fail
              refine (unhide fc).mono ?_
              rintro e w4 ⟨tp, np, kp, ho', hc', rfl, mp, dp, hr, hfs⟩
              have g41 := (World.cell?_of_block (a := ⟨wr.heap.size, 1, none⟩) (hfs.block wr.heap.size (by omega) (fun q => by have := hft _ q; omega))).trans gb1
              have X4 := hide ((unhide DB).xq.fs hfs (fun k q a => (unhide DB).apart k a q))
              have B4 := hide ((unhide BBb).trans (hfs.below (by omega) (unhide DB).low))
              have M4 := hide ((unhide M1).fs hfs (fun k q a => by have := ((unhide M1).ob q).1; have := hft k a; omega))
              have z4 := hfs.size
              have HMP := hide mp
              have HRr := hide hr
              have HFS := hide hfs
              have xc := hide (xqFeed_any w4 (unhide X4) hhl pa pb.length pc pb ((unhide HBS).later (unhide B4)) (by omega))
              clear mp dp hr hfs gu1 BB BAa g0 g1 g2 fc
              go_wp2_with fail
              refine (unhide xc).mono ?_
              rintro e w5 ⟨tq, nq, kq, xo', xc', rfl, mq, dq, hx, hfx⟩
              obtain ⟨D5, P5, SRC⟩ := (unhide DB).fed (unhide HMP) (unhide HRr) (unhide HFS) mq hx hfx (by omega)
              have B5 := hide ((unhide B4).trans (hfx.below (by omega) (unhide DB).xlow))
              have M5 := hide ((unhide M4).fs hfx (fun k q a => by have := ((unhide M1).ob q).1; have := hftx k a; omega))
              have z5 := hfx.size
              have HD5 := hide D5
              have HP5 := hide P5
              have HQ5 := hide mq
              have HSRC := hide (show ∀ k, ob tp k ∨ ob tq k ∨ fq w1.heap.size ho' k ∨ fq w2.heap.size xo' k → ¬ ob o1 k by
                intro k q p
                have p1 := (unhide M1).ob p
                rcases SRC k q with q | q | q
                · have := hft k q; omega
                · have := hftx k q; omega
                · omega)
              obtain ⟨rT, hrT⟩ : ∃ ry, ry = (qfeed M r pb).1 := ⟨_, rfl⟩
              rw [← hrT] at HD5
              generalize (qfeed M r pb).2.2 = EE at *
              generalize (qfeed M r pb).2.1 = TT at *
              clear mq dq hx hfx D5 P5 SRC HMP HRr HFS X4 B4 M4 hrT DA DB BBb BA B1 g41 gb1 hft hftx xc
              have hpn : pb.length ≤ 1000 := a3
              generalize hPL : pb.length = PL at *
              have k1m := (unhide M5).bs.le
              have k1x := (unhide M5).bs.max
              go_wp2_with fail
              go_loopw [16] (fun kv ws => ∃ (k : Nat) (cs : List Int), k ≤ PL ∧ kv = .int .i64 (k : Int) ∧ Mine wa.heap.size ws o1 PL k1 cs ∧ Fs (ob o1) w5 (ob o1) ws) (fun kv _ => PL - (intOf kv).toNat)
              case atStart => exact ⟨0, pb, by omega, rfl, unhide M5, Fs.refl _ _⟩
              case round =>
                clear M5
                obtain ⟨k, cs, hk, rfl, hM, hF⟩ := hrel
                by_cases ak : k < PL
                · obtain ⟨go, hgo⟩ := hM.some (by omega)
                  subst hgo
                  have hcc := mine_cell hM ak
                  have hby := hM.byt.at k
                  have hfr := hM.free k
                  have ak' : (k : Int) < (PL : Int) := by omega
                  generalize cs[k]?.getD 0 = d at *
                  have HX := hide (show 0 ≤ bits BinOp.xor IntKind.u8 (if IntKind.u8.signed = true then -1 else IntKind.u8.max) d ∧ bits BinOp.xor IntKind.u8 (if IntKind.u8.signed = true then -1 else IntKind.u8.max) d ≤ 255 from xor_u8b 255 d (by omega) (by omega) hby.1 hby.2)
                  have HM := hide (fun v v0 v1 => hM.stored k v v0 v1)
                  have HF := hide (fun v => hF.set (g := go) ⟨_, rfl, rfl⟩ k v)
                  clear hM hF
                  go_wp2_with fail
                  go_roundw
                  case rel => exact ⟨k + 1, _, by omega, by go_num, unhide HM _ (unhide HX).1 (unhide HX).2, unhide HF _⟩
                  case measure => simp [intOf]; omega
                · have ak' : ¬ (k : Int) < (PL : Int) := by omega
                  have D6 := hide ((unhide HD5).keepB (w' := wr) hF.size fun k q hl => hF.block k hl (by rcases q with q | q; exact unhide HSRC k (.inr (.inr (.inl q))); exact unhide HSRC k (.inr (.inr (.inr q)))))
                  have P6 := (unhide HP5).fs hF (fun k q => unhide HSRC k (.inl q))
                  have Q6 := (unhide HQ5).fs hF (fun k q => unhide HSRC k (.inr (.inl q)))
                  have csp := hide (by have q := sameBytes_any tp np kp TT tq nq kq TT wr P6.bs Q6.bs; rw [decide_eq_true (rfl : TT = TT)] at q; exact q)
                  have B6 := hide ((unhide B5).trans (hF.below (by omega) (fun k q => by have := (hM.ob q).1; omega)))
                  clear hM hF P6 Q6 HD5 HP5 HQ5 HSRC B5
                  go_upto_region 29 with (go_at_call 12; refine same_world (unhide csp) ?_)
                  have dT := unhide D6
                  have bT := unhide B6
                  clear csp D6 B6
                  obtain ⟨wT, hwT⟩ : ∃ wy, wy = wr := ⟨_, rfl⟩
                  rw [← hwT] at dT bT ⊢
                  clear hwT
                  have cN := hide (fun j => qNext_any (wT.drewN j) (dT.rq.drewN j))
                  have cH := hide (fun j => qHeld_any (wT.drewN j) (dT.rq.drewN j))
                  have cS := hide (fun j => qStopped_any (wT.drewN j) (dT.rq.drewN j))
                  have kx1 := dT.xq.c1
                  have kx2 := dT.xq.c2
                  have kx3 := dT.xq.c3
                  have hhl := dT.xq.ok.hl
                  have DT := hide dT
                  have BT := hide bT
                  clear dT bT
                  generalize rT.nx = SQ at *
                  generalize rT.why = WY at *
                  generalize hHH : rT.held.length = HH at *
                  clear hHH
                  go_wp2_with fail
                  go_quiet (first
                    | (go_at_call 13; refine Calls.quiet_of_same (unhide cN _))
                    | (go_at_call 14; refine Calls.quiet_of_same (unhide cH _))
                    | (go_at_call 15; refine Calls.quiet_of_same (unhide cS _)))
                  go_wp2_with fail
                  go_roundw
                  case rel => exact ⟨i + 1, rT, _, _, _, _, by omega, by omega, by go_num, (unhide DT).later (dr_below wT _), (unhide BT).trans ⟨rfl, rfl, rfl, Nat.le_refl _, fun _ _ => rfl⟩⟩
                  case measure => simp [intOf]; omega
          · have a3' : (1000 : Int) < (pb.length : Int) := by omega
            go_wp2_with fail
            go_ret
            exact ⟨rfl, unhide BA⟩
        · have a60' : ¬ (i : Int) < 40 := by omega
          have ai' : (i : Int) < (ln : Int) := by omega
          clear hD
          go_wp2_with fail
          go_ret
          exact ⟨rfl, hW⟩
      · have ai' : ¬ (i : Int) < (ln : Int) := by omega
        clear hD
        go_wp2_with fail
        go_ret
        exact ⟨rfl, hW⟩

end Go.Proofs.YtnoabdafmgmenaaGreatDoor
