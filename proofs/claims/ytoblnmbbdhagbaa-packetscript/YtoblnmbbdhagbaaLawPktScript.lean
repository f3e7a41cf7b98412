/-
  The statement PacketScript, as a call: a reader, fed with any bytes in any chunks, answers and holds what the document says, call by call. Conditions: none but that the calls can be read.
-/
import Derived.Test.YtoblnmbbdhagbaaRefSim
import Derived.Test.YtoblnmbbdhagbaaActArg
import Derived.Test.YtoblnmbbdhagbaaPickA
import Derived.Test.YtoblnmbbdhagbaaLawPktHolds
import Derived.Deep.DeepCutAuto
namespace Go.Proofs.Ytoblnmbbdhagbaa
open Go.RowKit
set_option linter.unusedVariables false
set_option linter.unusedSimpArgs false

theorem mine_cell {B : Nat} {w : World} {g n c : Nat} {bs : List Int} (h : Mine B w (some ⟨g, 0, none⟩) n c bs) {i : Nat} (hi : i < n) : w.cell? ⟨g, i, none⟩ = some (.int .u8 (bs[i]?.getD 0)) := by
  rcases h.bs.at' with q | ⟨b', o', e', c'⟩
  · omega
  · simp only [Option.some.injEq, Addr.mk.injEq, and_true] at e'
    obtain ⟨rfl, rfl⟩ := e'
    have := c' i hi
    rw [Nat.zero_add] at this
    simpa using this
theorem xor_u8b (x y : Int) (h0 : 0 ≤ x) (h1 : x ≤ 255) (h2 : 0 ≤ y) (h3 : y ≤ 255) : 0 ≤ bits .xor .u8 x y ∧ bits .xor .u8 x y ≤ 255 := by
  rw [u8_xor x y h0 (by omega) h2 (by omega)]
  have hlt : x.toNat ^^^ y.toNat < 2 ^ 8 := Nat.xor_lt_two_pow (by omega) (by omega)
  exact ⟨by omega, by omega⟩

/-- The program's reader and the document's, apart from each other, hold the same. -/
structure Duo (B : Nat) (w : World) (g gx : Nat) (M L : Int) (bo : Option Addr) (bc : Nat) (ho : Option Addr) (hc : Nat) (xb : Option Addr) (xc : Nat) (xo : Option Addr) (yc : Nat) (r : RS) : Prop where
  rd : Rd w g M L bo bc ho hc (ofR r)
  xl : Xl w gx M L xb xc xo yc r
  low : ∀ k, ft g bo ho k → B ≤ k
  xlow : ∀ k, ft gx xb xo k → B ≤ k
  apart : ∀ k, ft g bo ho k → ¬ ft gx xb xo k
  sim : Sim M r
  few : hln (ofR r) ≤ L + 4
theorem Duo.keepB {B : Nat} {w w' : World} {g gx : Nat} {M L : Int} {bo : Option Addr} {bc : Nat} {ho : Option Addr} {hc : Nat} {xb : Option Addr} {xc : Nat} {xo : Option Addr} {yc : Nat} {r : RS} (h : Duo B w g gx M L bo bc ho hc xb xc xo yc r)
    (hk : ∀ k, ft g bo ho k ∨ ft gx xb xo k → k < w.heap.size → w'.heap[k]? = w.heap[k]?) : Duo B w' g gx M L bo bc ho hc xb xc xo yc r :=
  ⟨h.rd.keepB fun k q => hk k (.inl q), h.xl.keepB fun k q => hk k (.inr q), h.low, h.xlow, h.apart, h.sim, h.few⟩
theorem Duo.later {B : Nat} {w w' : World} {g gx : Nat} {M L : Int} {bo : Option Addr} {bc : Nat} {ho : Option Addr} {hc : Nat} {xb : Option Addr} {xc : Nat} {xo : Option Addr} {yc : Nat} {r : RS} (h : Duo B w g gx M L bo bc ho hc xb xc xo yc r) (hb : Below w.heap.size w w') : Duo B w' g gx M L bo bc ho hc xb xc xo yc r :=
  h.keepB fun k _ hl => hb.block k hl
theorem Duo.held {B : Nat} {w : World} {g gx : Nat} {M L : Int} {bo : Option Addr} {bc : Nat} {ho : Option Addr} {hc : Nat} {xb : Option Addr} {xc : Nat} {xo : Option Addr} {yc : Nat} {r : RS} (h : Duo B w g gx M L bo bc ho hc xb xc xo yc r) : r.ys.length ≤ 1100000000 := by
  have h1 := h.few
  have h2 := h.xl.ok.l1
  unfold hln at h1
  simp only [ofR] at h1
  omega
/-- Expect of both: the same. -/
theorem Duo.expect {B : Nat} {w w1 : World} {g gx : Nat} {M L : Int} {bo : Option Addr} {bc : Nat} {ho : Option Addr} {hc : Nat} {xb : Option Addr} {xc : Nat} {xo : Option Addr} {yc : Nat} {r : RS} (h : Duo B w g gx M L bo bc ho hc xb xc xo yc r) (q : Int) (q0 : 0 ≤ q) (q1 : q ≤ 255)
    (h1 : Rd w1 g M L bo bc ho hc (exS (ofR r) q)) (h2 : Xl w1 gx M L xb xc xo yc (xxS r q)) : Duo B w1 g gx M L bo bc ho hc xb xc xo yc (xxS r q) := by
  have hs := xxS_sim M r q h.sim q0 q1
  refine ⟨by rw [hs.1]; exact h1, h2, h.low, h.xlow, h.apart, hs.2, ?_⟩
  rw [hs.1]
  unfold exS
  split
  · exact h.few
  · exact h.few

/-- Feed of both: the same. -/
theorem Duo.fed {B : Nat} {wb w4 w5 : World} {g gx : Nat} {M L : Int} {bo : Option Addr} {bc : Nat} {ho : Option Addr} {hc : Nat} {xb : Option Addr} {xc : Nat} {xo : Option Addr} {yc : Nat} {r : RS} (h : Duo B wb g gx M L bo bc ho hc xb xc xo yc r) {pb : List Int} (hb : Byt pb) (hl : pb.length ≤ 3000)
    {tp : Option Addr} {np kp : Nat} {l : List Pm} {bo' : Option Addr} {bc' : Nat} {ho' : Option Addr} {hc' : Nat} (hp : Pks w4 tp np kp l) (hpl : l.map pl = (feed M L (ofR r) pb).2.1) (hr : Rd w4 g M L bo' bc' ho' hc' (feed M L (ofR r) pb).1) (hfs : Fs (ft g bo ho) wb (bf g bo' ho' tp l) w4)
    {tq : Option Addr} {nq kq : Nat} {lq : List Pm} {xb' : Option Addr} {xc' : Nat} {xo' : Option Addr} {yc' : Nat} (hq : Pks w5 tq nq kq lq) (hql : lq.map pl = (rfeed M L r pb).2.1) (hx : Xl w5 gx M L xb' xc' xo' yc' (rfeed M L r pb).1) (hfx : Fs (ft gx xb xo) w4 (bf gx xb' xo' tq lq) w5) (hB : B ≤ wb.heap.size) :
    Duo B w5 g gx M L bo' bc' ho' hc' xb' xc' xo' yc' (rfeed M L r pb).1 ∧ Pks w5 tp np kp l ∧ l.map pl = lq.map pl ∧ (feed M L (ofR r) pb).2.2 = (rfeed M L r pb).2.2 ∧
      (∀ k, pf tp l k ∨ pf tq lq k ∨ ft g bo' ho' k ∨ ft gx xb' xo' k → ft g bo ho k ∨ ft gx xb xo k ∨ wb.heap.size ≤ k) := by
  obtain ⟨e, hs⟩ := rfeed_sim M L h.xl.ok.m0 r pb h.sim h.rd.own.byt hb
  have e1 : ofR (rfeed M L r pb).1 = (feed M L (ofR r) pb).1 := congrArg Prod.fst e
  have e2 : (rfeed M L r pb).2 = (feed M L (ofR r) pb).2 := congrArg Prod.snd e
  have hx1 : ∀ k, ft gx xb xo k → k < wb.heap.size := fun k q => h.xl.ltf q
  have s1 : ∀ k, pf tp l k ∨ ft g bo' ho' k → ft g bo ho k ∨ wb.heap.size ≤ k := fun k q => by
    rcases q with q | q
    · exact hfs.src k (.inr q)
    · exact hfs.src k (.inl q)
  have s2 : ∀ k, pf tq lq k ∨ ft gx xb' xo' k → ft gx xb xo k ∨ w4.heap.size ≤ k := fun k q => by
    rcases q with q | q
    · exact hfx.src k (.inr q)
    · exact hfx.src k (.inl q)
  have dis : ∀ k, pf tp l k ∨ ft g bo' ho' k → ¬ ft gx xb xo k := fun k q p => by
    rcases s1 k q with q | q
    · exact h.apart k q p
    · have := hx1 k p; omega
  have hfew := (feed_holds M L (ofR r) pb h.rd.rl.ok h.rd.own.byt hb h.few (by have := h.held; simp only [ofR]; omega)).1
  have hsz := hfs.size
  refine ⟨⟨by rw [e1]; exact hr.fs hfx (fun k q => dis k (.inr q)), hx, fun k q => ?_, fun k q => ?_, fun k q p => ?_, hs, by rw [e1]; exact hfew⟩, hp.fs hfx (fun k q => dis k (.inl q)), by rw [hpl, hql, e2], by rw [e2], fun k q => ?_⟩
  · rcases s1 k (.inr q) with q | q
    · exact h.low k q
    · omega
  · rcases s2 k (.inr q) with q | q
    · exact h.xlow k q
    · omega
  · rcases s2 k (.inr p) with p | p
    · exact dis k (.inr q) p
    · have := hr.lt q; omega
  · rcases q with q | q | q | q
    · rcases s1 k (.inl q) with q | q
      · exact .inl q
      · exact .inr (.inr q)
    · rcases s2 k (.inl q) with q | q
      · exact .inr (.inl q)
      · exact .inr (.inr (by omega))
    · rcases s1 k (.inr q) with q | q
      · exact .inl q
      · exact .inr (.inr q)
    · rcases s2 k (.inr q) with q | q
      · exact .inr (.inl q)
      · exact .inr (.inr (by omega))

set_option maxHeartbeats 4000000 in
set_option maxRecDepth 20000 in
theorem lawPktScript (M L : Int) (lo : Option Addr) (ln lc : Nat) (xs : List Am) (w : World) (hl : Acs w lo ln lc xs) :
    Calls Try.prog 5 #[.int .i64 M, .int .i64 L, .slice lo ln lc] w fun e w' => e = .returned (.bool true) ∧ Below w.heap.size w w' := by
  have cl := hide (lives_any w)
  have hle := hl.le
  have hmx := hl.max
  have HL := hide hl
  have HLN := hide hl.len
  clear hl
  by_cases a1 : 1 ≤ M ∧ M ≤ 16777215 ∧ 0 ≤ L ∧ L ≤ 1073741824
  · have cn := hide (fun w => new_ok M L w a1.1 a1.2.1 a1.2.2.1 a1.2.2.2)
    have cx := hide (fun w => xnew_ok M L w a1.1 a1.2.1 a1.2.2.1 a1.2.2.2)
    obtain ⟨m0, m1, l0, l1⟩ := a1
    go_enter Try.func5, Try.ntmps5
    go_wp2_with (first
      | (go_at_call 16; refine (unhide cl).mono ?_; rintro e w1 ⟨rfl, b1⟩; have B1 := hide b1; have z1 := b1.size; clear b1)
      | (go_at_call 11; refine (unhide cn w1).mono ?_; rintro e w2 ⟨rfl, r2, b2⟩; have R2 := hide r2; have B2 := hide ((unhide B1).trans (b2.mono z1)); have z2 : w1.heap.size < w2.heap.size := r2.rl.lt; clear r2 b2)
      | (go_at_call 22; refine (unhide cx w2).mono ?_; rintro e w3 ⟨rfl, r3, b3⟩; have D3 := hide (show Duo w.heap.size w3 w1.heap.size w2.heap.size M L none 0 none 0 none 0 none 0 rs0 from ⟨(unhide R2).later b3, r3, (fun k q => by rcases q with q | q | q; omega; exact absurd q ob_none; exact absurd q ob_none), (fun k q => by rcases q with q | q | q; omega; exact absurd q ob_none; exact absurd q ob_none), (fun k q p => by
          rcases q with q | q | q
          · rcases p with p | p | p
            · omega
            · exact absurd p ob_none
            · exact absurd p ob_none
          · exact absurd q ob_none
          · exact absurd q ob_none), sim0 M, by simp [hln, ofR, rs0]; omega⟩); have B3 := hide ((unhide B2).trans (b3.mono (by omega))); clear r3 b3))
    go_loopw [11] (fun iv ws => ∃ (i : Nat) (r : RS) (bo : Option Addr) (bc : Nat) (ho : Option Addr) (hc : Nat) (xb : Option Addr) (xc : Nat) (xo : Option Addr) (yc : Nat), i ≤ 60 ∧ i ≤ ln ∧ iv = .int .i64 (i : Int) ∧ Duo w.heap.size ws w1.heap.size w2.heap.size M L bo bc ho hc xb xc xo yc r ∧ Below w.heap.size w ws) (fun iv _ => 60 - (intOf iv).toNat)
    case atStart => exact ⟨0, rs0, none, 0, none, 0, none, 0, none, 0, by omega, by omega, rfl, unhide D3, unhide B3⟩
    case round =>
      clear D3 B3 B2 B1 R2 cl cn cx
      obtain ⟨i, r, bo, bc, ho, hc, xb, xc, xo, yc, hi, hin, rfl, hD, hW⟩ := hrel
      have hz := hW.size
      by_cases ai : i < ln
      · by_cases a60 : i < 60
        · have ai' : (i : Int) < (ln : Int) := by omega
          have a60' : (i : Int) < 60 := by omega
          obtain ⟨p, hp⟩ : ∃ p, xs[i]? = some p := ⟨_, List.getElem?_eq_getElem (show i < xs.length by rw [unhide HLN]; exact ai)⟩
          obtain ⟨b, o, hix, e0, e1, e2, hbs, s0, s1⟩ := (unhide HL).at' i p hp
          have f0 := cell_later hW e0
          have f1 := cell_later hW e1
          have f2 := cell_later hW e2
          have cle := hbs.le
          have cmx := hbs.max
          have HBS := hide hbs
          obtain ⟨pk, pa, pc, pb, ps⟩ := p
          simp only at f0 f1 f2 s0 s1 cle cmx HBS
          clear hp e0 e1 e2 hbs
          have ba := below_alloc wr (.cells #[.int .i64 pk, .slice pa pb.length pc, .int .u8 ps] 48)
          have g0 : (wr.alloc (.cells #[.int .i64 pk, .slice pa pb.length pc, .int .u8 ps] 48)).cell? ⟨wr.heap.size, 0, none⟩ = some (.int .i64 pk) := cell_top wr _ _ 0 _ rfl
          have g1 : (wr.alloc (.cells #[.int .i64 pk, .slice pa pb.length pc, .int .u8 ps] 48)).cell? ⟨wr.heap.size, 1, none⟩ = some (.slice pa pb.length pc) := cell_top wr _ _ 1 _ rfl
          have g2 : (wr.alloc (.cells #[.int .i64 pk, .slice pa pb.length pc, .int .u8 ps] 48)).cell? ⟨wr.heap.size, 2, none⟩ = some (.int .u8 ps) := cell_top wr _ _ 2 _ rfl
          obtain ⟨wa, hwa⟩ : ∃ wa, wr.alloc (.cells #[.int .i64 pk, .slice pa pb.length pc, .int .u8 ps] 48) = wa := ⟨_, rfl⟩
          rw [hwa] at g0 g1 g2 ba
          have DA := hide (hD.later ba)
          have HFT := hide (And.intro (fun k q => hD.rd.lt (k := k) q) (fun k q => hD.xl.ltf (k := k) q))
          have hne1 : wr.heap.size ≠ w1.heap.size := by have := hD.rd.rl.lt; omega
          have hne2 : wr.heap.size ≠ w2.heap.size := by have := hD.xl.lt; omega
          have BA := hide (hW.trans (ba.mono hz))
          have za : w.heap.size ≤ wa.heap.size := (unhide BA).size
          have hva : wr.heap.size < wa.heap.size := by rw [← hwa]; simp
          clear hD hW ba
          by_cases a3 : pb.length ≤ 3000
          · have a3' : ¬ (3000 : Int) < (pb.length : Int) := by omega
            have cp := hide (fun w => pick_any pk 3 w (by omega) (by omega))
            go_wp2_with fail
            refine (unhide cp _).mono ?_
            rintro e wx ⟨⟨kk, rfl, k0, k1⟩, hwx⟩
            have hwx' := hwx.symm
            subst hwx'
            clear cp hwx
            by_cases a2 : kk = 2
            · subst a2
              have hsim := (unhide DA).sim
              have RA := hide ((unhide DA).rd.later (below_drew wa))
              have XA := hide ((unhide DA).xl.drew)
              have cE1 := hide (fun wy (q : Rd wy w1.heap.size M L bo bc ho hc (ofR r)) => expect_any wy q ps s0 s1)
              have cE2 := hide (fun wy (q : Xl wy w2.heap.size M L xb xc xo yc r) => xexpect_any wy q ps s0 s1)
              rw [xxE_sim M r hsim] at cE2
              have AP := hide (And.intro (fun k q => (unhide DA).apart k q) (fun k q p => (unhide DA).apart k p q))
              have KR := hide (show ∀ (wy wz : World) (sy : PS), Rd wy w1.heap.size M L bo bc ho hc sy → Gb w2.heap.size wy wz → Rd wz w1.heap.size M L bo bc ho hc sy from fun wy wz sy q G => q.keepB fun k p hl => G.block k hl (fun e => (unhide DA).apart k p (e ▸ .inl rfl)))
              have KX := hide (show ∀ (wy wz : World) (ry : RS), Xl wy w2.heap.size M L xb xc xo yc ry → Gb w1.heap.size wy wz → Xl wz w2.heap.size M L xb xc xo yc ry from fun wy wz ry q G => q.keepB fun k p hl => G.block k hl (fun e => (unhide DA).apart w1.heap.size (.inl rfl) (e ▸ p)))
              have KE := hide (fun (wy : World) q1 q2 => (unhide DA).expect (w1 := wy) ps s0 s1 q1 q2)
              have hg1 : w.heap.size ≤ w1.heap.size := z1
              have hg2 : w.heap.size ≤ w2.heap.size := by omega
              have BAd := hide (show Below w.heap.size w wa.drew from (unhide BA).trans ⟨rfl, rfl, rfl, Nat.le_refl _, fun _ _ => rfl⟩)
              have KB := hide (show ∀ (g : Nat) (wy wz : World), w.heap.size ≤ g → Below w.heap.size w wy → Gb g wy wz → Below w.heap.size w wz from fun g wy wz hg q G => q.trans ⟨G.os, G.tape, G.output, G.size, fun k hk => G.block k (by have := q.size; omega) (by omega)⟩)
              generalize exE (ofR r) = EE at *
              go_wp2_with fail
              go_cut [75] (fun v wy => v = .bool false ∧ Duo w.heap.size wy w1.heap.size w2.heap.size M L bo bc ho hc xb xc xo yc (xxS r ps) ∧ Below w.heap.size w wy)
              case first =>
                go_region_with (first
                  | (go_at_call 24; refine (unhide cE1 _ (by first | exact unhide RA | exact unhide RB (unhide RA))).mono ?_; rintro e w4 ⟨rfl, r4, g4⟩; have hv4 : wr.heap.size < w4.heap.size := Nat.lt_of_lt_of_le (by first | exact hva | exact hv5) g4.size; have g24 : w4.cell? ⟨wr.heap.size, 2, none⟩ = some (.int .u8 ps) := (g4.cell (a := ⟨wr.heap.size, 2, none⟩) (by first | exact hva | exact hv5) hne1).trans (by first | exact g2 | exact g25); have R4 := hide r4; have G4 := hide g4; have XB := hide (fun q => unhide KX _ w4 r q g4); clear r4 g4)
                  | (go_at_call 25; refine (unhide cE2 _ (by first | exact unhide XA | exact unhide XB (unhide XA))).mono ?_; rintro e w5 ⟨rfl, x5, g5⟩; have hv5 : wr.heap.size < w5.heap.size := Nat.lt_of_lt_of_le (by first | exact hva | exact hv4) g5.size; have g25 : w5.cell? ⟨wr.heap.size, 2, none⟩ = some (.int .u8 ps) := (g5.cell (a := ⟨wr.heap.size, 2, none⟩) (by first | exact hva | exact hv4) hne2).trans (by first | exact g2 | exact g24); have X5 := hide x5; have G5 := hide g5; have RB := hide (fun q => unhide KR _ w5 (ofR r) q g5); clear x5 g5))
                all_goals go_wp2_with fail
                all_goals go_meet
                all_goals first
                  | exact ⟨by simp, unhide KE _ (unhide KR _ _ _ (unhide R4) (unhide G5)) (unhide X5), unhide KB _ _ _ hg2 (unhide KB _ _ _ hg1 (unhide BAd) (unhide G4)) (unhide G5)⟩
                  | exact ⟨by simp, unhide KE _ (unhide R4) (unhide KX _ _ _ (unhide X5) (unhide G4)), unhide KB _ _ _ hg1 (unhide KB _ _ _ hg2 (unhide BAd) (unhide G5)) (unhide G4)⟩
              case rest =>
                clear KB BAd KE KX KR AP cE1 cE2 XA RA DA BA g0 g1 g2
                obtain ⟨rfl, dT, bT⟩ := hcut
                obtain ⟨wT, hwT⟩ : ∃ wy, wy = wc := ⟨_, rfl⟩
                rw [← hwT] at dT bT ⊢
                clear hwT
                obtain ⟨rT, hrT⟩ : ∃ ry, ry = xxS r ps := ⟨_, rfl⟩
                rw [← hrT] at dT
                clear hrT
                have cN := hide (fun j => next_any (wT.drewN j) (dT.rd.rl.drewN j))
                have cH := hide (fun j => held_any (wT.drewN j) (dT.rd.rl.drewN j))
                have cX := hide (fun j => xheld_any (wT.drewN j) (dT.xl.drewN j))
                have cS := hide (fun j => stopped_any (wT.drewN j) (dT.rd.rl.drewN j))
                have kx2 := dT.xl.c2
                have kx7 := dT.xl.c7
                rw [show (ofR rT).nx = rT.sq from rfl] at cN
                rw [show (ofR rT).why = rT.why from rfl] at cS
                have DT := hide dT
                have BT := hide bT
                clear dT bT
                generalize hln (ofR rT) = HH at *
                generalize rT.sq = SQ at *
                generalize rT.why = WY at *
                go_wp2_with fail
                go_quiet (first
                  | (go_at_call 27; refine Calls.quiet_of_same (unhide cN _))
                  | (go_at_call 14; refine Calls.quiet_of (unhide cH _))
                  | (go_at_call 28; refine Calls.quiet_of (unhide cX _))
                  | (go_at_call 17; refine Calls.quiet_of_same (unhide cS _)))
                go_wp2_with fail
                go_roundw
                case rel => exact ⟨i + 1, rT, _, _, _, _, _, _, _, _, by omega, by omega, by go_num, (unhide DT).later (below_drewN wT _), (unhide BT).trans ⟨rfl, rfl, rfl, Nat.le_refl _, fun _ _ => rfl⟩⟩
                case measure => simp [intOf]; omega
            · have a2' : (kk == 2) = false := by rw [beq_eq_false_iff_ne]; exact a2
              clear a2
              have bb := below_alloc wa (.cells #[] 5)
              have gu1 := (cell_under wa (.cells #[] 5) wr.heap.size 1 hva).trans g1
              have BB := hide bb
              have BAa := hide ((unhide BA).trans (bb.mono za))
              clear bb
              go_wp2_with (first
                | (at_builtin; refine wpList_app rfl (.tmp 76) (.tmp 78) rfl wa.heap.size _ _ _ _ rfl (Mine.empty wa) pa pb.length pc pb rfl ((unhide HBS).later (unhide BAa)) (by omega) (by simp) ?_; intro o1 k1 wb m1 b1; rw [Nat.zero_add, List.nil_append] at m1; have M1 := hide m1; have B1 := hide ((unhide BB).trans b1); clear m1 b1))
              have zb := (unhide B1).size
              have DB := hide ((unhide DA).later (unhide B1))
              have BBb := hide ((unhide BA).trans ((unhide B1).mono za))
              have gb1 := ((unhide B1).cell (p := ⟨wr.heap.size, 1, none⟩) hva).trans g1
              have hld := (unhide DB).held
              refine (feed_any wb (unhide DB).rd o1 pb.length k1 pb (unhide M1).bs (by omega) hld).mono ?_
              rintro e w4 ⟨tp, np, kp, l, bo', bc', ho', hc', rfl, hp, hpl, hr, hfs⟩
              have hft := (unhide HFT).1
              have hftx := (unhide HFT).2
              have g41 := (World.cell?_of_block (a := ⟨wr.heap.size, 1, none⟩) (hfs.block wr.heap.size (by omega) (fun q => by have := hft _ q; omega))).trans gb1
              have X4 := hide ((unhide DB).xl.fs hfs (fun k q a => (unhide DB).apart k a q))
              have B4 := hide ((unhide BBb).trans (hfs.below (by omega) (unhide DB).low))
              have M4 := hide ((unhide M1).fs hfs (fun k q a => by have := ((unhide M1).ob q).1; have := hft k a; omega))
              have z4 := hfs.size
              have HP := hide hp
              have HPL := hide hpl
              have HRr := hide hr
              have HFS := hide hfs
              clear hp hpl hr hfs gu1 BB BAa g0 g1 g2
              go_wp2_with fail
              refine (xfeed_any w4 (unhide X4) pa pb.length pc pb ((unhide HBS).later (unhide B4)) (by omega) hld).mono ?_
              rintro e w5 ⟨tq, nq, kq, lq, xb', xc', xo', yc', rfl, hq, hql, hx, hfx⟩
              obtain ⟨D5, P5, eP, eE, SRC⟩ := (unhide DB).fed (unhide HBS).byt a3 (unhide HP) (unhide HPL) (unhide HRr) (unhide HFS) hq hql hx hfx (by omega)
              have B5 := hide ((unhide B4).trans (hfx.below (by omega) (unhide DB).xlow))
              have M5 := hide ((unhide M4).fs hfx (fun k q a => by have := ((unhide M1).ob q).1; have := hftx k a; omega))
              have z5 := hfx.size
              have HD5 := hide D5
              have HP5 := hide P5
              have HQ5 := hide hq
              have HeP := hide eP
              have HSRC := hide (show ∀ k, pf tp l k ∨ pf tq lq k ∨ ft w1.heap.size bo' ho' k ∨ ft w2.heap.size xb' xo' k → ¬ ob o1 k by
                intro k q p
                have p1 := (unhide M1).ob p
                rcases SRC k q with q | q | q
                · have := hft k q; omega
                · have := hftx k q; omega
                · omega)
              rw [eE]
              obtain ⟨rT, hrT⟩ : ∃ ry, ry = (rfeed M L r pb).1 := ⟨_, rfl⟩
              rw [← hrT] at HD5
              generalize (rfeed M L r pb).2.2 = EE at *
              clear hq hql hx hfx D5 P5 eP eE SRC HP HPL HRr HFS X4 B4 M4 hrT DA DB BBb BA B1 g41 gb1 hft hftx
              have hpn : pb.length ≤ 3000 := a3
              generalize hPL : pb.length = PL at *
              have k1m := (unhide M5).bs.le
              have k1x := (unhide M5).bs.max
              go_wp2_with fail
              go_loopw [18] (fun kv ws => ∃ (k : Nat) (cs : List Int), k ≤ PL ∧ kv = .int .i64 (k : Int) ∧ Mine wa.heap.size ws o1 PL k1 cs ∧ Fs (ob o1) w5 (ob o1) ws) (fun kv _ => PL - (intOf kv).toNat)
              case atStart => exact ⟨0, pb, by omega, rfl, unhide M5, Fs.refl _ _⟩
              case round =>
                clear M5
                obtain ⟨k, cs, hk, rfl, hM, hF⟩ := hrel
                by_cases ak : k < PL
                · obtain ⟨go, hgo⟩ := hM.some (by omega)
                  subst hgo
                  have hcc := mine_cell hM ak
                  have hby := hM.byt.at k
                  have hfr := hM.free k
                  have ak' : (k : Int) < (PL : Int) := by omega
                  generalize cs[k]?.getD 0 = d at *
                  have HX := hide (show 0 ≤ bits BinOp.xor IntKind.u8 (if IntKind.u8.signed = true then -1 else IntKind.u8.max) d ∧ bits BinOp.xor IntKind.u8 (if IntKind.u8.signed = true then -1 else IntKind.u8.max) d ≤ 255 from xor_u8b 255 d (by omega) (by omega) hby.1 hby.2)
                  have HM := hide (fun v v0 v1 => hM.stored k v v0 v1)
                  have HF := hide (fun v => hF.set (g := go) ⟨_, rfl, rfl⟩ k v)
                  clear hM hF
                  go_wp2_with fail
                  go_roundw
                  case rel => exact ⟨k + 1, _, by omega, by go_num, unhide HM _ (unhide HX).1 (unhide HX).2, unhide HF _⟩
                  case measure => simp [intOf]; omega
                · have ak' : ¬ (k : Int) < (PL : Int) := by omega
                  obtain ⟨w6, hw6⟩ : ∃ wy, wy = wr := ⟨_, rfl⟩
                  have D6 := hide ((unhide HD5).keepB (w' := wr) fun k q hl => hF.block k hl (by rcases q with q | q; exact unhide HSRC k (.inr (.inr (.inl q))); exact unhide HSRC k (.inr (.inr (.inr q)))))
                  have P6 := (unhide HP5).fs hF (fun k q => unhide HSRC k (.inl q))
                  have Q6 := (unhide HQ5).fs hF (fun k q => unhide HSRC k (.inr (.inl q)))
                  have csp := hide (samePackets_any wr tp np kp tq nq kq l lq P6 Q6 (unhide HeP))
                  have B6 := hide ((unhide B5).trans (hF.below (by omega) (fun k q => by have := (hM.ob q).1; omega)))
                  clear hM hF P6 Q6 HD5 HP5 HQ5 HeP HSRC B5 hw6
                  go_wp2_with (first
                    | (go_at_call 13; refine (unhide csp).mono ?_; rintro e wT ⟨rfl, j, hwT⟩; have dT := (unhide D6).later (below_drewN wr j); have bT : Below w.heap.size w (wr.drewN j) := (unhide B6).trans ⟨rfl, rfl, rfl, Nat.le_refl _, fun _ _ => rfl⟩; rw [← hwT] at dT bT; clear hwT csp D6 B6))
                  have cN := hide (fun j => next_any (wT.drewN j) (dT.rd.rl.drewN j))
                  have cH := hide (fun j => held_any (wT.drewN j) (dT.rd.rl.drewN j))
                  have cX := hide (fun j => xheld_any (wT.drewN j) (dT.xl.drewN j))
                  have cS := hide (fun j => stopped_any (wT.drewN j) (dT.rd.rl.drewN j))
                  have kx2 := dT.xl.c2
                  have kx7 := dT.xl.c7
                  rw [show (ofR rT).nx = rT.sq from rfl] at cN
                  rw [show (ofR rT).why = rT.why from rfl] at cS
                  have DT := hide dT
                  have BT := hide bT
                  clear dT bT
                  generalize hln (ofR rT) = HH at *
                  generalize rT.sq = SQ at *
                  generalize rT.why = WY at *
                  go_wp2_with fail
                  go_quiet (first
                    | (go_at_call 27; refine Calls.quiet_of_same (unhide cN _))
                    | (go_at_call 14; refine Calls.quiet_of (unhide cH _))
                    | (go_at_call 28; refine Calls.quiet_of (unhide cX _))
                    | (go_at_call 17; refine Calls.quiet_of_same (unhide cS _)))
                  go_wp2_with fail
                  go_roundw
                  case rel => exact ⟨i + 1, rT, _, _, _, _, _, _, _, _, by omega, by omega, by go_num, (unhide DT).later (below_drewN wT _), (unhide BT).trans ⟨rfl, rfl, rfl, Nat.le_refl _, fun _ _ => rfl⟩⟩
                  case measure => simp [intOf]; omega
          · have a3' : (3000 : Int) < (pb.length : Int) := by omega
            go_wp2_with fail
            go_ret
            exact ⟨rfl, unhide BA⟩
        · have a60' : ¬ (i : Int) < 60 := by omega
          have ai' : (i : Int) < (ln : Int) := by omega
          clear hD
          go_wp2_with fail
          go_ret
          exact ⟨rfl, hW⟩
      · have ai' : ¬ (i : Int) < (ln : Int) := by omega
        clear hD
        go_wp2_with fail
        go_ret
        exact ⟨rfl, hW⟩
  · have cn := hide (fun w => new_bad M L w a1)
    have cx := hide (fun w => xnew_bad M L w a1)
    clear a1
    go_enter Try.func5, Try.ntmps5
    go_wp2_with (first
      | (go_at_call 16; refine (unhide cl).mono ?_; rintro e w1 ⟨rfl, b1⟩; have B1 := hide b1; clear b1)
      | (go_at_call 11; refine same_world (unhide cn _) ?_)
      | (go_at_call 22; refine same_world (unhide cx _) ?_))
    go_ret
    exact ⟨rfl, unhide B1⟩

end Go.Proofs.Ytoblnmbbdhagbaa
