/-
  What Feed and Expect of package packet do: the plain functions feed and ex. Conditions: at most 10 to the 9 bytes at a time, that lie apart from the reader.
-/
import Derived.Test.YtbolaljlhmakeaaGreatDoorPktHead
namespace Go.Proofs.YtbolaljlhmakeaaGreatDoor.Pkt
open Go.RowKit
set_option linter.unusedVariables false
set_option linter.unusedSimpArgs false

/-- The blocks of a reader and of a list of packets. -/
def bf (g : Nat) (bo ho to : Option Addr) (l : List Pm) (k : Nat) : Prop := ft g bo ho k ∨ pf to l k
/-- What was told so far, apart from the reader. -/
structure Tl (w : World) (g : Nat) (bo ho to : Option Addr) (tn tc : Nat) (l : List Pm) : Prop where
  own : KMine w to tn tc l
  bod : Bods w l
  d1 : ∀ k, ob to k → ¬ ft g bo ho k
  d2 : ∀ p ∈ l, ∀ k, ob p.ao k → ¬ ft g bo ho k ∧ ¬ ob to k ∧ k < w.heap.size
theorem Tl.nought (w : World) (g : Nat) (bo ho : Option Addr) : Tl w g bo ho none 0 0 [] := ⟨KMine.nought w, (fun p hp => by cases hp), fun k h => absurd h ob_none, fun p hp => by cases hp⟩
theorem Tl.fs {w w' : World} {g : Nat} {bo ho bo' ho' to : Option Addr} {tn tc : Nat} {l : List Pm} (h : Tl w g bo ho to tn tc l) (f : Fs (ft g bo ho) w (ft g bo' ho') w') : Tl w' g bo' ho' to tn tc l := by
  refine ⟨h.own.fs f h.d1, h.bod.fs f (fun p hp k hk => (h.d2 p hp k hk).1), fun k hk hf => ?_, fun p hp k hk => ⟨fun hf => ?_, (h.d2 p hp k hk).2.1, Nat.lt_of_lt_of_le (h.d2 p hp k hk).2.2 f.size⟩⟩
  · rcases f.src k hf with q | q
    · exact h.d1 k hk q
    · have := h.own.ob hk; omega
  · rcases f.src k hf with q | q
    · exact (h.d2 p hp k hk).1 q
    · have := (h.d2 p hp k hk).2.2; omega
theorem Tl.same {w w' : World} {g : Nat} {bo ho to : Option Addr} {tn tc : Nat} {l : List Pm} (h : Tl w g bo ho to tn tc l) (hb : Below w.heap.size w w') : Tl w' g bo ho to tn tc l := h.fs (Fs.of hb fun k q => .inl q)
theorem Tl.push {w w3 : World} {g : Nat} {bo ho to to1 : Option Addr} {tn tc c1 : Nat} {l : List Pm} {p : Pm} (h : Tl w g bo ho to tn tc l) (hM : KMine w3 to1 (tn + 1) c1 (l ++ [p])) (f : Fs (ob to) w (ob to1) w3)
    (hp : Bs w p.ao p.bs.length p.cap p.bs) (hd : ∀ k, ob p.ao k → ¬ ft g bo ho k ∧ ¬ ob to k ∧ k < w.heap.size) (hf : ∀ k, ft g bo ho k → k < w.heap.size) : Tl w3 g bo ho to1 (tn + 1) c1 (l ++ [p]) := by
  have all : ∀ x ∈ l ++ [p], Bs w x.ao x.bs.length x.cap x.bs ∧ ∀ k, ob x.ao k → ¬ ft g bo ho k ∧ ¬ ob to k ∧ k < w.heap.size := by
    intro x hx
    rcases List.mem_append.1 hx with hx | hx
    · exact ⟨h.bod x hx, h.d2 x hx⟩
    · simp at hx; subst hx; exact ⟨hp, hd⟩
  refine ⟨hM, fun x hx => (all x hx).1.fs f (fun k hk => ((all x hx).2 k hk).2.1), fun k hk hq => ?_, fun x hx k hk => ⟨((all x hx).2 k hk).1, fun hq => ?_, Nat.lt_of_lt_of_le ((all x hx).2 k hk).2.2 f.size⟩⟩
  · rcases f.src k hk with q | q
    · exact h.d1 k q hq
    · have := hf k hq; omega
  · rcases f.src k hq with q | q
    · exact ((all x hx).2 k hk).2.1 q
    · have := ((all x hx).2 k hk).2.2; omega

section
variable {w : World} {g : Nat} {M L : Int} {bo : Option Addr} {bc : Nat} {ho : Option Addr} {hc : Nat} {s : PS}
/-- What is held lies in another row. -/
theorem Rl.reheld (h : Rl w g M L bo bc ho hc s) {w2 : World} {ho2 : Option Addr} {n hc2 : Nat} {bs : List Int} (hM : Mine 0 w2 ho2 n hc2 bs) (f : Fs (ob ho) w (ob ho2) w2) (hk : Sok M L { s with held := bs }) :
    (w2.cell? ⟨g, 4, none⟩ = some (.slice ho s.held.length hc) ∧ w2.frozen? ⟨g, 4, none⟩ = false) ∧ Rd (w2.setCell ⟨g, 4, none⟩ (.slice ho2 n hc2)) g M L bo bc ho2 hc2 { s with held := bs } ∧ Fs (ft g bo ho) w (ft g bo ho2) (w2.setCell ⟨g, 4, none⟩ (.slice ho2 n hc2)) := by
  have e1 : w2.heap[g]? = some (.cells (rv M L bo bc ho hc s) 72 (0, 0)) := by rw [f.block g h.lt h.gh]; exact h.st
  have e2 := heap_setCell_same w2 g 4 _ _ (.slice ho2 n hc2) e1
  have G : Gb g w2 (w2.setCell ⟨g, 4, none⟩ (.slice ho2 n hc2)) := (Gb.refl g w2).set 4 _
  have hg2 : ¬ ob ho2 g := fun q => by
    rcases f.src g q with q | q
    · exact h.gh q
    · have := h.lt; omega
  have hl := hM.len
  have own : Mine 0 (w2.setCell ⟨g, 4, none⟩ (.slice ho2 n hc2)) ho2 bs.length hc2 bs := by rw [hl]; exact hM.keepB fun k hk => G.block k (hM.ob hk).2 (fun e => hg2 (e ▸ hk))
  refine ⟨⟨by rw [cell_of_row _ g 4 _ _ _ e1]; rfl, frozen_of_row _ g 4 _ _ e1⟩, ⟨⟨?_, ?_, own.bs, h.gb, hg2, fun k a b => ?_, fun k a => ?_, hk⟩, own⟩, ?_⟩
  · rw [e2]
    simp [rv, hl]
  · refine h.body.keepB fun k hk => ?_
    rw [G.block k (Nat.lt_of_lt_of_le (h.body.ob hk).2 f.size) (fun e => h.gb (e ▸ hk)), f.block k (h.body.ob hk).2 (h.bh k hk)]
  · rcases f.src k b with q | q
    · exact h.bh k a q
    · have := (h.body.ob a).2; omega
  · exact Nat.lt_of_lt_of_le (hM.ob a).2 G.size
  · refine (f.weak (T := ft g bo ho) (T' := ft g bo ho2) (fun k q => .inr (.inr q)) (fun k q => ?_)).trans (Fs.gb G (.inl rfl))
    rcases q with q | q | q
    · exact .inl (.inl q)
    · exact .inl (.inr (.inl q))
    · exact .inr q
end

/-- What Expect answers, and leaves. -/
def exE (s : PS) : Int := if s.why ≠ 0 then 9 else if 0 < hln s then 5 else 0
def exS (s : PS) (q : Int) : PS := if exE s = 0 then { s with nx := q } else s

section
variable {g : Nat} {M L : Int} {bo : Option Addr} {bc : Nat} {ho : Option Addr} {hc : Nat} {s : PS}
theorem Rd.numbered {w : World} (h : Rd w g M L bo bc ho hc s) (q : Int) (q0 : 0 ≤ q) (q1 : q ≤ 255) : Rd (w.setCell ⟨g, 2, none⟩ (.int .u8 q)) g M L bo bc ho hc { s with nx := q } := by
  have e := heap_setCell_same w g 2 _ _ (.int .u8 q) h.rl.st
  have G : Gb g w (w.setCell ⟨g, 2, none⟩ (.int .u8 q)) := (Gb.refl g w).set 2 _
  have ok : Sok M L { s with nx := q } := ⟨h.rl.ok.m0, h.rl.ok.m1, h.rl.ok.l0, h.rl.ok.l1, q0, q1, h.rl.ok.bl, h.rl.ok.hl, h.rl.ok.w0, h.rl.ok.w1⟩
  have own := h.own.keepB (w' := w.setCell ⟨g, 2, none⟩ (.int .u8 q)) fun k hk => G.block k (h.own.ob hk).2 (fun e => h.rl.gh (e ▸ hk))
  exact ⟨⟨by rw [e]; simp [rv], h.rl.body.keepB fun k hk => G.block k (h.rl.body.ob hk).2 (fun e => h.rl.gb (e ▸ hk)), own.bs, h.rl.gb, h.rl.gh, h.rl.bh, fun k a => Nat.lt_of_lt_of_le (h.rl.hlt k a) G.size, ok⟩, own⟩

/-- A slice's length. -/
def sln : Value → Nat
  | .slice _ n _ => n
  | _ => 0
/-- What a reader holds that was not told, as its cell has it. -/
def hlAt (g : Nat) (w : World) : Nat := match w.cell? ⟨g, 4, none⟩ with
  | some (.slice _ n _) => n
  | _ => 0
theorem Rl.hlAt {w : World} (h : Rl w g M L bo bc ho hc s) : hlAt g w = s.held.length := by unfold Proofs.YtbolaljlhmakeaaGreatDoor.Pkt.hlAt; rw [h.c4]

/-- Behind Feed: what is told, the reader, which blocks have changed. -/
def OutF (w : World) (g : Nat) (M L : Int) (bo ho : Option Addr) (R : PS × List Pk × Int) (e : Ending) (w' : World) : Prop :=
  ∃ to tn tc l bo' bc' ho' hc', e = .returned (.tuple #[.slice to tn tc, .int .i64 R.2.2]) ∧ Tl w' g bo' ho' to tn tc l ∧ l.map pl = R.2.1 ∧ Rd w' g M L bo' bc' ho' hc' R.1 ∧ Fs (ft g bo ho) w (bf g bo' ho' to l) w'

theorem _root_.Go.Proofs.YtbolaljlhmakeaaGreatDoor.Fs.ft_bf {S : Nat → Prop} {a w w' : World} {bo ho bo' ho' to : Option Addr} {l : List Pm} (h : Fs S a (bf g bo ho to l) w) (f : Fs (ft g bo ho) w (ft g bo' ho') w') : Fs S a (bf g bo' ho' to l) w' := by
  refine h.trans (f.weak (fun k q => .inl q) fun k q => ?_)
  rcases q with q | q
  · exact .inr q
  · exact .inl (.inr q)

set_option maxHeartbeats 8000000 in
set_option maxRecDepth 20000 in
theorem feed_any (w : World) (h : Rd w g M L bo bc ho hc s) (ao : Option Addr) (n c : Nat) (cs : List Int) (hb : Bs w ao n c cs) (hn : n ≤ 900000000) (hl : s.held.length ≤ 1100000000) :
    Calls Tryz.prog 21 #[.pointer (some ⟨g, 0, none⟩), .slice ao n c] w fun e w' => OutF w g M L bo ho (feed M L s cs) e w' := by
  obtain ⟨R, hR⟩ : ∃ R, R = feed M L s cs := ⟨_, rfl⟩
  rw [← hR]
  have c4 := h.rl.c4
  have c5 := h.rl.c5
  have cm := hide (isMade_any w h.rl)
  have hcl := hb.len
  by_cases a1 : s.why = 0
  · have b1 : (s.why != 0) = false := by rw [bne_eq_false_iff_eq]; exact a1
    have hR' : R = lp M L (s.held ++ cs).length { s with held := s.held ++ cs } [] := by rw [hR]; unfold feed; rw [if_neg (by simp [a1])]
    have hok : Sok M L { s with held := s.held ++ cs } := ⟨h.rl.ok.m0, h.rl.ok.m1, h.rl.ok.l0, h.rl.ok.l1, h.rl.ok.n0, h.rl.ok.n1, h.rl.ok.bl, by simp; omega, h.rl.ok.w0, h.rl.ok.w1⟩
    have HR := hide hR'
    have HH := hide h
    have HB := hide hb
    have HK := hide hok
    have HCL := hide hcl
    have hle := hb.le
    have hmx := hb.max
    clear h hb hR hR' hok a1 hcl
    go_enter Tryz.func21, Tryz.ntmps21
    go_wp2_with (first
      | (go_at_call 34; refine same_world (unhide cm) ?_)
      | (at_builtin; refine wpList_appS rfl (.tmp 22) (.tmp 23) rfl 0 ho s.held.length hc s.held rfl (unhide HH).own ao n c cs rfl (unhide HB) (by omega) (Nat.zero_le _) ?_; intro ho2 hc2 w2 hM hF; obtain ⟨⟨j4, jf4⟩, R2, F2⟩ := (unhide HH).rl.reheld hM hF (unhide HK); have HR2 := hide R2; have HF2 := hide F2; clear hM hF R2 F2))
    go_loopw [6, 7] (fun cv v ws => ∃ (f : Nat) (s' : PS) (t : List Pk) (to : Option Addr) (tn tc : Nat) (l : List Pm) (bo' : Option Addr) (bc' : Nat) (ho' : Option Addr) (hc' : Nat) (b : Bool), s'.held.length ≤ f ∧ R = lp M L f s' t ∧ cv = .bool b ∧ v = .slice to tn tc ∧ l.map pl = t ∧ Rl ws g M L bo' bc' ho' hc' s' ∧ Tl ws g bo' ho' to tn tc l ∧ Fs (ft g bo ho) w (bf g bo' ho' to l) ws ∧ (b = false → Mine 0 ws ho' s'.held.length hc' s'.held) ∧ tn + s'.held.length ≤ 2000000000) (fun _ _ ws => hlAt g ws)
    case atStart =>
      refine ⟨_, _, _, none, 0, 0, [], bo, bc, ho2, hc2, false, Nat.le_refl _, unhide HR, rfl, rfl, rfl, (unhide HR2).rl, Tl.nought _ _ _ _, (unhide HF2).weak (fun k q => q) (fun k q => ?_), fun _ => (unhide HR2).own, ?_⟩
      · rcases q with q | q | q
        · exact .inr q
        · exact absurd q ob_none
        · obtain ⟨p, hp, _⟩ := q; cases hp
      · have := (unhide HK).hl
        simp only at this ⊢
        omega
    case round =>
      clear HR HR2 HF2 HH HB HK j4 jf4 c4 c5 cm b1
      obtain ⟨f, s', t, to, tn, tc, l, bo', bc', ho', hc', b, hf, hR, rfl, rfl, hlt, hr, ht, hF, hO, htn⟩ := hrel
      have k4 := hr.c4
      have hb' : s'.body.length ≤ 2000000000 := by have := hr.ok.bl; have := hr.ok.l1; omega
      have hh' := hr.ok.hl
      have hm0 := hr.ok.m0
      have hm1 := hr.ok.m1
      have HLT := hide hlt
      by_cases a4 : s'.held.length < 4
      · have HRx := hide (show R = (s', t, 0) by rw [hR, lp_short a4])
        have HX := hide hr
        have TX := hide ht
        have FX := hide hF
        have OX := hide hO
        have hlt4 : (s'.held.length : Int) < 4 := by omega
        have ba4 : decide (4 ≤ (s'.held.length : Int)) = false := by simp; omega
        clear hR hr ht hF hO hlt hf a4
        obtain ⟨wx, hwx⟩ : ∃ wx, wx = wr := ⟨_, rfl⟩
        rw [← hwx] at HX TX FX OX k4 ⊢
        clear hwx
        cases b with
        | false =>
          have O0 := hide (unhide OX rfl)
          clear OX
          go_wp2_with fail
          go_ret2
          rw [unhide HRx]
          exact ⟨to, tn, tc, l, bo', bc', ho', hc', rfl, unhide TX, unhide HLT, ⟨unhide HX, unhide O0⟩, unhide FX⟩
        | true =>
          have cl := hide (clone_any ho' s'.held.length hc' s'.held wx (unhide HX).held (by omega))
          go_wp2_with (first
            | (go_at_call 39; refine (unhide cl).mono ?_; rintro e w2 ⟨ho2, hc2, rfl, m2, b2⟩; obtain ⟨⟨q4, qf4⟩, R2, F2⟩ := (unhide HX).reheld (m2.mono (Nat.zero_le _)) (Fs.of b2 (fun k q => .inr (m2.ob q).1)) (unhide HX).ok; have HR2 := hide R2; have HT2 := hide ((unhide TX).fs F2); have HF2 := hide ((unhide FX).ft_bf F2); clear m2 b2 R2 F2))
          go_ret2
          rw [unhide HRx]
          exact ⟨to, tn, tc, l, bo', bc', ho2, hc2, rfl, unhide HT2, unhide HLT, unhide HR2, unhide HF2⟩
      · have hge : (4 : Int) ≤ (s'.held.length : Int) := by omega
        have hd := hide (headSize_any wr hr (by omega))
        have hrg := hdE_range M L s'
        by_cases ae : hdE M L s' = 0
        · have hv : hdV M L s' = (hdN s' : Int) := by unfold hdV; rw [if_pos ae, hdN_int hr.held.byt]
          rw [ae, hv] at hd
          have hN := hdN_lt hr.held.byt
          have hNi := hdN_int hr.held.byt
          have hE := hdE_ok ae
          by_cases ap : s'.held.length < 4 + hdN s'
          · have HRx := hide (show R = (s', t, 0) by rw [hR, lp_part hf a4 ae ap])
            have bp : (s'.held.length : Int) - 4 < (hdN s' : Int) := by omega
            have HX0 := hide hr
            have TX0 := hide ht
            have FX0 := hide hF
            have OX0 := hide hO
            clear hR hr ht hF hO hlt hf ae hv hE hNi a4
            generalize hdN s' = N at *
            cases b with
            | false =>
              have O1 := hide (unhide OX0 rfl)
              clear OX0
              go_wp2_with (first
                | (go_at_call 35; refine (unhide hd).mono ?_; rintro e wx ⟨rfl, nn, hwx⟩; have HX := hide (show Rl wx g M L bo' bc' ho' hc' s' by rw [hwx]; exact (unhide HX0).drewN nn); have TX := hide (show Tl wx g bo' ho' to tn tc l by rw [hwx]; exact (unhide TX0).same (below_drewN _ _)); have FX := hide (show Fs (ft g bo ho) w (bf g bo' ho' to l) wx by rw [hwx]; exact (unhide FX0).drewN nn); have kx4 := (unhide HX).c4; have O0 := hide (show Mine 0 wx ho' s'.held.length hc' s'.held by rw [hwx]; exact (unhide O1).keepB fun _ _ => rfl); clear hwx HX0 TX0 FX0 O1))
              go_ret2
              rw [unhide HRx]
              exact ⟨to, tn, tc, l, bo', bc', ho', hc', rfl, unhide TX, unhide HLT, ⟨unhide HX, unhide O0⟩, unhide FX⟩
            | true =>
              have cl := hide (fun wx (hx : Rl wx g M L bo' bc' ho' hc' s') => clone_any ho' s'.held.length hc' s'.held wx hx.held (by omega))
              go_wp2_with (first
                | (go_at_call 35; refine (unhide hd).mono ?_; rintro e wx ⟨rfl, nn, hwx⟩; have HX := hide (show Rl wx g M L bo' bc' ho' hc' s' by rw [hwx]; exact (unhide HX0).drewN nn); have TX := hide (show Tl wx g bo' ho' to tn tc l by rw [hwx]; exact (unhide TX0).same (below_drewN _ _)); have FX := hide (show Fs (ft g bo ho) w (bf g bo' ho' to l) wx by rw [hwx]; exact (unhide FX0).drewN nn); have kx4 := (unhide HX).c4; clear hwx HX0 TX0 FX0)
                | (go_at_call 39; refine (unhide cl wx (unhide HX)).mono ?_; rintro e w2 ⟨ho2, hc2, rfl, m2, b2⟩; obtain ⟨⟨q4, qf4⟩, R2, F2⟩ := (unhide HX).reheld (m2.mono (Nat.zero_le _)) (Fs.of b2 (fun k q => .inr (m2.ob q).1)) (unhide HX).ok; have HR2 := hide R2; have HT2 := hide ((unhide TX).fs F2); have HF2 := hide ((unhide FX).ft_bf F2); clear m2 b2 R2 F2))
              go_ret2
              rw [unhide HRx]
              exact ⟨to, tn, tc, l, bo', bc', ho2, hc2, rfl, unhide HT2, unhide HLT, unhide HR2, unhide HF2⟩
          · have bp : ¬ (s'.held.length : Int) - 4 < (hdN s' : Int) := by omega
            have hk := hr.ok.tk hr.held.byt ae
            have hLb : (s'.body.length : Int) + (hdN s' : Int) ≤ L := by omega
            have HX0 := hide hr
            have TX0 := hide ht
            have FX0 := hide hF
            have ct := hide (fun wx (hx : Rl wx g M L bo' bc' ho' hc' s') => takeFrame_any wx hx (hdN s') (by omega) hLb hk (hdN s' : Int) rfl)
            have TN : tn + (s'.held.drop (4 + hdN s')).length + 4 ≤ 2000000000 := by rw [List.length_drop]; omega
            have HTN := hide TN
            have HLS : (s'.held.drop (4 + hdN s')).length + 4 ≤ s'.held.length := by rw [List.length_drop]; omega
            have HLw := hide hr.hlAt
            by_cases am : (hdN s' : Int) < M
            · obtain ⟨f', hf', _, hRt⟩ := lp_tell (t := t) hf a4 ae (by omega) am
              have HRn := hide (hR.trans hRt)
              have HF' := hide hf'
              obtain ⟨s1, hs1⟩ : ∃ s1, s1 = tkF (hdN s') s' := ⟨_, rfl⟩
              rw [← hs1] at ct HRn
              have Hh1 := hide (show s1.held = s'.held.drop (4 + hdN s') by rw [hs1]; rfl)
              have HLS' := hide HLS
              clear hR hr ht hF hO hlt hf ae hv hE hNi a4 hf' hRt hk hLb hs1 TN HLS
              generalize s'.held.drop (4 + hdN s') = HD at *
              generalize hdN s' = N at *
              go_wp2_with (first
                | (go_at_call 35; refine (unhide hd).mono ?_; rintro e wx ⟨rfl, nn, hwx⟩; have HX := hide (show Rl wx g M L bo' bc' ho' hc' s' by rw [hwx]; exact (unhide HX0).drewN nn); have TX := hide (show Tl wx g bo' ho' to tn tc l by rw [hwx]; exact (unhide TX0).same (below_drewN _ _)); have FX := hide (show Fs (ft g bo ho) w (bf g bo' ho' to l) wx by rw [hwx]; exact (unhide FX0).drewN nn); have kx4 := (unhide HX).c4; clear hwx HX0 TX0 FX0)
                | (go_at_call 37; refine (unhide ct wx (unhide HX)).mono ?_; rintro e w1 ⟨rfl, bo1, bc1, ho1, hc1, r1, f1⟩; have k0 := r1.c0; have ctp := hide (takePayload_any w1 r1); have R1 := hide r1; have T1 := hide ((unhide TX).fs f1); have F1 := hide ((unhide FX).ft_bf f1); clear r1 f1)
                | (go_at_call 38; refine (unhide ctp).mono ?_; rintro e w2 ⟨p, he, hpl, hpa, hpo, hpb, r2, g2⟩; obtain ⟨psq, pnx, pa, pc, pb⟩ := p; simp only [pv] at he; subst he; have hpd : ∀ k, ob pa k → ¬ ft g none ho1 k ∧ ¬ ob to k ∧ k < w2.heap.size := (by
                    intro k hk
                    simp only at hpa
                    subst hpa
                    refine ⟨fun q => ?_, fun q => (unhide T1).d1 k q (.inr (.inl hk)), Nat.lt_of_lt_of_le ((unhide R1).body.ob hk).2 g2.size⟩
                    rcases q with q | q | q
                    · exact (unhide R1).gb (q ▸ hk)
                    · exact ob_none q
                    · exact (unhide R1).bh k hk q); have T2 := hide ((unhide T1).fs (bo' := none) (ho' := ho1) ((Fs.gb (S := ft g bo1 ho1) g2 (.inl rfl)).weak (fun k q => q) (fun k q => .inl (by rcases q with q | q | q; exact .inl q; exact absurd q ob_none; exact .inr (.inr q))))); have F2 := hide ((unhide F1).trans ((Fs.gb (S := bf g bo1 ho1 to l) g2 (.inl (.inl rfl))).weak (T' := bf g none ho1 to (l ++ [⟨psq, pnx, pa, pc, pb⟩])) (fun k q => q) (fun k q => .inl (by
                    rcases q with (q | q | q) | q | ⟨x, hx, q⟩
                    · exact .inl (.inl q)
                    · exact absurd q ob_none
                    · exact .inl (.inr (.inr q))
                    · exact .inr (.inl q)
                    · rcases List.mem_append.1 hx with hx | hx
                      · exact .inr (.inr ⟨x, hx, q⟩)
                      · simp at hx; subst hx; simp only at hpa; exact .inl (.inr (.inl (hpa ▸ q))))))); have R2 := hide r2; have HPl := hide hpl; have HPo := hide hpo; have HPb := hide hpb; have HPd := hide hpd; clear hpl hpa hpo hpb r2 g2 hpd ctp k0)
                | (at_builtin; have ba := below_alloc w2 (.cells #[.int .u8 psq, .int .u8 pnx, .slice pa pb.length pc] 58); have T3 := hide ((unhide T2).same ba); have R3 := hide ((unhide R2).later ba); refine wpList_kapp rfl (.tmp 62) (.tmp 65) rfl to tn tc l rfl (unhide T3).own w2.heap.size ⟨psq, pnx, pa, pc, pb⟩ (unhide HPo) rfl (heap_alloc_new w2 _) (by omega) ?_; intro to4 tc4 w4 hM4 f4; have T4 := hide ((unhide T3).push hM4 f4 ((unhide HPb).later ba) (fun k hk => ⟨(unhide HPd k hk).1, (unhide HPd k hk).2.1, Nat.lt_of_lt_of_le (unhide HPd k hk).2.2 ba.size⟩) (fun k q => (unhide R3).ltf q)); have R4 := hide ((unhide R3).fs f4 (fun k q a => (unhide T3).d1 k a q)); have F4 := hide ((unhide F2).trans ((Fs.of (S := bf g none ho1 to (l ++ [⟨psq, pnx, pa, pc, pb⟩])) ba (fun k q => .inl q)).trans (f4.weak (T' := bf g none ho1 to4 (l ++ [⟨psq, pnx, pa, pc, pb⟩])) (fun k q => .inr (.inl q)) (fun k q => by
                    rcases q with q | q | q
                    · exact .inl (.inl q)
                    · exact .inr q
                    · exact .inl (.inr (.inr q)))))); clear hM4 f4 ba))
              go_roundw
              case rel =>
                refine ⟨f', { s1 with body := [] }, _, to4, tn + 1, tc4, _, none, 0, ho1, hc1, true, by rw [show ({ s1 with body := [] } : PS).held = HD from unhide Hh1]; exact unhide HF', unhide HRn, rfl, rfl, by rw [List.map_append, unhide HLT, List.map_cons, List.map_nil, unhide HPl], unhide R4, unhide T4, unhide F4, (fun q => by cases q), by rw [show ({ s1 with body := [] } : PS).held = HD from unhide Hh1]; have := unhide HTN; omega⟩
              case measure =>
                have e1 := (unhide R4).hlAt
                rw [show ({ s1 with body := [] } : PS).held = HD from unhide Hh1] at e1
                rw [e1, unhide HLw]
                have := unhide HLS'
                omega
            · obtain ⟨f', hf', _, hRt⟩ := lp_go (t := t) hf a4 ae (by omega) am
              have HRn := hide (hR.trans hRt)
              have HF' := hide hf'
              obtain ⟨s1, hs1⟩ : ∃ s1, s1 = tkF (hdN s') s' := ⟨_, rfl⟩
              rw [← hs1] at ct HRn
              have Hh1 := hide (show s1.held = s'.held.drop (4 + hdN s') by rw [hs1]; rfl)
              have HLS' := hide HLS
              clear hR hr ht hF hO hlt hf ae hv hE hNi a4 hf' hRt hk hLb hs1 TN HLS
              generalize s'.held.drop (4 + hdN s') = HD at *
              generalize hdN s' = N at *
              go_wp2_with (first
                | (go_at_call 35; refine (unhide hd).mono ?_; rintro e wx ⟨rfl, nn, hwx⟩; have HX := hide (show Rl wx g M L bo' bc' ho' hc' s' by rw [hwx]; exact (unhide HX0).drewN nn); have TX := hide (show Tl wx g bo' ho' to tn tc l by rw [hwx]; exact (unhide TX0).same (below_drewN _ _)); have FX := hide (show Fs (ft g bo ho) w (bf g bo' ho' to l) wx by rw [hwx]; exact (unhide FX0).drewN nn); have kx4 := (unhide HX).c4; clear hwx HX0 TX0 FX0)
                | (go_at_call 37; refine (unhide ct wx (unhide HX)).mono ?_; rintro e w1 ⟨rfl, bo1, bc1, ho1, hc1, r1, f1⟩; have k0 := r1.c0; have R1 := hide r1; have T1 := hide ((unhide TX).fs f1); have F1 := hide ((unhide FX).ft_bf f1); clear r1 f1))
              go_roundw
              case rel =>
                refine ⟨f', s1, t, to, tn, tc, l, bo1, bc1, ho1, hc1, true, by rw [unhide Hh1]; exact unhide HF', unhide HRn, rfl, rfl, unhide HLT, unhide R1, unhide T1, unhide F1, (fun q => by cases q), by rw [unhide Hh1]; have := unhide HTN; omega⟩
              case measure =>
                have e1 := (unhide R1).hlAt
                rw [unhide Hh1] at e1
                rw [e1, unhide HLw]
                have := unhide HLS'
                omega
        · have be : (hdE M L s' != 0) = true := by rw [bne_iff_ne]; exact ae
          have HRx := hide (show R = (stp (hdE M L s') s', t, hdE M L s') by rw [hR, lp_err hf a4 ae])
          have HX0 := hide hr
          have TX0 := hide ht
          have FX0 := hide hF
          have cs' := hide (fun wx (hx : Rl wx g M L bo' bc' ho' hc' s') => stop_any wx hx (hdE M L s') hrg.1 hrg.2)
          clear hR hr ht hF hO hlt hf ae a4
          generalize hdE M L s' = E at *
          generalize hdV M L s' = V at *
          go_wp2_with (first
            | (go_at_call 35; refine (unhide hd).mono ?_; rintro e wx ⟨rfl, nn, hwx⟩; have HX := hide (show Rl wx g M L bo' bc' ho' hc' s' by rw [hwx]; exact (unhide HX0).drewN nn); have TX := hide (show Tl wx g bo' ho' to tn tc l by rw [hwx]; exact (unhide TX0).same (below_drewN _ _)); have FX := hide (show Fs (ft g bo ho) w (bf g bo' ho' to l) wx by rw [hwx]; exact (unhide FX0).drewN nn); clear hwx HX0 TX0 FX0)
            | (go_at_call 36; refine (unhide cs' wx (unhide HX)).mono ?_; rintro e w1 ⟨rfl, r1, g1⟩; have R1 := hide r1; have f1 : Fs (ft g bo' ho') wx (ft g none none) w1 := (Fs.gb (S := ft g bo' ho') g1 (.inl rfl)).weak (fun k q => q) (fun k q => .inl (by rcases q with q | q | q; exact .inl q; exact absurd q ob_none; exact absurd q ob_none)); have T1 := hide ((unhide TX).fs f1); have F1 := hide ((unhide FX).ft_bf f1); clear r1 g1 f1))
          go_ret2
          rw [unhide HRx]
          exact ⟨to, tn, tc, l, none, 0, none, 0, rfl, unhide T1, unhide HLT, unhide R1, unhide F1⟩
  · have b1 : (s.why != 0) = true := by rw [bne_iff_ne]; exact a1
    have HRx := hide (show R = (s, [], 9) by rw [hR]; unfold feed; rw [if_pos a1])
    have HH := hide h
    clear h hb hR a1
    go_enter Tryz.func21, Tryz.ntmps21
    go_wp2_with (first
      | (go_at_call 34; refine same_world (unhide cm) ?_))
    go_ret2
    rw [unhide HRx]
    refine ⟨none, 0, 0, [], bo, bc, ho, hc, rfl, Tl.nought _ _ _ _, rfl, unhide HH, (Fs.refl (ft g bo ho) w).weak (fun k q => q) (fun k q => ?_)⟩
    rcases q with q | q | q
    · exact .inl q
    · exact absurd q ob_none
    · obtain ⟨p, hp, _⟩ := q; cases hp
end
end Go.Proofs.YtbolaljlhmakeaaGreatDoor.Pkt
