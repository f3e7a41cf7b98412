/-
  What Feed of the document's own reader does: the plain function rfeed. Conditions: at most 10 to the 9 bytes at a time.
-/
import Derived.Test.YtoblnmbbdhagbaaRefRd
import Derived.Deep.DeepCutAuto
import Derived.Deep.RegionHeld3
namespace Go.Proofs.Ytoblnmbbdhagbaa
open Go.RowKit
set_option linter.unusedVariables false
set_option linter.unusedSimpArgs false

/-- A whole frame is taken. -/
def rtk (M : Int) (n : Nat) (r : RS) : RS := { sq := (r.sq + 1) % 256, ys := r.ys.drop (4 + n), body := r.body ++ (r.ys.drop 4).take n, fi := if r.wi = true then r.fi else r.sq, wi := decide ((n : Int) = M), why := r.why }
/-- What is told, one frame behind the other; the error. -/
def rlp (M L : Int) : Nat → RS → List Pk → RS × List Pk × Int
  | 0, r, t => (r, t, 0)
  | f + 1, r, t =>
    if r.ys.length < 4 then (r, t, 0)
    else if hdE M L (ofR r) ≠ 0 then ({ r with ys := [], body := [], why := hdE M L (ofR r) }, t, hdE M L (ofR r))
    else if r.ys.length < 4 + hdN (ofR r) then (r, t, 0)
    else if (hdN (ofR r) : Int) = M then rlp M L f (rtk M (hdN (ofR r)) r) t
    else rlp M L f { rtk M (hdN (ofR r)) r with body := [] } (t ++ [((rtk M (hdN (ofR r)) r).fi, (rtk M (hdN (ofR r)) r).sq, (rtk M (hdN (ofR r)) r).body)])
def rfeed (M L : Int) (r : RS) (b : List Int) : RS × List Pk × Int :=
  if r.why ≠ 0 then (r, [], 9) else rlp M L (r.ys ++ b).length { r with ys := r.ys ++ b } []

section
variable {M L : Int} {f : Nat} {r : RS} {t : List Pk}
theorem rlp_short (h : r.ys.length < 4) : rlp M L f r t = (r, t, 0) := by
  cases f with
  | zero => rfl
  | succ f => simp only [rlp]; rw [if_pos h]
theorem rlp_err (hf : r.ys.length ≤ f) (h : ¬ r.ys.length < 4) (he : hdE M L (ofR r) ≠ 0) : rlp M L f r t = ({ r with ys := [], body := [], why := hdE M L (ofR r) }, t, hdE M L (ofR r)) := by
  cases f with
  | zero => omega
  | succ f => simp only [rlp]; rw [if_neg h, if_pos he]
theorem rlp_part (hf : r.ys.length ≤ f) (h : ¬ r.ys.length < 4) (he : hdE M L (ofR r) = 0) (hn : r.ys.length < 4 + hdN (ofR r)) : rlp M L f r t = (r, t, 0) := by
  cases f with
  | zero => rfl
  | succ f => simp only [rlp]; rw [if_neg h, if_neg (by simp [he]), if_pos hn]
theorem rlp_tell (hf : r.ys.length ≤ f) (h : ¬ r.ys.length < 4) (he : hdE M L (ofR r) = 0) (hn : ¬ r.ys.length < 4 + hdN (ofR r)) (hm : ¬ (hdN (ofR r) : Int) = M) :
    ∃ f', (r.ys.drop (4 + hdN (ofR r))).length ≤ f' ∧ f = f' + 1 ∧ rlp M L f r t = rlp M L f' { rtk M (hdN (ofR r)) r with body := [] } (t ++ [((rtk M (hdN (ofR r)) r).fi, (rtk M (hdN (ofR r)) r).sq, (rtk M (hdN (ofR r)) r).body)]) := by
  cases f with
  | zero => omega
  | succ f => exact ⟨f, by rw [List.length_drop]; omega, rfl, by simp only [rlp]; rw [if_neg h, if_neg (by simp [he]), if_neg hn, if_neg hm]⟩
theorem rlp_go (hf : r.ys.length ≤ f) (h : ¬ r.ys.length < 4) (he : hdE M L (ofR r) = 0) (hn : ¬ r.ys.length < 4 + hdN (ofR r)) (hm : (hdN (ofR r) : Int) = M) :
    ∃ f', (r.ys.drop (4 + hdN (ofR r))).length ≤ f' ∧ f = f' + 1 ∧ rlp M L f r t = rlp M L f' (rtk M (hdN (ofR r)) r) t := by
  cases f with
  | zero => omega
  | succ f => exact ⟨f, by rw [List.length_drop]; omega, rfl, by simp only [rlp]; rw [if_neg h, if_neg (by simp [he]), if_neg hn, if_pos hm]⟩
end

section
variable {w : World} {g : Nat} {M L : Int} {bo : Option Addr} {bc : Nat} {yo : Option Addr} {yc : Nat} {r : RS}
/-- The state r' is kept in the rows that the state r had, but for the payload's. -/
theorem Xl.took (h : Xl w g M L bo bc yo yc r) {n : Nat} {w1 : World} {bo1 : Option Addr} {bc1 : Nat} {yo2 : Option Addr} {yc2 : Nat} (hM : Mine 0 w1 bo1 (r.body.length + n) bc1 (r.body ++ (r.ys.drop 4).take n)) (f : Fs (ob bo) w (ob bo1) w1)
    (hB2 : Bs w yo2 (r.ys.length - (4 + n)) yc2 (r.ys.drop (4 + n))) (h1 : ∀ k, ob yo2 k → ob yo k) (wi : Bool) (hk : Sok M L (ofR { r with sq := (r.sq + 1) % 256, ys := r.ys.drop (4 + n), body := r.body ++ (r.ys.drop 4).take n, wi := wi })) :
    ∃ A B C D : World, A = w1.setCell ⟨g, 4, none⟩ (.slice bo1 (r.body.length + n) bc1) ∧ B = A.setCell ⟨g, 3, none⟩ (.slice yo2 (r.ys.length - (4 + n)) yc2) ∧ C = B.setCell ⟨g, 2, none⟩ (.int .u8 ((r.sq + 1) % 256)) ∧ D = C.setCell ⟨g, 6, none⟩ (.bool wi) ∧
    (w1.cell? ⟨g, 4, none⟩ = some (.slice bo r.body.length bc) ∧ w1.frozen? ⟨g, 4, none⟩ = false ∧
     A.cell? ⟨g, 3, none⟩ = some (.slice yo r.ys.length yc) ∧ A.frozen? ⟨g, 3, none⟩ = false ∧
     B.cell? ⟨g, 2, none⟩ = some (.int .u8 r.sq) ∧ B.frozen? ⟨g, 2, none⟩ = false ∧
     C.cell? ⟨g, 0, none⟩ = some (.int .i64 M) ∧ C.cell? ⟨g, 6, none⟩ = some (.bool r.wi) ∧ C.frozen? ⟨g, 6, none⟩ = false) ∧
    Xl D g M L bo1 bc1 yo2 yc2 { r with sq := (r.sq + 1) % 256, ys := r.ys.drop (4 + n), body := r.body ++ (r.ys.drop 4).take n, wi := wi } ∧ Fs (ft g bo yo) w (ft g bo1 yo2) D := by
  have e1 : w1.heap[g]? = some (.cells (xv M L bo bc yo yc r) 53 (0, 0)) := by rw [f.block g h.lt h.gb]; exact h.st
  have e2 := heap_setCell_same w1 g 4 _ _ (.slice bo1 (r.body.length + n) bc1) e1
  have e3 := heap_setCell_same _ g 3 _ _ (.slice yo2 (r.ys.length - (4 + n)) yc2) e2
  have e4 := heap_setCell_same _ g 2 _ _ (.int .u8 ((r.sq + 1) % 256)) e3
  have e5 := heap_setCell_same _ g 6 _ _ (.bool wi) e4
  have hg1 : ¬ ob bo1 g := fun q => by
    rcases f.src g q with q | q
    · exact h.gb q
    · have := h.lt; omega
  have hg2 : ¬ ob yo2 g := fun q => h.gh (h1 g q)
  refine ⟨_, _, _, _, rfl, rfl, rfl, rfl, ⟨by rw [cell_of_row _ g 4 _ _ _ e1]; rfl, frozen_of_row _ g 4 _ _ e1, by rw [cell_of_row _ g 3 _ _ _ e2]; rfl, frozen_of_row _ g 3 _ _ e2, by rw [cell_of_row _ g 2 _ _ _ e3]; rfl, frozen_of_row _ g 2 _ _ e3, by rw [cell_of_row _ g 0 _ _ _ e4]; rfl, by rw [cell_of_row _ g 6 _ _ _ e4]; rfl, frozen_of_row _ g 6 _ _ e4⟩, ?_⟩
  have G : Gb g w1 ((((w1.setCell ⟨g, 4, none⟩ (.slice bo1 (r.body.length + n) bc1)).setCell ⟨g, 3, none⟩ (.slice yo2 (r.ys.length - (4 + n)) yc2)).setCell ⟨g, 2, none⟩ (.int .u8 ((r.sq + 1) % 256))).setCell ⟨g, 6, none⟩ (.bool wi)) := ((((Gb.refl g w1).set 4 _).set 3 _).set 2 _).set 6 _
  have hl := hM.len
  have hl2 := hB2.len
  refine ⟨⟨?_, ?_, ?_, hg1, hg2, fun k a b => ?_, fun k a => ?_, hk, h.f0, h.f1⟩, ?_⟩
  · rw [e5]
    simp only [xv]
    rw [hl, hl2]
    simp
  · show Mine 0 _ bo1 (r.body ++ (r.ys.drop 4).take n).length bc1 _
    rw [hl]
    exact hM.keepB fun k hk => G.block k (hM.ob hk).2 (fun e => hg1 (e ▸ hk))
  · show Bs _ yo2 (r.ys.drop (4 + n)).length yc2 _
    rw [hl2]
    exact hB2.keepB fun k hk hl => by
      rw [G.block k (Nat.lt_of_lt_of_le hl f.size) (fun e => hg2 (e ▸ hk)), f.block k hl (fun q => h.bh k q (h1 k hk))]
  · rcases f.src k a with q | q
    · exact h.bh k q (h1 k b)
    · have := h.hlt k (h1 k b); omega
  · have := h.hlt k (h1 k a)
    exact Nat.lt_of_lt_of_le this (Nat.le_trans f.size G.size)
  · refine (f.weak (T := ft g bo yo) (T' := ft g bo1 yo2) (fun k q => .inr (.inl q)) (fun k q => ?_)).trans (Fs.gb G (.inl rfl))
    rcases q with q | q | q
    · exact .inl (.inl q)
    · exact .inr q
    · exact .inl (.inr (.inr (h1 k q)))
/-- What it holds lies in a new row. -/
theorem Xl.reheld (h : Xl w g M L bo bc yo yc r) {w2 : World} {yo2 : Option Addr} {n yc2 : Nat} {bs : List Int} (hM : Mine w.heap.size w2 yo2 n yc2 bs) (hb : Below w.heap.size w w2) (hk : Sok M L (ofR { r with ys := bs })) :
    (w2.cell? ⟨g, 3, none⟩ = some (.slice yo r.ys.length yc) ∧ w2.frozen? ⟨g, 3, none⟩ = false) ∧ Xl (w2.setCell ⟨g, 3, none⟩ (.slice yo2 n yc2)) g M L bo bc yo2 yc2 { r with ys := bs } ∧ Fs (ft g bo yo) w (ft g bo yo2) (w2.setCell ⟨g, 3, none⟩ (.slice yo2 n yc2)) := by
  have h2 := h.later hb
  have e2 := heap_setCell_same w2 g 3 _ _ (.slice yo2 n yc2) h2.st
  have G : Gb g w2 (w2.setCell ⟨g, 3, none⟩ (.slice yo2 n yc2)) := (Gb.refl g w2).set 3 _
  have hl := hM.len
  have hnew : ∀ k, ob yo2 k → w.heap.size ≤ k := fun k q => (hM.ob q).1
  have hg2 : ¬ ob yo2 g := fun q => by have := hnew g q; have := h.lt; omega
  refine ⟨⟨h2.c3, h2.free 3⟩, ⟨?_, h2.body.keepB fun k hk => G.block k (h2.body.ob hk).2 (fun e => h2.gb (e ▸ hk)), ?_, h2.gb, hg2, fun k a b => ?_, fun k a => ?_, hk, h.f0, h.f1⟩, ?_⟩
  · rw [e2]
    simp [xv, hl]
  · show Bs _ yo2 bs.length yc2 bs
    rw [hl]
    exact hM.bs.keepB fun k hk hl => G.block k hl (fun e => hg2 (e ▸ hk))
  · have := hnew k b; have := (h.body.ob a).2; omega
  · exact Nat.lt_of_lt_of_le (hM.ob a).2 G.size
  · refine (Fs.of (S := ft g bo yo) (S' := ft g bo yo2) hb (fun k q => ?_)).trans (Fs.gb G (.inl rfl))
    rcases q with q | q | q
    · exact .inl (.inl q)
    · exact .inl (.inr (.inl q))
    · exact .inr (hnew k q)
end

/-- What it holds, as its cell has it. -/
def hlX (g : Nat) (w : World) : Nat := match w.cell? ⟨g, 3, none⟩ with
  | some (.slice _ n _) => n
  | _ => 0
theorem Xl.hlX {w : World} {g : Nat} {M L : Int} {bo : Option Addr} {bc : Nat} {yo : Option Addr} {yc : Nat} {r : RS} (h : Xl w g M L bo bc yo yc r) : hlX g w = r.ys.length := by unfold Proofs.Ytoblnmbbdhagbaa.hlX; rw [h.c3]
/-- Behind Feed. -/
def OutX (w : World) (g : Nat) (M L : Int) (bo yo : Option Addr) (R : RS × List Pk × Int) (e : Ending) (w' : World) : Prop :=
  ∃ tq tn tc l bo' bc' yo' yc', e = .returned (.tuple #[.slice tq tn tc, .int .i64 R.2.2]) ∧ Pks w' tq tn tc l ∧ l.map pl = R.2.1 ∧ Xl w' g M L bo' bc' yo' yc' R.1 ∧ Fs (ft g bo yo) w (bf g bo' yo' tq l) w'

/-- Where a frame was appended to the payload: what the next stores make of it. -/
def Tkn (g : Nat) (M L : Int) (bo' yo' : Option Addr) (yc' : Nat) (yo2 : Option Addr) (yc2 : Nat) (s s1 : RS) (wi wb : Bool) (N : Nat) (w0 A : World) : Prop :=
  ∃ (bo1 : Option Addr) (bc1 : Nat) (B C D : World), B = A.setCell ⟨g, 3, none⟩ (.slice yo2 (s.ys.length - (4 + N)) yc2) ∧ C = B.setCell ⟨g, 2, none⟩ (.int .u8 ((s.sq + 1) % 256)) ∧ D = C.setCell ⟨g, 6, none⟩ (.bool wb) ∧
    (A.cell? ⟨g, 3, none⟩ = some (.slice yo' s.ys.length yc') ∧ A.frozen? ⟨g, 3, none⟩ = false ∧ B.cell? ⟨g, 2, none⟩ = some (.int .u8 s.sq) ∧ B.frozen? ⟨g, 2, none⟩ = false ∧ C.cell? ⟨g, 0, none⟩ = some (.int .i64 M) ∧ C.cell? ⟨g, 6, none⟩ = some (.bool wi) ∧ C.frozen? ⟨g, 6, none⟩ = false) ∧
    Xl D g M L bo1 bc1 yo2 yc2 s1 ∧ Fs (ft g bo' yo') w0 (ft g bo1 yo2) D
/-- Where a payload was told: what the last store makes of it. -/
def Tld (g : Nat) (M L : Int) (bo yo bo1 : Option Addr) (bc1 : Nat) (yo2 : Option Addr) (yc2 : Nat) (s1 : RS) (tn : Nat) (l : List Pm) (w : World) (v : Value) (wx : World) : Prop :=
  ∃ (to4 : Option Addr) (tc4 : Nat), v = .slice to4 (tn + 1) tc4 ∧ wx.cell? ⟨g, 4, none⟩ = some (.slice bo1 s1.body.length bc1) ∧ wx.frozen? ⟨g, 4, none⟩ = false ∧ Xl (wx.setCell ⟨g, 4, none⟩ (.slice none 0 0)) g M L none 0 yo2 yc2 { s1 with body := [] } ∧
    Tl (wx.setCell ⟨g, 4, none⟩ (.slice none 0 0)) g none yo2 to4 (tn + 1) tc4 (l ++ [⟨s1.fi, s1.sq, bo1, bc1, s1.body⟩]) ∧ Fs (ft g bo yo) w (bf g none yo2 to4 (l ++ [⟨s1.fi, s1.sq, bo1, bc1, s1.body⟩])) (wx.setCell ⟨g, 4, none⟩ (.slice none 0 0))

section
variable {g : Nat} {M L : Int} {bo : Option Addr} {bc : Nat} {yo : Option Addr} {yc : Nat} {r : RS}
set_option maxHeartbeats 3000000 in
set_option maxRecDepth 20000 in
theorem xfeed_any (w : World) (h : Xl w g M L bo bc yo yc r) (ao : Option Addr) (n c : Nat) (cs : List Int) (hb : Bs w ao n c cs) (hn : n ≤ 900000000) (hl : r.ys.length ≤ 1100000000) :
    Calls Try.prog 26 #[.pointer (some ⟨g, 0, none⟩), .slice ao n c] w fun e w' => OutX w g M L bo yo (rfeed M L r cs) e w' := by
  obtain ⟨R, hR⟩ : ∃ R, R = rfeed M L r cs := ⟨_, rfl⟩
  rw [← hR]
  have c3 := h.c3
  have c7 := h.c7
  have hcl := hb.len
  by_cases a1 : r.why = 0
  · have b1 : (r.why != 0) = false := by rw [bne_eq_false_iff_eq]; exact a1
    have hR' : R = rlp M L (r.ys ++ cs).length { r with ys := r.ys ++ cs } [] := by rw [hR]; unfold rfeed; rw [if_neg (by simp [a1])]
    have hok : Sok M L (ofR { r with ys := r.ys ++ cs }) := ⟨h.ok.m0, h.ok.m1, h.ok.l0, h.ok.l1, h.ok.n0, h.ok.n1, h.ok.bl, by simp [ofR]; omega, h.ok.w0, h.ok.w1⟩
    have HR := hide hR'
    have HH := hide h
    have HB := hide hb
    have HK := hide hok
    have HCL := hide hcl
    have HA1 := hide a1
    have hle := hb.le
    have hmx := hb.max
    have hyl := h.held.le
    have hym := h.held.max
    clear h hb hR hR' hok a1 hcl
    go_enter Try.func26, Try.ntmps26
    have bb := below_alloc w (.cells #[] 5)
    have ca3 := ((unhide HH).later bb).c3
    have BB := hide bb
    clear bb
    go_wp2_with (first
      | (at_builtin; refine wpList_app rfl (.tmp 14) (.tmp 18) rfl w.heap.size _ _ _ _ rfl (Mine.empty w) yo r.ys.length yc r.ys rfl ((unhide HH).held.later (unhide BB)) (by omega) (by simp) ?_; intro o1 k1 w1 m1 b1'; rw [Nat.zero_add, List.nil_append] at m1; have M1 := hide m1; have B1 := hide ((unhide BB).trans b1'); clear m1 b1')
      | (at_builtin; refine wpList_app rfl (.tmp 19) (.tmp 20) rfl w.heap.size o1 r.ys.length k1 r.ys rfl (unhide M1) ao n c cs rfl ((unhide HB).later (unhide B1)) (by omega) (unhide B1).size ?_; intro o2 k2 w2 m2 b2; obtain ⟨⟨j3, jf3⟩, X2, F2⟩ := (unhide HH).reheld m2 ((unhide B1).trans b2) (unhide HK); have HX2 := hide X2; have HF2 := hide F2; clear m2 b2 X2 F2))
    go_loopw [6] (fun v ws => ∃ (f : Nat) (s : RS) (t : List Pk) (tq : Option Addr) (tn tc : Nat) (l : List Pm) (bo' : Option Addr) (bc' : Nat) (yo' : Option Addr) (yc' : Nat), s.ys.length ≤ f ∧ s.why = 0 ∧ R = rlp M L f s t ∧ v = .slice tq tn tc ∧ l.map pl = t ∧ Xl ws g M L bo' bc' yo' yc' s ∧ Tl ws g bo' yo' tq tn tc l ∧ Fs (ft g bo yo) w (bf g bo' yo' tq l) ws ∧ tn + s.ys.length ≤ 2000000000) (fun _ ws => hlX g ws)
    case atStart =>
      refine ⟨_, { r with ys := r.ys ++ cs }, _, none, 0, 0, [], bo, bc, o2, k2, Nat.le_refl _, unhide HA1, unhide HR, rfl, rfl, unhide HX2, Tl.nought _ _ _ _, (unhide HF2).weak (fun k q => q) (fun k q => ?_), ?_⟩
      · rcases q with q | q | q
        · exact .inr q
        · exact absurd q ob_none
        · obtain ⟨p, hp, _⟩ := q; cases hp
      · have := (unhide HK).hl
        simp only [ofR] at this ⊢
        omega
    case round =>
      clear HR HX2 HF2 HH HB HK HA1 j3 jf3 c3 c7 ca3 BB M1 B1 b1
      obtain ⟨f, s, t, tq, tn, tc, l, bo', bc', yo', yc', hf, hw0, hR, rfl, hlt, hx, ht, hF, htn⟩ := hrel
      have k3 := hx.c3
      have hb' : s.body.length ≤ 2000000000 := by have := hx.ok.bl; have := hx.ok.l1; simp only [ofR] at *; omega
      have hh' : s.ys.length ≤ 2000000000 := hx.ok.hl
      have hm0 := hx.ok.m0
      have hm1 := hx.ok.m1
      have HLT := hide hlt
      by_cases a4 : s.ys.length < 4
      · have HRx := hide (show R = (s, t, 0) by rw [hR, rlp_short a4])
        have HX := hide hx
        have TX := hide ht
        have FX := hide hF
        have hlt4 : (s.ys.length : Int) < 4 := by omega
        clear hR hx ht hF hlt hf a4
        go_wp2_with fail
        go_ret2
        rw [unhide HRx]
        exact ⟨tq, tn, tc, l, bo', bc', yo', yc', rfl, (unhide TX).own.pks (unhide TX).bod, unhide HLT, unhide HX, unhide FX⟩
      · have hge : (4 : Int) ≤ (s.ys.length : Int) := by omega
        have hd := hide (wrong_any wr hx (by omega))
        have hrg := hdE_range M L (ofR s)
        have W7 := hide (show ∀ (wx : World) (E : Int), 0 ≤ E → E ≤ 100 → Xl wx g M L bo' bc' yo' yc' s → Xl (wx.setCell ⟨g, 7, none⟩ (.int .i64 E)) g M L bo' bc' yo' yc' { s with why := E } by
          intro wx E e0 e1 hx
          refine hx.cells ((Gb.refl g wx).set 7 _) ?_ (.inl ⟨rfl, rfl, rfl⟩) ⟨fun k a => a, hx.held⟩ ⟨hx.ok.m0, hx.ok.m1, hx.ok.l0, hx.ok.l1, hx.ok.n0, hx.ok.n1, hx.ok.bl, hx.ok.hl, e0, e1⟩ hx.f0 hx.f1
          rw [heap_setCell_same wx g 7 _ _ (.int .i64 E) hx.st]
          simp [xv])
        have hsame : ({ s with why := 0 } : RS) = s := by cases s; simp only at hw0; subst hw0; rfl
        by_cases ae : hdE M L (ofR s) = 0
        · rw [ae] at hd
          have hN := hdN_lt (s := ofR s) hx.held.byt
          have hNi := hdN_int (s := ofR s) hx.held.byt
          have hE := hdE_ok ae
          have W0 := hide (fun wx hx => hsame ▸ unhide W7 wx 0 (by omega) (by omega) hx)
          obtain ⟨b0, o0, hix0, hcx0⟩ := hx.held.idx (show 0 < s.ys.length by omega) (0 : Int) rfl
          obtain ⟨b1, o1, hix1, hcx1⟩ := hx.held.idx (show 1 < s.ys.length by omega) (1 : Int) rfl
          obtain ⟨b2, o2, hix2, hcx2⟩ := hx.held.idx (show 2 < s.ys.length by omega) (2 : Int) rfl
          have hy0 := hx.held.byt.at 0
          have hy1 := hx.held.byt.at 1
          have hy2 := hx.held.byt.at 2
          have hv : (hdN (ofR s) : Int) = s.ys[0]?.getD 0 + s.ys[1]?.getD 0 * 256 + s.ys[2]?.getD 0 * 65536 := by rw [hNi, val3]; simp [ofR]
          have HCX := hide (show ∀ wx, Xl wx g M L bo' bc' yo' yc' s → wx.cell? ⟨b0, o0, none⟩ = some (.int .u8 (s.ys[0]?.getD 0)) ∧ wx.cell? ⟨b1, o1, none⟩ = some (.int .u8 (s.ys[1]?.getD 0)) ∧ wx.cell? ⟨b2, o2, none⟩ = some (.int .u8 (s.ys[2]?.getD 0)) by
            intro wx hx
            obtain ⟨b0', o0', h0, h0'⟩ := hx.held.idx (show 0 < s.ys.length by omega) (0 : Int) rfl
            obtain ⟨b1', o1', h1, h1'⟩ := hx.held.idx (show 1 < s.ys.length by omega) (1 : Int) rfl
            obtain ⟨b2', o2', h2, h2'⟩ := hx.held.idx (show 2 < s.ys.length by omega) (2 : Int) rfl
            have q0 := (hix0 wx).symm.trans (h0 wx)
            have q1 := (hix1 wx).symm.trans (h1 wx)
            have q2 := (hix2 wx).symm.trans (h2 wx)
            simp only [Result.ok.injEq, Value.pointer.injEq, Option.some.injEq, Addr.mk.injEq, and_true] at q0 q1 q2
            rw [q0.1, q0.2, q1.1, q1.2, q2.1, q2.2]
            exact ⟨h0', h1', h2'⟩)
          clear hcx0 hcx1 hcx2
          have r1 := or8_i64 (s.ys[0]?.getD 0) (s.ys[1]?.getD 0) hy0.1 hy0.2 hy1.1 hy1.2
          have r2 := or16_i64 (s.ys[0]?.getD 0 + s.ys[1]?.getD 0 * 256) (s.ys[2]?.getD 0) (by omega) (by omega) hy2.1 hy2.2
          rw [← hv] at r2
          have HX0 := hide hx
          have TX0 := hide ht
          have FX0 := hide hF
          by_cases ap : s.ys.length < 4 + hdN (ofR s)
          · have HRx := hide (show R = (s, t, 0) by rw [hR, rlp_part hf a4 ae ap])
            have bp : (s.ys.length : Int) < 4 + (hdN (ofR s) : Int) := by omega
            clear hR hx ht hF hlt hf ae hE hNi a4 hv W7 hsame
            generalize hdN (ofR s) = N at *
            generalize s.ys[0]?.getD 0 = d0 at *
            generalize s.ys[1]?.getD 0 = d1 at *
            generalize s.ys[2]?.getD 0 = d2 at *
            go_wp2_with (first
              | (go_at_call 39; refine (unhide hd).mono ?_; rintro e wx ⟨rfl, nn, hwx⟩; have HX := hide (show Xl wx g M L bo' bc' yo' yc' s by rw [hwx]; exact (unhide HX0).drewN nn); have TX := hide (show Tl wx g bo' yo' tq tn tc l by rw [hwx]; exact (unhide TX0).same (below_drewN _ _)); have FX := hide (show Fs (ft g bo yo) w (bf g bo' yo' tq l) wx by rw [hwx]; exact (unhide FX0).drewN nn); have kx7 := (unhide HX).c7; have kf7 := (unhide HX).free 7; have XA := hide (unhide W0 wx (unhide HX)); have ka3 := (unhide XA).c3; have ka7 : (wx.setCell ⟨g, 7, none⟩ (.int .i64 0)).cell? ⟨g, 7, none⟩ = some (.int .i64 0) := (by have := (unhide XA).c7; rw [hw0] at this; exact this); obtain ⟨kc0, kc1, kc2⟩ := unhide HCX _ (unhide XA); have GA : Gb g wx (wx.setCell ⟨g, 7, none⟩ (.int .i64 0)) := (Gb.refl g wx).set 7 _; have TA := hide ((unhide TX).fs (Fs.gb (S := ft g bo' yo') GA (.inl rfl))); have FA := hide ((unhide FX).trans (Fs.gb (S := bf g bo' yo' tq l) GA (.inl (.inl rfl)))); clear hwx HX0 TX0 FX0 GA))
            go_quiet (fail)
            go_wp2_with fail
            go_ret2
            rw [unhide HRx]
            exact ⟨tq, tn, tc, l, bo', bc', yo', yc', rfl, ((unhide TA).own.pks (unhide TA).bod).later (below_drewN _ _), unhide HLT, (unhide XA).later (below_drewN _ _), (unhide FA).drewN _⟩
          · have bp : ¬ (s.ys.length : Int) < 4 + (hdN (ofR s) : Int) := by omega
            have hLb : (s.body.length : Int) + (hdN (ofR s) : Int) ≤ L := by have := hE.2.2; simp only [ofR] at *; omega
            obtain ⟨b4, o4, e4, _⟩ := hx.held.at'.resolve_left (by omega)
            have hs1 := run_cut_lh yo' s.ys.length yc' 4 (4 + hdN (ofR s)) (by omega) (by have := hx.held.le; omega) 4 ((4 : Int) + (hdN (ofR s) : Int)) rfl (by omega)
            have hs1' := run_cut_lh yo' s.ys.length yc' 4 (4 + hdN (ofR s)) (by omega) (by have := hx.held.le; omega) 4 (IntKind.i64.wrap ((4 : Int) + (hdN (ofR s) : Int))) rfl (by rw [IntKind.wrap_i64]; omega)
            have hs2 := run_cut_l yo' s.ys.length yc' (4 + hdN (ofR s)) (by omega) ((4 : Int) + (hdN (ofR s) : Int)) (by omega)
            have HB1 := hide (fun wy (q : Bs wy yo' s.ys.length yc' s.ys) => q.cut (lo := 4) (hi := 4 + hdN (ofR s)) (by omega) (by omega))
            have HB2 := hide (fun wy (q : Bs wy yo' s.ys.length yc' s.ys) => q.cut (lo := 4 + hdN (ofR s)) (hi := s.ys.length) (by omega) (Nat.le_refl _))
            rw [Nat.add_sub_cancel_left] at hs1 hs1' HB1
            rw [List.take_of_length_le (l := s.ys.drop (4 + hdN (ofR s))) (by simp)] at HB2
            obtain ⟨ad, had⟩ : ∃ ad, cutAt yo' yc' 4 = some ad := by
              subst e4
              unfold cutAt
              split
              · exact ⟨_, rfl⟩
              · exact ⟨_, rfl⟩
            have H1 := hide (show ∀ k, ob (cutAt yo' yc' (4 + hdN (ofR s))) k → ob yo' k from fun k => ob_cut)
            rw [had] at hs1 hs1' HB1
            generalize cutAt yo' yc' (4 + hdN (ofR s)) = yo2 at *
            generalize yc' - (4 + hdN (ofR s)) = yc2 at *
            generalize yc' - 4 = yc1 at *
            have HTN := hide (show tn + (s.ys.drop (4 + hdN (ofR s))).length + 4 ≤ 2000000000 by rw [List.length_drop]; omega)
            have HLS' := hide (show (s.ys.drop (4 + hdN (ofR s))).length + 4 ≤ s.ys.length by rw [List.length_drop]; omega)
            have HLw := hide hx.hlX
            obtain ⟨s1, hs1d⟩ : ∃ s1, s1 = rtk M (hdN (ofR s)) s := ⟨_, rfl⟩
            have HS1 := hide hs1d
            have Hh1 := hide (show s1.ys = s.ys.drop (4 + hdN (ofR s)) by rw [hs1d]; rfl)
            have HW0 := hide (show s1.why = 0 by rw [hs1d]; exact hw0)
            have HW1 := hide (show s1.wi = decide ((hdN (ofR s) : Int) = M) by rw [hs1d]; rfl)
            have HK := hide (show Sok M L (ofR s1) by rw [hs1d]; exact hx.ok.tk hx.held.byt ae)
            obtain ⟨wb, hwb⟩ : ∃ wb, ((hdN (ofR s) : Int) == M) = wb := ⟨_, rfl⟩
            rw [show decide ((hdN (ofR s) : Int) = M) = wb from hwb] at HW1
            have HGO := hide (fun am => rlp_go (t := t) hf a4 ae (by omega) am)
            have HTE := hide (fun am => rlp_tell (t := t) hf a4 ae (by omega) am)
            have HRR := hide hR
            rw [← hs1d] at HGO HTE
            obtain ⟨fz, hfz⟩ : ∃ fz, fz = (if s.wi = true then s.fi else s.sq) := ⟨_, rfl⟩
            have HFZ := hide hfz
            have HZR := hide (show ∀ sz : RS, sz = { s with fi := fz } → ({ sz with sq := (sz.sq + 1) % 256, ys := sz.ys.drop (4 + hdN (ofR s)), body := sz.body ++ (sz.ys.drop 4).take (hdN (ofR s)), wi := wb } : RS) = s1 by
              intro sz h
              rw [h, hs1d, ← hwb, hfz]
              rfl)
            clear hR hx ht hF hlt hf ae hE hNi a4 hv W7 hsame hs1d hLb had e4 hfz
            generalize hdN (ofR s) = N at *
            generalize s.ys[0]?.getD 0 = d0 at *
            generalize s.ys[1]?.getD 0 = d1 at *
            generalize s.ys[2]?.getD 0 = d2 at *
            go_wp2_with (first
              | (go_at_call 39; refine (unhide hd).mono ?_; rintro e wx ⟨rfl, nn, hwx⟩; have HX := hide (show Xl wx g M L bo' bc' yo' yc' s by rw [hwx]; exact (unhide HX0).drewN nn); have TX := hide (show Tl wx g bo' yo' tq tn tc l by rw [hwx]; exact (unhide TX0).same (below_drewN _ _)); have FX := hide (show Fs (ft g bo yo) w (bf g bo' yo' tq l) wx by rw [hwx]; exact (unhide FX0).drewN nn); have kx7 := (unhide HX).c7; have kf7 := (unhide HX).free 7; have XA := hide (unhide W0 wx (unhide HX)); have ka3 := (unhide XA).c3; have ka7 : (wx.setCell ⟨g, 7, none⟩ (.int .i64 0)).cell? ⟨g, 7, none⟩ = some (.int .i64 0) := (by have := (unhide XA).c7; rw [hw0] at this; exact this); obtain ⟨kc0, kc1, kc2⟩ := unhide HCX _ (unhide XA); have GA : Gb g wx (wx.setCell ⟨g, 7, none⟩ (.int .i64 0)) := (Gb.refl g wx).set 7 _; have TA := hide ((unhide TX).fs (Fs.gb (S := ft g bo' yo') GA (.inl rfl))); have FA := hide ((unhide FX).trans (Fs.gb (S := bf g bo' yo' tq l) GA (.inl (.inl rfl)))); clear hwx HX0 TX0 FX0 GA))
            go_quiet (fail)
            obtain ⟨wq, hwq⟩ : ∃ wy, wy = (wx.setCell ⟨g, 7, none⟩ (.int .i64 0)).drewN nq := ⟨_, rfl⟩
            rw [← hwq]
            have XQ := hide (show Xl wq g M L bo' bc' yo' yc' s by rw [hwq]; exact (unhide XA).drewN nq)
            have TQ := hide (show Tl wq g bo' yo' tq tn tc l by rw [hwq]; exact (unhide TA).same (below_drewN _ _))
            have FQ := hide (show Fs (ft g bo yo) w (bf g bo' yo' tq l) wq by rw [hwq]; exact (unhide FA).drewN nq)
            clear hwq XA TA FA HX TX FX kx7 kf7 ka3 ka7 kc0 kc1 kc2 k3
            have kq3 := (unhide XQ).c3
            have kq6 := (unhide XQ).c6
            generalize hwi : s.wi = W at *
            go_upto_if 89 with fail
            go_cut [6] (fun v wx => v = .slice tq tn tc ∧ Xl wx g M L bo' bc' yo' yc' { s with fi := fz } ∧ Tl wx g bo' yo' tq tn tc l ∧ Fs (ft g bo yo) w (bf g bo' yo' tq l) wx)
            case first =>
              have kq2 := (unhide XQ).c2
              have kq5 := (unhide XQ).c5
              have kqf5 := (unhide XQ).free 5
              cases W with
              | true =>
                have HE := hide (show fz = s.fi by rw [unhide HFZ]; rfl)
                clear hwi
                go_wp2_with fail
                go_meet
                rw [unhide HE]
                exact ⟨rfl, unhide XQ, unhide TQ, unhide FQ⟩
              | false =>
                have HE := hide (show fz = s.sq by rw [unhide HFZ]; rfl)
                clear hwi
                have GZ : Gb g wq (wq.setCell ⟨g, 5, none⟩ (.int .u8 s.sq)) := (Gb.refl g wq).set 5 _
                have XZ := hide (show Xl (wq.setCell ⟨g, 5, none⟩ (.int .u8 s.sq)) g M L bo' bc' yo' yc' { s with fi := s.sq } by
                  refine (unhide XQ).cells GZ ?_ (.inl ⟨rfl, rfl, rfl⟩) ⟨fun k a => a, (unhide XQ).held⟩ (unhide XQ).ok (unhide XQ).ok.n0 (unhide XQ).ok.n1
                  rw [heap_setCell_same wq g 5 _ _ (.int .u8 s.sq) (unhide XQ).st]
                  simp [xv])
                have TZ := hide ((unhide TQ).fs (Fs.gb (S := ft g bo' yo') GZ (.inl rfl)))
                have FZ := hide ((unhide FQ).trans (Fs.gb (S := bf g bo' yo' tq l) GZ (.inl (.inl rfl))))
                clear GZ
                go_wp2_with fail
                go_meet
                rw [unhide HE]
                exact ⟨rfl, unhide XZ, unhide TZ, unhide FZ⟩
            case rest =>
              clear XQ TQ FQ kq3 kq6
              obtain ⟨rfl, xz, tz, ffz⟩ := hcut
              obtain ⟨wz, hwz⟩ : ∃ wy, wy = wc := ⟨_, rfl⟩
              rw [← hwz] at xz tz ffz ⊢
              clear hwz
              obtain ⟨sz, hsz⟩ : ∃ sy, sy = ({ s with fi := fz } : RS) := ⟨_, rfl⟩
              rw [← hsz] at xz
              have hz1 : sz.sq = s.sq := by rw [hsz]
              have hz2 : sz.ys = s.ys := by rw [hsz]
              have hz3 : sz.body = s.body := by rw [hsz]
              have hzr := unhide HZR sz (by rw [hsz, hwi])
              have z3 := xz.c3
              have z4 := xz.c4
              rw [hz2] at z3
              rw [hz3] at z4
              have XZ := hide xz
              have TZ := hide tz
              have FZ := hide ffz
              have HSZ := hide (And.intro hz1 (And.intro hz2 (And.intro hz3 hzr)))
              clear hsz hz1 hz2 hz3 hzr xz tz ffz
              have HB1z := hide (show Bs wz.drew (some ad) N yc1 ((s.ys.drop 4).take N) by
                have q := (unhide XZ).held
                rw [(unhide HSZ).2.1] at q
                exact (unhide HB1 wz q).keepB fun _ _ _ => rfl)
              have HB2z := hide (show Bs wz.drew yo2 (s.ys.length - (4 + N)) yc2 (s.ys.drop (4 + N)) by
                have q := (unhide XZ).held
                rw [(unhide HSZ).2.1] at q
                exact (unhide HB2 wz q).keepB fun _ _ _ => rfl)
              have HMz := hide (show Mine 0 wz.drew bo' s.body.length bc' s.body by
                have q := (unhide XZ).drew.body
                rw [(unhide HSZ).2.2.1] at q
                exact q)
              have TKN := hide (show ∀ (w1 : World) (bo1 : Option Addr) (bc1 : Nat), Mine 0 w1 bo1 (s.body.length + N) bc1 (s.body ++ (s.ys.drop 4).take N) → Fs (ob bo') wz.drew (ob bo1) w1 → (w1.cell? ⟨g, 4, none⟩ = some (.slice bo' s.body.length bc') ∧ w1.frozen? ⟨g, 4, none⟩ = false) ∧ Tkn g M L bo' yo' yc' yo2 yc2 s s1 sz.wi wb N wz.drew (w1.setCell ⟨g, 4, none⟩ (.slice bo1 (s.body.length + N) bc1)) by
                intro w1 bo1 bc1 hM hFs
                obtain ⟨hz1, hz2, hz3, hzr⟩ := unhide HSZ
                have q := (unhide XZ).drew.took (n := N) (w1 := w1) (bo1 := bo1) (bc1 := bc1) (yo2 := yo2) (yc2 := yc2) (by rw [hz3, hz2]; exact hM) hFs (by rw [hz2]; exact unhide HB2z) (unhide H1) wb (by rw [hzr]; exact unhide HK)
                rw [hzr, hz1, hz2, hz3] at q
                obtain ⟨A, B, C, D, rfl, hB, hC, hD, ⟨j4, jf4, jr⟩, xd, fd⟩ := q
                exact ⟨⟨j4, jf4⟩, bo1, bc1, B, C, D, hB, hC, hD, jr, xd, fd⟩)
              go_wp2_with fail
              go_cut [6] (fun v wx => v = .slice tq tn tc ∧ Tkn g M L bo' yo' yc' yo2 yc2 s s1 sz.wi wb N wz.drew wx)
              case first =>
                go_region_law (refine step_appF rfl (.tmp 101) (.tmp 108) rfl 0 bo' s.body.length bc' s.body (by simp [Act.eval, Act.put]) (unhide HMz) ad N yc1 _ (by simp [Act.eval, Act.put]) (unhide HB1z) (by omega) (Nat.zero_le _) ?_; intro bo1 bc1 w1 hM hgr hsrc; obtain ⟨⟨j4, jf4⟩, tk⟩ := unhide TKN w1 bo1 bc1 hM ⟨hgr.os, hgr.tape, hgr.output, hgr.size, fun k hk hn => grown_at hgr hk hn, hsrc⟩; have TK := hide tk; clear hM hgr hsrc tk)
                all_goals go_wp2_with fail
                all_goals go_meet
                all_goals exact ⟨rfl, unhide TK⟩
              case rest =>
                obtain ⟨rfl, hcut⟩ := hcut
                obtain ⟨bo1, bc1, B, C, D, hB, hC, hD, ⟨j3, jf3, j2, jf2, j0, j6, jf6⟩, xd, fd⟩ := hcut
                replace hB := hB.symm
                replace hC := hC.symm
                replace hD := hD.symm
                have jd6 := xd.c6
                rw [unhide HW1] at jd6
                have jd5 := xd.c5
                have jd2 := xd.c2
                have jd4 := xd.c4
                have XD := hide xd
                have TD := hide (((unhide TZ).same (below_drew wz)).fs fd)
                have FD := hide (((unhide FZ).drew).ft_bf fd)
                clear TKN HB1z HB2z HMz z3 z4 hs1 hs1' HB1 HB2 XZ TZ FZ xd fd
                by_cases am : (N : Int) = M
                · obtain ⟨f', hf', _, hRt⟩ := unhide HGO am
                  have HRn := hide ((unhide HRR).trans hRt)
                  have HF' := hide hf'
                  have hwt : wb = true := by rw [← hwb]; simpa using am
                  rw [hwt] at jd6
                  have HWT := hide hwt
                  clear am hf' hRt hwt HGO HTE HRR jd5 jd2 jd4
                  go_wp2_with fail
                  go_roundw
                  case rel =>
                    exact ⟨f', s1, t, tq, tn, tc, l, bo1, bc1, yo2, yc2, by rw [unhide Hh1]; exact unhide HF', unhide HW0, unhide HRn, rfl, unhide HLT, unhide XD, unhide TD, unhide FD, by rw [unhide Hh1]; have := unhide HTN; omega⟩
                  case measure =>
                    have e1 := (unhide XD).hlX
                    rw [unhide Hh1] at e1
                    rw [e1, unhide HLw]
                    have := unhide HLS'
                    omega
                · obtain ⟨f', hf', _, hRt⟩ := unhide HTE am
                  have HRn := hide ((unhide HRR).trans hRt)
                  have HF' := hide hf'
                  have hwt : wb = false := by rw [← hwb]; simpa using am
                  rw [hwt] at jd6
                  clear am hf' hRt hwt HGO HTE HRR
                  have xd := unhide XD
                  have bd := below_alloc D.drew (.cells #[.int .u8 s1.fi, .int .u8 s1.sq, .slice bo1 s1.body.length bc1] 35)
                  have x4 := xd.drew.later bd
                  have t4 := ((unhide TD).same (below_drew D)).same bd
                  have ja5 := (xd.later (below_alloc D (.cells #[.int .u8 s1.fi, .int .u8 s1.sq, .slice bo1 s1.body.length bc1] 35))).c5
                  have XD4 := hide x4
                  have TD4 := hide t4
                  have HPB := hide (x4.body.bs)
                  have HPO := hide (show Pok ⟨s1.fi, s1.sq, bo1, bc1, s1.body⟩ from ⟨xd.f0, xd.f1, xd.ok.n0, xd.ok.n1⟩)
                  have BD := hide bd
                  have HPX := hide (show Px (D.drew.alloc (.cells #[.int .u8 s1.fi, .int .u8 s1.sq, .slice bo1 s1.body.length bc1] 35)) D.heap.size ⟨s1.fi, s1.sq, bo1, bc1, s1.body⟩ from heap_alloc_new D.drew _)
                  have TLD := hide (show ∀ (to4 : Option Addr) (tc4 : Nat) (w4 : World), KMine w4 to4 (tn + 1) tc4 (l ++ [⟨s1.fi, s1.sq, bo1, bc1, s1.body⟩]) → Fs (ob tq) (D.drew.alloc (.cells #[.int .u8 s1.fi, .int .u8 s1.sq, .slice bo1 s1.body.length bc1] 35)) (ob to4) w4 → (w4.cell? ⟨g, 5, none⟩ = some (.int .u8 s1.fi) ∧ w4.cell? ⟨g, 2, none⟩ = some (.int .u8 s1.sq)) ∧ Tld g M L bo yo bo1 bc1 yo2 yc2 s1 tn l w (.slice to4 (tn + 1) tc4) w4 by
                    intro to4 tc4 w4 hM4 f4
                    have x5 := (unhide XD4).fs f4 (fun k q a => (unhide TD4).d1 k a q)
                    have TN := (unhide TD4).fs (bo' := none) (ho' := yo2) ((Fs.refl (ft g bo1 yo2) _).weak (fun k q => q) (fun k q => .inl (by rcases q with q | q | q; exact .inl q; exact absurd q ob_none; exact .inr (.inr q))))
                    have T5 := TN.push hM4 f4 (unhide HPB) (fun k hk => ⟨(fun q => by rcases q with q | q | q; exact (unhide XD4).gb (q ▸ hk); exact ob_none q; exact (unhide XD4).bh k hk q), (fun q => (unhide TD4).d1 k q (.inr (.inl hk))), (unhide XD4).ltf (.inr (.inl hk))⟩) (fun k q => (unhide XD4).ltf (by rcases q with q | q | q; exact .inl q; exact absurd q ob_none; exact .inr (.inr q)))
                    have GE : Gb g w4 (w4.setCell ⟨g, 4, none⟩ (.slice none 0 0)) := (Gb.refl g w4).set 4 _
                    refine ⟨⟨x5.c5, x5.c2⟩, to4, tc4, rfl, x5.c4, x5.free 4, ?_, T5.fs (Fs.gb (S := ft g none yo2) GE (.inl rfl)), ?_⟩
                    · refine x5.cells GE ?_ (.inr ⟨rfl, rfl, rfl⟩) ⟨fun k a => a, x5.held⟩ x5.ok.nobody x5.f0 x5.f1
                      rw [heap_setCell_same w4 g 4 _ _ (.slice none 0 0) x5.st]
                      simp [xv]
                    · exact ((((unhide FD).drew).trans (Fs.of (S := bf g bo1 yo2 tq l) (unhide BD) (fun k q => .inl q))).trans (f4.weak (T := bf g bo1 yo2 tq l) (T' := bf g none yo2 to4 (l ++ [⟨s1.fi, s1.sq, bo1, bc1, s1.body⟩])) (fun k q => .inr (.inl q)) (fun k q => by
                        rcases q with (q | q | q) | q | ⟨x, hx, q⟩
                        · exact .inl (.inl (.inl q))
                        · exact absurd q ob_none
                        · exact .inl (.inl (.inr (.inr q)))
                        · exact .inr q
                        · rcases List.mem_append.1 hx with hx | hx
                          · exact .inl (.inr (.inr ⟨x, hx, q⟩))
                          · simp at hx; subst hx; exact .inl (.inl (.inr (.inl q)))))).trans (Fs.gb (S := bf g none yo2 to4 (l ++ [⟨s1.fi, s1.sq, bo1, bc1, s1.body⟩])) GE (.inl (.inl rfl))))
                  have HTM := hide (unhide TD4).own
                  have x4c := hide (And.intro x4.c5 (And.intro x4.c2 x4.c4))
                  clear xd bd x4 t4 ja5
                  go_wp2_with fail
                  go_region_held3 (fun w' => w'.cell? ⟨g, 5, none⟩ = some (.int .u8 s1.fi) ∧ w'.cell? ⟨g, 2, none⟩ = some (.int .u8 s1.sq) ∧ w'.cell? ⟨g, 4, none⟩ = some (.slice bo1 s1.body.length bc1)) (first | exact ⟨jd5, jd2, jd4⟩ | exact unhide x4c | exact ⟨y5, y2, m4⟩ | go_keep) (first | (refine step_kapp rfl (.tmp 143) (.tmp 157) rfl tq tn tc l (by simp [Act.eval, Act.put]) (unhide HTM) D.heap.size ⟨s1.fi, s1.sq, bo1, bc1, s1.body⟩ (unhide HPO) (by simp [Act.eval, Act.put]) (unhide HPX) (by omega) ?_; intro to4 tc4 w4 hM4 f4; obtain ⟨⟨y5, y2⟩, _, _, hv, m4, mf4, xe, te, fe⟩ := unhide TLD to4 tc4 w4 hM4 f4; simp only [Value.slice.injEq, and_true, true_and] at hv; obtain ⟨rfl, rfl⟩ := hv; have XE := hide xe; have TE := hide te; have FE := hide fe; clear hM4 f4 xe te fe))
                  all_goals go_wp2_with fail
                  all_goals go_roundw
                  all_goals first
                    | exact ⟨f', { s1 with body := [] }, _, to4, tn + 1, tc4, _, none, 0, yo2, yc2, by rw [show ({ s1 with body := [] } : RS).ys = _ from unhide Hh1]; exact unhide HF', unhide HW0, unhide HRn, rfl, by rw [List.map_append, unhide HLT]; rfl, unhide XE, unhide TE, unhide FE, by rw [show ({ s1 with body := [] } : RS).ys = _ from unhide Hh1]; have := unhide HTN; omega⟩
                    | (have e1 := (unhide XE).hlX
                       rw [show ({ s1 with body := [] } : RS).ys = _ from unhide Hh1] at e1
                       rw [e1, unhide HLw]
                       have := unhide HLS'
                       omega)
        · have be : (hdE M L (ofR s) != 0) = true := by rw [bne_iff_ne]; exact ae
          have HRx := hide (show R = ({ s with ys := [], body := [], why := hdE M L (ofR s) }, t, hdE M L (ofR s)) by rw [hR, rlp_err hf a4 ae])
          have HX0 := hide hx
          have TX0 := hide ht
          have FX0 := hide hF
          clear hR hx ht hF hlt hf ae a4 hsame
          generalize hdE M L (ofR s) = E at *
          have CL := hide (show ∀ wx, Xl wx g M L bo' bc' yo' yc' { s with why := E } → (wx.setCell ⟨g, 3, none⟩ (.slice none 0 0)).cell? ⟨g, 4, none⟩ = some (.slice bo' s.body.length bc') ∧ (wx.setCell ⟨g, 3, none⟩ (.slice none 0 0)).frozen? ⟨g, 4, none⟩ = false ∧ Xl ((wx.setCell ⟨g, 3, none⟩ (.slice none 0 0)).setCell ⟨g, 4, none⟩ (.slice none 0 0)) g M L none 0 none 0 { s with ys := [], body := [], why := E } by
            intro wx hx
            have e1 := heap_setCell_same wx g 3 _ _ (.slice none 0 0) hx.st
            refine ⟨by rw [cell_of_row _ g 4 _ _ _ e1]; rfl, frozen_of_row _ g 4 _ _ e1, hx.cells (((Gb.refl g wx).set 3 _).set 4 _) ?_ (.inr ⟨rfl, rfl, rfl⟩) ⟨fun k a => absurd a ob_none, Bs.nought _⟩ ⟨hx.ok.m0, hx.ok.m1, hx.ok.l0, hx.ok.l1, hx.ok.n0, hx.ok.n1, by simpa [ofR] using hx.ok.l0, by simp [ofR], hx.ok.w0, hx.ok.w1⟩ hx.f0 hx.f1⟩
            rw [heap_setCell_same _ g 4 _ _ (.slice none 0 0) e1]
            simp [xv])
          go_wp2_with (first
            | (go_at_call 39; refine (unhide hd).mono ?_; rintro e wx ⟨rfl, nn, hwx⟩; have HX := hide (show Xl wx g M L bo' bc' yo' yc' s by rw [hwx]; exact (unhide HX0).drewN nn); have TX := hide (show Tl wx g bo' yo' tq tn tc l by rw [hwx]; exact (unhide TX0).same (below_drewN _ _)); have FX := hide (show Fs (ft g bo yo) w (bf g bo' yo' tq l) wx by rw [hwx]; exact (unhide FX0).drewN nn); have kx7 := (unhide HX).c7; have kf7 := (unhide HX).free 7; have xa := unhide W7 wx E hrg.1 hrg.2 (unhide HX); have ka3 := xa.c3; have kaf3 := xa.free 3; have ka7 := xa.c7; obtain ⟨k4, kf4, xc⟩ := unhide CL _ xa; have kc7 := xc.c7; have XC := hide xc; have gc : Gb g wx (((wx.setCell ⟨g, 7, none⟩ (.int .i64 E)).setCell ⟨g, 3, none⟩ (.slice none 0 0)).setCell ⟨g, 4, none⟩ (.slice none 0 0)) := (((Gb.refl g wx).set 7 _).set 3 _).set 4 _; have fc : Fs (ft g bo' yo') wx (ft g none none) (((wx.setCell ⟨g, 7, none⟩ (.int .i64 E)).setCell ⟨g, 3, none⟩ (.slice none 0 0)).setCell ⟨g, 4, none⟩ (.slice none 0 0)) := (Fs.gb (S := ft g bo' yo') gc (.inl rfl)).weak (fun k q => q) (fun k q => .inl (by rcases q with q | q | q; exact .inl q; exact absurd q ob_none; exact absurd q ob_none)); have TC := hide ((unhide TX).fs fc); have FC := hide ((unhide FX).ft_bf fc); clear hwx HX0 TX0 FX0 xa xc gc fc))
          go_quiet (fail)
          go_wp2_with fail
          go_ret2
          rw [unhide HRx]
          exact ⟨tq, tn, tc, l, none, 0, none, 0, rfl, ((unhide TC).own.pks (unhide TC).bod).later (below_drewN _ _), unhide HLT, (unhide XC).later (below_drewN _ _), (unhide FC).drewN _⟩
  · have b1 : (r.why != 0) = true := by rw [bne_iff_ne]; exact a1
    have HRx := hide (show R = (r, [], 9) by rw [hR]; unfold rfeed; rw [if_pos a1])
    have HH := hide h
    clear h hb hR a1
    go_enter Try.func26, Try.ntmps26
    go_wp2_with fail
    go_ret2
    rw [unhide HRx]
    refine ⟨none, 0, 0, [], bo, bc, yo, yc, rfl, Pks.nought _, rfl, unhide HH, (Fs.refl (ft g bo yo) w).weak (fun k q => q) (fun k q => ?_)⟩
    rcases q with q | q | q
    · exact .inl q
    · exact absurd q ob_none
    · obtain ⟨p, hp, _⟩ := q; cases hp
end
end Go.Proofs.Ytoblnmbbdhagbaa
