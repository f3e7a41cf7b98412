/-
  The squeezed reader of the document's own answer, in memory: the block of its struct, the row of what it holds; and what New, Expect, three and frame do. Conditions: the state's own bounds; a most of at most 1,000.
-/
import Derived.Test.YtnoabdafmgmenaaGreatDoorMRi4
import Derived.Test.YtnoabdafmgmenaaGreatDoorSqFeed
import Derived.BigQuiet
namespace Go.Proofs.YtnoabdafmgmenaaGreatDoor
open Go.RowKit
set_option linter.unusedVariables false
set_option linter.unusedSimpArgs false

/-- What the document's reader keeps to, within a call too. -/
structure Xok (M : Int) (s : QS) : Prop where
  m0 : 1 ≤ M
  m1 : M ≤ 1000
  n0 : 0 ≤ s.nx
  n1 : s.nx ≤ 255
  hl : s.held.length ≤ 3000
  w0 : 0 ≤ s.why
  w1 : s.why ≤ 100
def xqv (M : Int) (xo : Option Addr) (xc : Nat) (s : QS) : Array Value := #[.int .i64 M, .int .u8 s.nx, .slice xo s.held.length xc, .int .i64 s.why]
/-- Block g is the document's reader of most M in the state s; what it holds lies at xo. -/
structure Xq (w : World) (g : Nat) (M : Int) (xo : Option Addr) (xc : Nat) (s : QS) : Prop where
  st : w.heap[g]? = some (.cells (xqv M xo xc s) 41 (0, 0))
  b : Bs w xo s.held.length xc s.held
  gx : ¬ ob xo g
  hlt : ∀ k, ob xo k → k < w.heap.size
  ok : Xok M s

section
variable {w : World} {g : Nat} {M : Int} {xo : Option Addr} {xc : Nat} {s : QS}
theorem Xq.lt (h : Xq w g M xo xc s) : g < w.heap.size := (Array.getElem?_eq_some_iff.1 h.st).1
theorem Xq.ltf (h : Xq w g M xo xc s) {k : Nat} (hk : fq g xo k) : k < w.heap.size := by
  rcases hk with q | q
  · rw [q]; exact h.lt
  · exact h.hlt k q
theorem Xq.free (h : Xq w g M xo xc s) (i : Nat) : w.frozen? ⟨g, i, none⟩ = false := frozen_of_row w g i _ _ h.st
theorem Xq.c0 (h : Xq w g M xo xc s) : w.cell? ⟨g, 0, none⟩ = some (.int .i64 M) := by rw [cell_of_row w g 0 _ _ _ h.st]; rfl
theorem Xq.c1 (h : Xq w g M xo xc s) : w.cell? ⟨g, 1, none⟩ = some (.int .u8 s.nx) := by rw [cell_of_row w g 1 _ _ _ h.st]; rfl
theorem Xq.c2 (h : Xq w g M xo xc s) : w.cell? ⟨g, 2, none⟩ = some (.slice xo s.held.length xc) := by rw [cell_of_row w g 2 _ _ _ h.st]; rfl
theorem Xq.c3 (h : Xq w g M xo xc s) : w.cell? ⟨g, 3, none⟩ = some (.int .i64 s.why) := by rw [cell_of_row w g 3 _ _ _ h.st]; rfl
theorem Xq.keep (h : Xq w g M xo xc s) {w' : World} (hz : w.heap.size ≤ w'.heap.size) (hk : ∀ k, fq g xo k → w'.heap[k]? = w.heap[k]?) : Xq w' g M xo xc s :=
  ⟨(hk g (.inl rfl)).trans h.st, h.b.keepB fun k q _ => hk k (.inr q), h.gx, fun k q => Nat.lt_of_lt_of_le (h.hlt k q) hz, h.ok⟩
theorem Xq.fs (h : Xq w g M xo xc s) {w' : World} {S S' : Nat → Prop} (f : Fs S w S' w') (hd : ∀ k, fq g xo k → ¬ S k) : Xq w' g M xo xc s :=
  h.keep f.size fun k hk => f.block k (h.ltf hk) (hd k hk)
theorem Xq.later (h : Xq w g M xo xc s) {w' : World} (hb : Below w.heap.size w w') : Xq w' g M xo xc s := h.keep hb.size fun k hk => hb.block k (h.ltf hk)
theorem Xq.drewN (h : Xq w g M xo xc s) (n : Nat) : Xq (w.drewN n) g M xo xc s := h.keep (Nat.le_refl _) fun _ _ => rfl
/-- What is held lies elsewhere. -/
theorem Xq.reheld (h : Xq w g M xo xc s) {xo2 : Option Addr} {n xc2 : Nat} {bs : List Int} (hB : Bs w xo2 n xc2 bs) (hg : ¬ ob xo2 g) (hlt : ∀ k, ob xo2 k → k < w.heap.size) (hl : bs.length ≤ 3000) :
    Xq (w.setCell ⟨g, 2, none⟩ (.slice xo2 n xc2)) g M xo2 xc2 { s with held := bs } := by
  have e := heap_setCell_same w g 2 _ _ (.slice xo2 n xc2) h.st
  have G : Gb g w (w.setCell ⟨g, 2, none⟩ (.slice xo2 n xc2)) := (Gb.refl g w).set 2 _
  have hn := hB.len
  refine ⟨by rw [e]; simp [xqv, hn], ?_, hg, fun k q => by simpa using hlt k q, ⟨h.ok.m0, h.ok.m1, h.ok.n0, h.ok.n1, hl, h.ok.w0, h.ok.w1⟩⟩
  simp only
  rw [hn]
  exact hB.keepB fun k hk hl => G.block k hl (fun e => hg (e ▸ hk))
theorem Xq.numbered (h : Xq w g M xo xc s) (q : Int) (q0 : 0 ≤ q) (q1 : q ≤ 255) : Xq (w.setCell ⟨g, 1, none⟩ (.int .u8 q)) g M xo xc { s with nx := q } := by
  have e := heap_setCell_same w g 1 _ _ (.int .u8 q) h.st
  have G : Gb g w (w.setCell ⟨g, 1, none⟩ (.int .u8 q)) := (Gb.refl g w).set 1 _
  exact ⟨by rw [e]; simp [xqv], h.b.keepB fun k hk hl => G.block k hl (fun e => h.gx (e ▸ hk)), h.gx, fun k q => by simpa using h.hlt k q, ⟨h.ok.m0, h.ok.m1, q0, q1, h.ok.hl, h.ok.w0, h.ok.w1⟩⟩
theorem Xq.halted (h : Xq w g M xo xc s) (e : Int) (h0 : 0 ≤ e) (h1 : e ≤ 100) : Xq (w.setCell ⟨g, 3, none⟩ (.int .i64 e)) g M xo xc { s with why := e } := by
  have e' := heap_setCell_same w g 3 _ _ (.int .i64 e) h.st
  have G : Gb g w (w.setCell ⟨g, 3, none⟩ (.int .i64 e)) := (Gb.refl g w).set 3 _
  exact ⟨by rw [e']; simp [xqv], h.b.keepB fun k hk hl => G.block k hl (fun e => h.gx (e ▸ hk)), h.gx, fun k q => by simpa using h.hlt k q, ⟨h.ok.m0, h.ok.m1, h.ok.n0, h.ok.n1, h.ok.hl, h0, h1⟩⟩
end

/-- A piece of a slice: its block is the slice's. -/
theorem Bs.cut_lo {w : World} {ao : Option Addr} {n c : Nat} {bs : List Int} (h : Bs w ao n c bs) {lo : Nat} (h1 : lo ≤ n) (L : Int) (hL : L = lo) :
    ∃ ao' c', (∀ wx, (Instr.slice 31 (.slice ao n c) (some (.int .i64 L)) none none).run Tryz.prog wx = .ok (.slice ao' (n - lo) c') wx) ∧ Bs w ao' (n - lo) c' (bs.drop lo) ∧ ∀ k, ob ao' k → ob ao k :=
  ⟨_, _, run_cut_l ao n c lo h1 L hL, (by have := h.cut h1 (Nat.le_refl n); rwa [List.take_of_length_le (by simp [h.len])] at this), fun k q => ob_cut q⟩

set_option maxHeartbeats 1000000 in
theorem xqNew_ok (M : Int) (w : World) (m0 : 1 ≤ M) (m1 : M ≤ 1000) :
    Calls Tryz.prog 6 #[.int .i64 M] w fun e w' => e = .returned (.tuple #[.pointer (some ⟨w.heap.size, 0, none⟩), .int .i64 0]) ∧ Xq w' w.heap.size M none 0 qz ∧ Below w.heap.size w w' := by
  have k0 : ¬ M < 1 := by omega
  have k1 : ¬ 16777215 < M := by omega
  go_enter Tryz.func6, Tryz.ntmps6
  go_wp2_with fail
  go_ret2
  exact ⟨rfl, ⟨heap_alloc_new w _, Bs.nought _, ob_none, fun k h => absurd h ob_none, ⟨m0, m1, by simp [qz], by simp [qz], by simp [qz], by simp [qz], by simp [qz]⟩⟩, below_alloc w _⟩
set_option maxHeartbeats 1000000 in
theorem xqNew_bad (M : Int) (w : World) (h : M < 1 ∨ 16777215 < M) :
    Calls Tryz.prog 6 #[.int .i64 M] w fun e w' => e = .returned (.tuple #[.pointer none, .int .i64 2]) ∧ w' = w := by
  have hc : M < 1 ∨ (¬ M < 1 ∧ 16777215 < M) := by omega
  clear h
  rcases hc with k0 | ⟨k0, k1⟩
  all_goals
    go_enter Tryz.func6, Tryz.ntmps6
    go_wp2_with fail
    go_ret2
    exact ⟨rfl, rfl⟩

section
variable {g : Nat} {M : Int} {xo : Option Addr} {xc : Nat} {s : QS}
set_option maxHeartbeats 1000000 in
theorem xqExpect_any (w : World) (h : Xq w g M xo xc s) (q : Int) (q0 : 0 ≤ q) (q1 : q ≤ 255) :
    Calls Tryz.prog 9 #[.pointer (some ⟨g, 0, none⟩), .int .u8 q] w fun e w' => e = .returned (.int .i64 (qxE s)) ∧ Xq w' g M xo xc (qxS s q) ∧ Gb g w w' := by
  have c1 := h.c1
  have c2 := h.c2
  have c3 := h.c3
  have f1 := h.free 1
  have hl := h.ok.hl
  have H := hide h
  clear h
  by_cases hw : s.why = 0
  · have hw' : (s.why != 0) = false := by simpa using hw
    by_cases hh : 0 < s.held.length
    · have hh' : (0 : Int) < (s.held.length : Int) := by omega
      have hE := hide (show qxE s = 5 by unfold qxE; rw [if_neg (by simpa using hw), if_pos hh])
      have hS := hide (show qxS s q = s by unfold qxS; rw [unhide hE]; rfl)
      clear hw hh
      go_enter Tryz.func9, Tryz.ntmps9
      go_wp2_with fail
      go_ret
      rw [unhide hE, unhide hS]
      exact ⟨rfl, unhide H, Gb.refl _ _⟩
    · have hh' : ¬ (0 : Int) < (s.held.length : Int) := by omega
      have hE := hide (show qxE s = 0 by unfold qxE; rw [if_neg (by simpa using hw), if_neg hh])
      have hS := hide (show qxS s q = { s with nx := q } by unfold qxS; rw [unhide hE]; rfl)
      have HN := hide ((unhide H).numbered q q0 q1)
      clear hw hh
      go_enter Tryz.func9, Tryz.ntmps9
      go_wp2_with fail
      go_ret
      rw [unhide hE, unhide hS]
      exact ⟨rfl, unhide HN, (Gb.refl _ _).set 1 _⟩
  · have hw' : (s.why != 0) = true := by simpa using hw
    have hE := hide (show qxE s = 9 by unfold qxE; rw [if_pos hw])
    have hS := hide (show qxS s q = s by unfold qxS; rw [unhide hE]; rfl)
    clear hw
    go_enter Tryz.func9, Tryz.ntmps9
    go_wp2_with fail
    go_ret
    rw [unhide hE, unhide hS]
    exact ⟨rfl, unhide H, Gb.refl _ _⟩
end

theorem or_three (a b c : Int) (a0 : 0 ≤ a ∧ a ≤ 255) (b0 : 0 ≤ b ∧ b ≤ 255) (c0 : 0 ≤ c ∧ c ≤ 255) : bits .or .i64 a (b * 256) = a + b * 256 ∧ bits .or .i64 (a + b * 256) (c * 65536) = a + b * 256 + c * 65536 := by
  obtain ⟨A, rfl⟩ := Int.eq_ofNat_of_zero_le a0.1
  obtain ⟨B, rfl⟩ := Int.eq_ofNat_of_zero_le b0.1
  obtain ⟨C, rfl⟩ := Int.eq_ofNat_of_zero_le c0.1
  constructor
  · have e1 : BitVec.ofInt 64 ((B : Int) * 256) = BitVec.ofNat 64 (B * 256) := by rw [show (B : Int) * 256 = ((B * 256 : Nat) : Int) by omega, BitVec.ofInt_natCast]
    show IntKind.i64.wrap ((BitVec.ofInt 64 (A : Int) ||| BitVec.ofInt 64 ((B : Int) * 256)).toNat : Int) = _
    rw [e1, BitVec.ofInt_natCast, BitVec.toNat_or, BitVec.toNat_ofNat, BitVec.toNat_ofNat, Nat.mod_eq_of_lt (show A < 2 ^ 64 by omega), Nat.mod_eq_of_lt (show B * 256 < 2 ^ 64 by omega), Nat.or_comm, nat_join 8 (B * 256) A (by omega) (by omega), IntKind.wrap_i64]
    omega
  · have e1 : BitVec.ofInt 64 ((C : Int) * 65536) = BitVec.ofNat 64 (C * 65536) := by rw [show (C : Int) * 65536 = ((C * 65536 : Nat) : Int) by omega, BitVec.ofInt_natCast]
    have e2 : BitVec.ofInt 64 ((A : Int) + (B : Int) * 256) = BitVec.ofNat 64 (A + B * 256) := by rw [show (A : Int) + (B : Int) * 256 = ((A + B * 256 : Nat) : Int) by omega, BitVec.ofInt_natCast]
    show IntKind.i64.wrap ((BitVec.ofInt 64 ((A : Int) + (B : Int) * 256) ||| BitVec.ofInt 64 ((C : Int) * 65536)).toNat : Int) = _
    rw [e1, e2, BitVec.toNat_or, BitVec.toNat_ofNat, BitVec.toNat_ofNat, Nat.mod_eq_of_lt (show A + B * 256 < 2 ^ 64 by omega), Nat.mod_eq_of_lt (show C * 65536 < 2 ^ 64 by omega), Nat.or_comm, nat_join 16 (C * 65536) (A + B * 256) (by omega) (by omega), IntKind.wrap_i64]
    omega

set_option maxHeartbeats 1000000 in
theorem three_rd (w : World) (ao : Option Addr) (n c : Nat) (bs : List Int) (h : Bs w ao n c bs) (h3 : 3 ≤ n) :
    Calls Tryz.prog 22 #[.slice ao n c] w fun e w' => e = .returned (.int .i64 (val bs 3)) ∧ ∃ k, w' = w.drewN k := by
  have hle := h.le
  have hmx := h.max
  obtain ⟨p0, q0, i0, c0⟩ := h.idx (i := 0) (by omega) 0 rfl
  obtain ⟨p1, q1, i1, c1⟩ := h.idx (i := 1) (by omega) 1 rfl
  obtain ⟨p2, q2, i2, c2⟩ := h.idx (i := 2) (by omega) 2 rfl
  have y0 := h.byt.at 0
  have y1 := h.byt.at 1
  have y2 := h.byt.at 2
  have hv := hide (show val bs 3 = bs[0]?.getD 0 + bs[1]?.getD 0 * 256 + bs[2]?.getD 0 * 65536 by simp [val])
  clear h
  generalize bs[0]?.getD 0 = x0 at *
  generalize bs[1]?.getD 0 = x1 at *
  generalize bs[2]?.getD 0 = x2 at *
  obtain ⟨o1, o2⟩ := or_three x0 x1 x2 y0 y1 y2
  have z00 := y0.1
  have z01 := y0.2
  have z10 := y1.1
  have z11 := y1.2
  have z20 := y2.1
  have z21 := y2.2
  clear y0 y1 y2
  go_enter Tryz.func22, Tryz.ntmps22
  go_wp2_with fail
  go_quiet (fail)
  go_wp2_with fail
  go_ret
  exact ⟨by rw [unhide hv]; rfl, nq, rfl⟩

/-- What the document's frame makes of Unpack's answer. -/
theorem qF_ulk {b : List Int} {t : Nat} {r : List Int × Int} (ht : t ≠ 0) (h : Ulk r (unp 100000 b (t : Int))) :
    (r.2 = 8 → qF b t = ([], 8)) ∧ (r.2 ≠ 8 → (r.2 ≠ 0 ∨ r.1.length ≠ t) → qF b t = ([], 5)) ∧ (r.2 = 0 → r.1.length = t → qF b t = (r.1, 0)) := by
  have hle := unp_le 100000 (by omega) b (t : Int) (by omega)
  unfold qF
  rw [if_neg ht]
  rcases h with rfl | ⟨h1, h2⟩
  · refine ⟨fun q => by rw [if_pos q], fun q1 q2 => ?_, fun q1 q2 => ?_⟩
    · rw [if_neg q1, if_pos (q2.imp id fun q => by omega)]
    · rw [if_neg (by omega), if_neg (by omega)]
  · have n8 : ¬ (unp 100000 b (t : Int)).2 = 8 := by omega
    have n0 : (unp 100000 b (t : Int)).2 ≠ 0 ∨ (unp 100000 b (t : Int)).1.length < t := .inl (by omega)
    rw [if_neg n8, if_pos n0]
    exact ⟨fun q => by omega, fun _ _ => rfl, fun q => by omega⟩

section
variable {g : Nat} {M : Int} {xo : Option Addr} {xc : Nat} {s : QS}
set_option maxHeartbeats 2000000 in
theorem frame_rd (w : World) (h : Xq w g M xo xc s) (n t : Nat) (hn : 7 + n ≤ s.held.length) (hn2 : n ≤ 1000) (ht2 : t ≤ 1000) (N T : Int) (hN : N = (n : Int)) (hT : T = (t : Int)) :
    Calls Tryz.prog 23 #[.pointer (some ⟨g, 0, none⟩), .int .i64 N, .int .i64 T] w fun e w' => OutU w (qF ((s.held.drop 7).take n) t) e w' := by
  have c2 := h.c2
  have hl := h.ok.hl
  obtain ⟨a1, k1, hc1, hi1⟩ := h.b.cut_lh (lo := 7) (hi := 7 + n) (by omega) hn 7 (7 + (n : Int)) rfl (by omega)
  rw [show 7 + n - 7 = n by omega] at hc1 hi1
  have HI := hide hi1
  have hle := hi1.le
  have hmx := hi1.max
  obtain ⟨f, hf⟩ : ∃ f, (s.held.drop 7).take n = f := ⟨_, rfl⟩
  rw [hf] at HI ⊢
  subst hN
  subst hT
  clear h hi1 hf
  by_cases ht : t = 0
  · subst ht
    have hq := hide (show qF f 0 = (f, 0) by unfold qF; rw [if_pos rfl])
    have M0 := hide (Mine.empty w)
    have B0 := hide (below_alloc w (.cells #[] 5))
    go_enter Tryz.func23, Tryz.ntmps23
    go_wp2_with (at_builtin; refine wpList_app rfl (.tmp 20) (.tmp 21) rfl w.heap.size _ 0 0 [] rfl (unhide M0) a1 n k1 f rfl ((unhide HI).later (unhide B0)) (by omega) (by simp) ?_; intro a2 c2 w2 m2 b2)
    go_ret2
    rw [unhide hq]
    exact ⟨a2, _, c2, rfl, by simpa using m2, (unhide B0).trans b2⟩
  · have ht' : ((t : Int) == 0) = false := by simp; omega
    have uc := hide (runpack_rd 100000 w a1 n k1 f (t : Int) (unhide HI) (by omega) (by omega) (by omega) (by omega) (by omega))
    have QU := hide (fun r => qF_ulk (b := f) (r := r) ht)
    go_enter Tryz.func23, Tryz.ntmps23
    go_wp2_with fail
    refine (unhide uc).mono ?_
    rintro e w2 ⟨r, ul, a2, n2, k2, rfl, m2, b2⟩
    obtain ⟨q8, q5, q0⟩ := unhide QU r ul
    have hlen := m2.len
    have M2 := hide m2
    have B2 := hide b2
    clear ul m2 b2 uc QU
    obtain ⟨l, er⟩ := r
    simp only at q8 q5 q0 hlen M2 ⊢
    by_cases e8 : er = 8
    · subst e8
      have hq := hide (q8 rfl)
      clear q8 q5 q0
      go_wp2_with fail
      go_ret2
      rw [unhide hq]
      exact ⟨none, 0, 0, rfl, Mine.nought _ _, unhide B2⟩
    · have e8' : (er == 8) = false := by simpa using e8
      by_cases e0 : er = 0
      · subst e0
        by_cases hL : n2 = t
        · subst hL
          have hq := hide (q0 rfl hlen)
          clear q8 q5 q0
          go_wp2_with fail
          go_ret2
          rw [unhide hq]
          exact ⟨a2, _, k2, rfl, unhide M2, unhide B2⟩
        · have hL' : ((n2 : Int) != (t : Int)) = true := by simp; omega
          have hq := hide (q5 e8 (.inr (by omega)))
          clear q8 q5 q0 hL
          go_wp2_with fail
          go_ret2
          rw [unhide hq]
          exact ⟨none, 0, 0, rfl, Mine.nought _ _, unhide B2⟩
      · have e0' : (er != 0) = true := by simpa using e0
        have hq := hide (q5 e8 (.inl e0))
        clear q8 q5 q0 e0 e8
        go_wp2_with fail
        go_ret2
        rw [unhide hq]
        exact ⟨none, 0, 0, rfl, Mine.nought _ _, unhide B2⟩
end
end Go.Proofs.YtnoabdafmgmenaaGreatDoor
