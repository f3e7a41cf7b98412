/-
  The reader of the document's own answer in memory, and what its small methods return. Conditions: lengths below a bound that is far above every length the statements allow.
-/
import Derived.Test.YtoblnmbbdhagbaaPktLow
import Derived.Laws.Bits128
namespace Go.Proofs.Ytoblnmbbdhagbaa
open Go.RowKit
set_option linter.unusedVariables false
set_option linter.unusedSimpArgs false

/-- The state of the document's reader. -/
structure RS where
  sq : Int
  ys : List Int
  body : List Int
  fi : Int
  wi : Bool
  why : Int
/-- What the program's reader would hold. -/
def ofR (r : RS) : PS := ⟨r.sq, r.body, r.ys, r.why⟩
def xv (M L : Int) (bo : Option Addr) (bc : Nat) (yo : Option Addr) (yc : Nat) (r : RS) : Array Value :=
  #[.int .i64 M, .int .i64 L, .int .u8 r.sq, .slice yo r.ys.length yc, .slice bo r.body.length bc, .int .u8 r.fi, .bool r.wi, .int .i64 r.why]
/-- Block g is a reader of the document's in the state r. -/
structure Xl (w : World) (g : Nat) (M L : Int) (bo : Option Addr) (bc : Nat) (yo : Option Addr) (yc : Nat) (r : RS) : Prop where
  st : w.heap[g]? = some (.cells (xv M L bo bc yo yc r) 53 (0, 0))
  body : Mine 0 w bo r.body.length bc r.body
  held : Bs w yo r.ys.length yc r.ys
  gb : ¬ ob bo g
  gh : ¬ ob yo g
  bh : ∀ k, ob bo k → ¬ ob yo k
  hlt : ∀ k, ob yo k → k < w.heap.size
  ok : Sok M L (ofR r)
  f0 : 0 ≤ r.fi
  f1 : r.fi ≤ 255

section
variable {w w' : World} {g : Nat} {M L : Int} {bo : Option Addr} {bc : Nat} {yo : Option Addr} {yc : Nat} {r : RS}
theorem Xl.lt (h : Xl w g M L bo bc yo yc r) : g < w.heap.size := (Array.getElem?_eq_some_iff.1 h.st).1
theorem Xl.c0 (h : Xl w g M L bo bc yo yc r) : w.cell? ⟨g, 0, none⟩ = some (.int .i64 M) := by rw [cell_of_row w g 0 _ _ _ h.st]; rfl
theorem Xl.c1 (h : Xl w g M L bo bc yo yc r) : w.cell? ⟨g, 1, none⟩ = some (.int .i64 L) := by rw [cell_of_row w g 1 _ _ _ h.st]; rfl
theorem Xl.c2 (h : Xl w g M L bo bc yo yc r) : w.cell? ⟨g, 2, none⟩ = some (.int .u8 r.sq) := by rw [cell_of_row w g 2 _ _ _ h.st]; rfl
theorem Xl.c3 (h : Xl w g M L bo bc yo yc r) : w.cell? ⟨g, 3, none⟩ = some (.slice yo r.ys.length yc) := by rw [cell_of_row w g 3 _ _ _ h.st]; rfl
theorem Xl.c4 (h : Xl w g M L bo bc yo yc r) : w.cell? ⟨g, 4, none⟩ = some (.slice bo r.body.length bc) := by rw [cell_of_row w g 4 _ _ _ h.st]; rfl
theorem Xl.c5 (h : Xl w g M L bo bc yo yc r) : w.cell? ⟨g, 5, none⟩ = some (.int .u8 r.fi) := by rw [cell_of_row w g 5 _ _ _ h.st]; rfl
theorem Xl.c6 (h : Xl w g M L bo bc yo yc r) : w.cell? ⟨g, 6, none⟩ = some (.bool r.wi) := by rw [cell_of_row w g 6 _ _ _ h.st]; rfl
theorem Xl.c7 (h : Xl w g M L bo bc yo yc r) : w.cell? ⟨g, 7, none⟩ = some (.int .i64 r.why) := by rw [cell_of_row w g 7 _ _ _ h.st]; rfl
theorem Xl.free (h : Xl w g M L bo bc yo yc r) (i : Nat) : w.frozen? ⟨g, i, none⟩ = false := frozen_of_row w g i _ _ h.st
theorem Xl.keepB (h : Xl w g M L bo bc yo yc r) (hk : ∀ k, ft g bo yo k → k < w.heap.size → w'.heap[k]? = w.heap[k]?) : Xl w' g M L bo bc yo yc r :=
  ⟨by rw [hk g (.inl rfl) h.lt]; exact h.st, h.body.keepB fun k ho => hk k (.inr (.inl ho)) (h.body.ob ho).2, h.held.keepB fun k ho hl => hk k (.inr (.inr ho)) hl, h.gb, h.gh, h.bh, fun k ho => lt_of_same (h.hlt k ho) (hk k (.inr (.inr ho)) (h.hlt k ho)), h.ok, h.f0, h.f1⟩
theorem Xl.later (h : Xl w g M L bo bc yo yc r) (hb : Below w.heap.size w w') : Xl w' g M L bo bc yo yc r := h.keepB fun k _ hl => hb.block k hl
theorem Xl.drew (h : Xl w g M L bo bc yo yc r) : Xl w.drew g M L bo bc yo yc r := h.keepB fun k _ _ => rfl
theorem Xl.drewN (h : Xl w g M L bo bc yo yc r) (n : Nat) : Xl (w.drewN n) g M L bo bc yo yc r := h.keepB fun k _ _ => rfl
theorem Xl.fs {S S' : Nat → Prop} (h : Xl w g M L bo bc yo yc r) (f : Fs S w S' w') (hd : ∀ k, ft g bo yo k → ¬ S k) : Xl w' g M L bo bc yo yc r := h.keepB fun k hk hl => f.block k hl (hd k hk)
theorem Xl.ltf (h : Xl w g M L bo bc yo yc r) {k : Nat} (hk : ft g bo yo k) : k < w.heap.size := by
  rcases hk with rfl | hk | hk
  · exact h.lt
  · exact (h.body.ob hk).2
  · exact h.hlt k hk
/-- One cell of numbers is written: whatever it is, the rows stay. -/
theorem Xl.cells (h : Xl w g M L bo bc yo yc r) {w2 : World} {bo' yo' : Option Addr} {bc' yc' : Nat} {r' : RS} (G : Gb g w w2) (e : w2.heap[g]? = some (.cells (xv M L bo' bc' yo' yc' r') 53 (0, 0)))
    (hb : (bo' = bo ∧ bc' = bc ∧ r'.body = r.body) ∨ (bo' = none ∧ bc' = 0 ∧ r'.body = [])) (hy : (∀ k, ob yo' k → ob yo k) ∧ Bs w yo' r'.ys.length yc' r'.ys) (hk : Sok M L (ofR r')) (f0 : 0 ≤ r'.fi) (f1 : r'.fi ≤ 255) : Xl w2 g M L bo' bc' yo' yc' r' := by
  have hg : ∀ k, ob bo' k → ob bo k := by
    rcases hb with ⟨rfl, _, _⟩ | ⟨rfl, _, _⟩
    · exact fun k q => q
    · exact fun k q => absurd q ob_none
  refine ⟨e, ?_, hy.2.keepB fun k hk hl => G.block k hl (fun q => h.gh (hy.1 g (q ▸ hk))), fun q => h.gb (hg g q), fun q => h.gh (hy.1 g q), fun k a b => h.bh k (hg k a) (hy.1 k b), fun k a => Nat.lt_of_lt_of_le (h.hlt k (hy.1 k a)) G.size, hk, f0, f1⟩
  rcases hb with ⟨rfl, rfl, eb⟩ | ⟨rfl, rfl, eb⟩
  · rw [eb]
    exact h.body.keepB fun k hk => G.block k (h.body.ob hk).2 (fun q => h.gb (q ▸ hk))
  · rw [eb]
    exact Mine.nought 0 _
end

theorem or8_i64 (a b : Int) (a0 : 0 ≤ a) (a1 : a ≤ 255) (b0 : 0 ≤ b) (b1 : b ≤ 255) : bits .or .i64 a (b * 256) = a + b * 256 := by
  obtain ⟨A, rfl⟩ := Int.eq_ofNat_of_zero_le a0
  obtain ⟨B, rfl⟩ := Int.eq_ofNat_of_zero_le b0
  have e1 : BitVec.ofInt 64 ((B : Int) * 256) = BitVec.ofNat 64 (B * 256) := by rw [show (B : Int) * 256 = ((B * 256 : Nat) : Int) by omega, BitVec.ofInt_natCast]
  show IntKind.i64.wrap ((BitVec.ofInt 64 (A : Int) ||| BitVec.ofInt 64 ((B : Int) * 256)).toNat : Int) = _
  rw [e1, BitVec.ofInt_natCast, BitVec.toNat_or, BitVec.toNat_ofNat, BitVec.toNat_ofNat, Nat.mod_eq_of_lt (show A < 2 ^ 64 by omega), Nat.mod_eq_of_lt (show B * 256 < 2 ^ 64 by omega), Nat.or_comm, nat_join 8 (B * 256) A (by omega) (by omega), IntKind.wrap_i64]
  omega
theorem or16_i64 (a b : Int) (a0 : 0 ≤ a) (a1 : a ≤ 65535) (b0 : 0 ≤ b) (b1 : b ≤ 255) : bits .or .i64 a (b * 65536) = a + b * 65536 := by
  obtain ⟨A, rfl⟩ := Int.eq_ofNat_of_zero_le a0
  obtain ⟨B, rfl⟩ := Int.eq_ofNat_of_zero_le b0
  have e1 : BitVec.ofInt 64 ((B : Int) * 65536) = BitVec.ofNat 64 (B * 65536) := by rw [show (B : Int) * 65536 = ((B * 65536 : Nat) : Int) by omega, BitVec.ofInt_natCast]
  show IntKind.i64.wrap ((BitVec.ofInt 64 (A : Int) ||| BitVec.ofInt 64 ((B : Int) * 65536)).toNat : Int) = _
  rw [e1, BitVec.ofInt_natCast, BitVec.toNat_or, BitVec.toNat_ofNat, BitVec.toNat_ofNat, Nat.mod_eq_of_lt (show A < 2 ^ 64 by omega), Nat.mod_eq_of_lt (show B * 65536 < 2 ^ 64 by omega), Nat.or_comm, nat_join 16 (B * 65536) A (by omega) (by omega), IntKind.wrap_i64]
  omega

/-- A new reader's state. -/
def rs0 : RS := ⟨0, [], [], 0, false, 0⟩
set_option maxHeartbeats 1000000 in
theorem xnew_ok (M L : Int) (w : World) (h0 : 1 ≤ M) (h1 : M ≤ 16777215) (h2 : 0 ≤ L) (h3 : L ≤ 1073741824) :
    Calls Try.prog 22 #[.int .i64 M, .int .i64 L] w fun e w' => e = .returned (.tuple #[.pointer (some ⟨w.heap.size, 0, none⟩), .int .i64 0]) ∧ Xl w' w.heap.size M L none 0 none 0 rs0 ∧ Below w.heap.size w w' := by
  have HS := hide (sok0 h0 h1 h2 h3)
  have k0 : ¬ M < 1 := by omega
  have k1 : ¬ 16777215 < M := by omega
  have k2 : ¬ L < 0 := by omega
  have k3 : ¬ 1073741824 < L := by omega
  clear h0 h1 h2 h3
  go_enter Try.func22, Try.ntmps22
  go_wp2_with fail
  go_ret2
  exact ⟨rfl, ⟨heap_alloc_new w _, Mine.nought 0 _, Bs.nought _, ob_none, ob_none, fun k h => absurd h ob_none, fun k h => absurd h ob_none, unhide HS, by simp [rs0], by simp [rs0]⟩, below_alloc w _⟩
set_option maxHeartbeats 1000000 in
theorem xnew_bad (M L : Int) (w : World) (h : ¬ (1 ≤ M ∧ M ≤ 16777215 ∧ 0 ≤ L ∧ L ≤ 1073741824)) :
    Calls Try.prog 22 #[.int .i64 M, .int .i64 L] w fun e w' => e = .returned (.tuple #[.pointer none, .int .i64 2]) ∧ w' = w := by
  have hc : M < 1 ∨ (¬ M < 1 ∧ 16777215 < M) ∨ (¬ M < 1 ∧ ¬ 16777215 < M ∧ L < 0) ∨ (¬ M < 1 ∧ ¬ 16777215 < M ∧ ¬ L < 0 ∧ 1073741824 < L) := by omega
  clear h
  rcases hc with k0 | ⟨k0, k1⟩ | ⟨k0, k1, k2⟩ | ⟨k0, k1, k2, k3⟩
  all_goals
    go_enter Try.func22, Try.ntmps22
    go_wp2_with fail
    go_ret2
    exact ⟨rfl, rfl⟩

section
variable {g : Nat} {M L : Int} {bo : Option Addr} {bc : Nat} {yo : Option Addr} {yc : Nat} {r : RS}
set_option maxHeartbeats 400000 in
theorem xheld_any (w : World) (h : Xl w g M L bo bc yo yc r) : Calls Try.prog 28 #[.pointer (some ⟨g, 0, none⟩)] w fun e w' => e = .returned (.int .i64 (hln (ofR r))) ∧ ∃ n, w' = w.drewN n := by
  have c3 := h.c3
  have c4 := h.c4
  have hb : r.body.length ≤ 2000000000 := by have := h.ok.bl; have := h.ok.l1; simp only [ofR] at *; omega
  have hl : r.ys.length ≤ 2000000000 := h.ok.hl
  have hr := hide (show hln (ofR r) = (r.ys.length : Int) + (r.body.length : Int) by unfold hln; simp only [ofR]; omega)
  clear h
  generalize r.body.length = B at *
  generalize r.ys.length = H at *
  go_enter Try.func28, Try.ntmps28
  go_wp2_with fail
  go_quiet (fail)
  go_wp2
  go_ret
  rw [unhide hr]
  exact ⟨rfl, _, rfl⟩

set_option maxHeartbeats 2000000 in
theorem wrong_any (w : World) (h : Xl w g M L bo bc yo yc r) (h4 : 4 ≤ r.ys.length) :
    Calls Try.prog 39 #[.pointer (some ⟨g, 0, none⟩)] w fun e w' => e = .returned (.int .i64 (hdE M L (ofR r))) ∧ ∃ n, w' = w.drewN n := by
  have c0 := h.c0
  have c1 := h.c1
  have c2 := h.c2
  have c3 := h.c3
  have c4 := h.c4
  have hb : r.body.length ≤ 2000000000 := by have := h.ok.bl; have := h.ok.l1; simp only [ofR] at *; omega
  obtain ⟨b0, o0, hix0, hcx0⟩ := h.held.idx (show 0 < r.ys.length by omega) (0 : Int) rfl
  obtain ⟨b1, o1, hix1, hcx1⟩ := h.held.idx (show 1 < r.ys.length by omega) (1 : Int) rfl
  obtain ⟨b2, o2, hix2, hcx2⟩ := h.held.idx (show 2 < r.ys.length by omega) (2 : Int) rfl
  obtain ⟨b3, o3, hix3, hcx3⟩ := h.held.idx (show 3 < r.ys.length by omega) (3 : Int) rfl
  have hy0 := h.held.byt.at 0
  have hy1 := h.held.byt.at 1
  have hy2 := h.held.byt.at 2
  have hy3 := h.held.byt.at 3
  have hn0 : 0 ≤ r.sq := h.ok.n0
  have hn1 : r.sq ≤ 255 := h.ok.n1
  have hm0 := h.ok.m0
  have hm1 := h.ok.m1
  have hl0 := h.ok.l0
  have hl1 := h.ok.l1
  have hv : val r.ys 3 = r.ys[0]?.getD 0 + r.ys[1]?.getD 0 * 256 + r.ys[2]?.getD 0 * 65536 := by rw [val3]; simp
  have E := hide (show hdE M L (ofR r) = if M < val r.ys 3 then 5 else if r.ys.getD 3 0 ≠ r.sq then 6 else if L < (r.body.length : Int) + val r.ys 3 then 3 else 0 from rfl)
  rw [show r.ys.getD 3 0 = r.ys[3]?.getD 0 by simp] at E
  rw [hv] at E
  clear h h4 hv
  generalize r.ys[0]?.getD 0 = d0 at *
  generalize r.ys[1]?.getD 0 = d1 at *
  generalize r.ys[2]?.getD 0 = d2 at *
  generalize r.ys[3]?.getD 0 = d at *
  generalize r.body.length = B at *
  generalize r.ys.length = H at *
  generalize hdE M L (ofR r) = ee at *
  generalize r.sq = N at *
  have r1 := or8_i64 d0 d1 hy0.1 hy0.2 hy1.1 hy1.2
  have r2 := or16_i64 (d0 + d1 * 256) d2 (by omega) (by omega) hy2.1 hy2.2
  obtain ⟨x, hx⟩ : ∃ x, d0 + d1 * 256 + d2 * 65536 = x := ⟨_, rfl⟩
  have hx0 : 0 ≤ x ∧ x ≤ 16777215 := by omega
  rw [hx] at E r2
  clear hx
  by_cases a1 : M < x
  · have hE : ee = 5 := by rw [unhide E, if_pos a1]
    rw [hE]
    clear hE E
    go_enter Try.func39, Try.ntmps39
    go_wp2_with fail
    go_quiet (fail)
    go_wp2_with fail
    go_ret
    exact ⟨rfl, _, rfl⟩
  · by_cases a2 : d = N
    · have b2 : (d != N) = false := by rw [bne_eq_false_iff_eq]; exact a2
      by_cases a3 : L < (B : Int) + x
      · have hE : ee = 3 := by rw [unhide E, if_neg a1, if_neg (by simp [a2]), if_pos a3]
        rw [hE]
        clear hE E a2
        go_enter Try.func39, Try.ntmps39
        go_wp2_with fail
        go_quiet (fail)
        go_wp2_with fail
        go_quiet (fail)
        go_wp2_with fail
        go_quiet (fail)
        go_wp2_with fail
        go_ret
        exact ⟨rfl, by simp only [World.drewN_drewN]; exact ⟨_, rfl⟩⟩
      · have hE : ee = 0 := by rw [unhide E, if_neg a1, if_neg (by simp [a2]), if_neg a3]
        rw [hE]
        clear hE E a2
        go_enter Try.func39, Try.ntmps39
        go_wp2_with fail
        go_quiet (fail)
        go_wp2_with fail
        go_quiet (fail)
        go_wp2_with fail
        go_quiet (fail)
        go_wp2_with fail
        go_ret
        exact ⟨rfl, by simp only [World.drewN_drewN]; exact ⟨_, rfl⟩⟩
    · have b2 : (d != N) = true := by rw [bne_iff_ne]; exact a2
      have hE : ee = 6 := by rw [unhide E, if_neg a1, if_pos a2]
      rw [hE]
      clear hE E a2
      go_enter Try.func39, Try.ntmps39
      go_wp2_with fail
      go_quiet (fail)
      go_wp2_with fail
      go_quiet (fail)
      go_wp2_with fail
      go_ret
      exact ⟨rfl, by simp only [World.drewN_drewN]; exact ⟨_, rfl⟩⟩

/-- What Expect of the document's reader answers, and leaves. -/
def xxE (r : RS) : Int := if r.why ≠ 0 then 9 else if 0 < r.ys.length ∨ r.wi = true then 5 else 0
def xxS (r : RS) (q : Int) : RS := if xxE r = 0 then { r with sq := q } else r
set_option maxHeartbeats 1000000 in
theorem xexpect_any (w : World) (h : Xl w g M L bo bc yo yc r) (q : Int) (q0 : 0 ≤ q) (q1 : q ≤ 255) :
    Calls Try.prog 25 #[.pointer (some ⟨g, 0, none⟩), .int .u8 q] w fun e w' => e = .returned (.int .i64 (xxE r)) ∧ Xl w' g M L bo bc yo yc (xxS r q) ∧ Gb g w w' := by
  have c2 := h.c2
  have c3 := h.c3
  have c6 := h.c6
  have c7 := h.c7
  have f2 := h.free 2
  have hl : r.ys.length ≤ 2000000000 := h.ok.hl
  have E := hide (show xxE r = if r.why ≠ 0 then 9 else if 0 < r.ys.length ∨ r.wi = true then 5 else 0 from rfl)
  have X := hide (show xxS r q = if xxE r = 0 then { r with sq := q } else r from rfl)
  have HN := hide (show Xl (w.setCell ⟨g, 2, none⟩ (.int .u8 q)) g M L bo bc yo yc { r with sq := q } by
    refine h.cells ((Gb.refl g w).set 2 _) ?_ (.inl ⟨rfl, rfl, rfl⟩) ⟨fun k a => a, h.held⟩ ⟨h.ok.m0, h.ok.m1, h.ok.l0, h.ok.l1, q0, q1, h.ok.bl, h.ok.hl, h.ok.w0, h.ok.w1⟩ h.f0 h.f1
    rw [heap_setCell_same w g 2 _ _ (.int .u8 q) h.st]
    simp [xv])
  have HR := hide h
  clear h
  generalize xxE r = ee at *
  generalize xxS r q = xs at *
  generalize hY : r.ys.length = Y at *
  generalize hW : r.wi = W at *
  by_cases a1 : r.why = 0
  · have b1 : (r.why != 0) = false := by rw [bne_eq_false_iff_eq]; exact a1
    by_cases a2 : 0 < Y
    · have hE : ee = 5 := by rw [unhide E, if_neg (by simp [a1]), if_pos (.inl a2)]
      have hX : xs = r := by rw [unhide X, hE]; rfl
      rw [hE, hX]
      clear hE hX E X HN a1
      go_enter Try.func25, Try.ntmps25
      go_wp2_with fail
      go_ret
      exact ⟨rfl, unhide HR, Gb.refl g w⟩
    · have a2' : Y = 0 := by omega
      subst a2'
      cases W with
      | true =>
        have hE : ee = 5 := by rw [unhide E, if_neg (by simp [a1]), if_pos (.inr rfl)]
        have hX : xs = r := by rw [unhide X, hE]; rfl
        rw [hE, hX]
        clear hE hX E X HN a1
        go_enter Try.func25, Try.ntmps25
        go_wp2_with fail
        go_ret
        exact ⟨rfl, unhide HR, Gb.refl g w⟩
      | false =>
        have hE : ee = 0 := by rw [unhide E, if_neg (by simp [a1]), if_neg (by simp)]
        have hX : xs = { r with sq := q, wi := false } := by rw [unhide X, hE]; rfl
        rw [hE, hX]
        clear hE hX E X a1
        go_enter Try.func25, Try.ntmps25
        go_wp2_with fail
        go_ret
        exact ⟨rfl, unhide HN, (Gb.refl g w).set 2 _⟩
  · have b1 : (r.why != 0) = true := by rw [bne_iff_ne]; exact a1
    have hE : ee = 9 := by rw [unhide E, if_pos a1]
    have hX : xs = r := by rw [unhide X, hE]; rfl
    rw [hE, hX]
    clear hE hX E X HN a1
    go_enter Try.func25, Try.ntmps25
    go_wp2_with fail
    go_ret
    exact ⟨rfl, unhide HR, Gb.refl g w⟩
end
end Go.Proofs.Ytoblnmbbdhagbaa
