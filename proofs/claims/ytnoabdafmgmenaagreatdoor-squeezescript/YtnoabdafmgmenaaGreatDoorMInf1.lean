/-
  A stream that is being read, in memory: the block of its struct, the row of what it told, and what stays as it was when it goes on. Conditions: at most a million bytes, at most a million that are told.
  Bits of whole numbers: a bit set behind others, sixteen bits turned. No program is named here.
  What the reader's methods stop, bit, field and toByte, of package inflate, do to a stream. Conditions: the state's own bounds.
  What symbol and within, of package inflate, do to a stream. Conditions: the state's own bounds.
  What room, tell, count and goesOn, of package inflate, do to a stream. Conditions: the state's own bounds.
  What distance, of package inflate, does to a stream. Conditions: the state's own bounds.
-/
import Derived.Test.YtnoabdafmgmenaaGreatDoorMInfP
import Derived.Test.YtnoabdafmgmenaaGreatDoorMMem
import Derived.Deep.MidRow
import Derived.Deep.RegionLaw
namespace Go.Proofs.YtnoabdafmgmenaaGreatDoor
open Go.RowKit
set_option linter.unusedVariables false
set_option linter.unusedSimpArgs false

/-- What the program's three tables hold. -/
structure Vars (w : World) : Prop where
  lenB : ∀ i, i < 29 → w.cell? ⟨0, i * 2, none⟩ = some (.int .i64 ((lenB[i]?.getD 0 : Nat) : Int))
  lenX : ∀ i, i < 29 → w.cell? ⟨0, i * 2 + 1, none⟩ = some (.int .i64 ((lenX[i]?.getD 0 : Nat) : Int))
  dstB : ∀ i, i < 30 → w.cell? ⟨1, i * 2, none⟩ = some (.int .i64 ((dstB[i]?.getD 0 : Nat) : Int))
  dstX : ∀ i, i < 30 → w.cell? ⟨1, i * 2 + 1, none⟩ = some (.int .i64 ((dstX[i]?.getD 0 : Nat) : Int))
  ordL : ∀ i, i < 19 → w.cell? ⟨2, i, none⟩ = some (.int .i64 ((ordL[i]?.getD 0 : Nat) : Int))
  size : 3 ≤ w.heap.size
theorem Vars.later {w w' : World} (h : Vars w) {B : Nat} (hB : 3 ≤ B) (hb : Below B w w') : Vars w' := by
  refine ⟨fun i hi => ?_, fun i hi => ?_, fun i hi => ?_, fun i hi => ?_, fun i hi => ?_, Nat.le_trans h.size hb.size⟩
  · rw [hb.cell (by simp; omega)]; exact h.lenB i hi
  · rw [hb.cell (by simp; omega)]; exact h.lenX i hi
  · rw [hb.cell (by simp; omega)]; exact h.dstB i hi
  · rw [hb.cell (by simp; omega)]; exact h.dstX i hi
  · rw [hb.cell (by simp; omega)]; exact h.ordL i hi

/-- The bytes that are read, and the limit. -/
structure Env where
  bo : Option Addr
  bn : Nat
  bc : Nat
  bs : List Int
  m : Int

/-- The state is within its bounds. -/
structure Fit (E : Env) (s : PS) : Prop where
  p : s.p ≤ 8 * E.bn
  o : s.o.length ≤ 1000000
  e0 : 0 ≤ s.e
  e1 : s.e ≤ 100
  bn : E.bn ≤ 1000000
  m0 : 0 ≤ E.m
  m1 : E.m ≤ 1000000
  bc : E.bn ≤ E.bc
  bx : E.bc ≤ 9223372036854775807
  bl : E.bs.length = E.bn

def sv (E : Env) (p : Nat) (e : Int) (oo : Option Addr) (on oc : Nat) (ov : Bool) : Array Value :=
  #[.slice E.bo E.bn E.bc, .int .i64 (p : Int), .int .i64 e, .int .i64 E.m, .slice oo on oc, .bool ov]

/-- Block g is the stream in the state s; what it told lies at oo, with room for oc. -/
structure St (E : Env) (g : Nat) (w : World) (oo : Option Addr) (oc : Nat) (s : PS) (ov : Bool) : Prop where
  st : w.heap[g]? = some (.cells (sv E s.p s.e oo s.o.length oc ov) 95 (0, 0))
  out : Mine (g + 1) w oo s.o.length oc s.o
  b : ∀ w', Below g w w' → Bs w' E.bo E.bn E.bc E.bs
  v : Vars w
  g3 : 3 ≤ g
  fit : Fit E s

section
variable {E : Env} {g : Nat} {w : World} {oo : Option Addr} {oc : Nat} {s : PS} {ov : Bool}

theorem St.lt (h : St E g w oo oc s ov) : g < w.heap.size := (Array.getElem?_eq_some_iff.1 h.st).1
theorem St.free (h : St E g w oo oc s ov) (i : Nat) : w.frozen? ⟨g, i, none⟩ = false := frozen_of_row w g i _ _ h.st
theorem St.c0 (h : St E g w oo oc s ov) : w.cell? ⟨g, 0, none⟩ = some (.slice E.bo E.bn E.bc) := by rw [cell_of_row w g 0 _ _ _ h.st]; rfl
theorem St.c1 (h : St E g w oo oc s ov) : w.cell? ⟨g, 1, none⟩ = some (.int .i64 (s.p : Int)) := by rw [cell_of_row w g 1 _ _ _ h.st]; rfl
theorem St.c2 (h : St E g w oo oc s ov) : w.cell? ⟨g, 2, none⟩ = some (.int .i64 s.e) := by rw [cell_of_row w g 2 _ _ _ h.st]; rfl
theorem St.c3 (h : St E g w oo oc s ov) : w.cell? ⟨g, 3, none⟩ = some (.int .i64 E.m) := by rw [cell_of_row w g 3 _ _ _ h.st]; rfl
theorem St.c4 (h : St E g w oo oc s ov) : w.cell? ⟨g, 4, none⟩ = some (.slice oo s.o.length oc) := by rw [cell_of_row w g 4 _ _ _ h.st]; rfl
theorem St.c5 (h : St E g w oo oc s ov) : w.cell? ⟨g, 5, none⟩ = some (.bool ov) := by rw [cell_of_row w g 5 _ _ _ h.st]; rfl
theorem St.bs (h : St E g w oo oc s ov) : Bs w E.bo E.bn E.bc E.bs := h.b w (Below.refl _ _)
/-- Nothing that it holds has changed. -/
theorem St.under (h : St E g w oo oc s ov) {B : Nat} (hg : g < B) (ho : ∀ k, ob oo k → k < B) {w' : World} (hb : Below B w w') : St E g w' oo oc s ov := by
  have hb' : Below g w w' := hb.mono (by omega)
  refine ⟨by rw [hb.block g hg]; exact h.st, ?_, fun w1 f => h.b w1 (hb'.trans f), h.v.later h.g3 hb', h.g3, h.fit⟩
  refine ⟨h.out.len, ⟨h.out.own.1, ?_⟩, h.out.byt⟩
  rcases h.out.own.2 with hv | ⟨q, cap, cur, hv, hq, hh, r⟩
  · exact .inl hv
  · simp only [Value.slice.injEq] at hv
    obtain ⟨rfl, _, rfl⟩ := hv
    exact .inr ⟨q, _, cur, rfl, hq, by rw [hb.block q (ho q ⟨_, rfl, rfl⟩)]; exact hh, r⟩
theorem St.later (h : St E g w oo oc s ov) {w' : World} (hb : Below w.heap.size w w') : St E g w' oo oc s ov :=
  h.under h.lt (fun k hk => (h.out.ob hk).2) hb
theorem St.same (h : St E g w oo oc s ov) {w' : World} (hh : w'.heap = w.heap) (ho : w'.os = w.os) (ht : w'.tape = w.tape) (hu : w'.output = w.output) : St E g w' oo oc s ov :=
  h.later ⟨ho, ht, hu, by rw [hh]; exact Nat.le_refl _, fun k _ => by rw [hh]⟩
theorem St.drew (h : St E g w oo oc s ov) : St E g w.drew oo oc s ov := h.same rfl rfl rfl rfl
theorem St.drewN (h : St E g w oo oc s ov) (n : Nat) : St E g (w.drewN n) oo oc s ov := h.same rfl rfl rfl rfl
/-- A cell of the struct is set. -/
theorem St.put (h : St E g w oo oc s ov) (i : Nat) (u : Value) (s' : PS) (ov' : Bool) (ho : s'.o = s.o) (hv : (sv E s.p s.e oo s.o.length oc ov).setIfInBounds i u = sv E s'.p s'.e oo s.o.length oc ov') (hf : Fit E s') : St E g (w.setCell ⟨g, i, none⟩ u) oo oc s' ov' := by
  have hb : Below g w (w.setCell ⟨g, i, none⟩ u) := (Below.refl g w).setCell (by simp) u
  refine ⟨?_, ?_, fun w1 f => h.b w1 (hb.trans f), h.v.later h.g3 hb, h.g3, hf⟩
  · rw [heap_setCell_same w g i _ _ _ h.st, ho, hv]
  · rw [ho]
    exact h.out.keep fun k hk _ => heap_setCell_other w ⟨g, i, none⟩ k u (by simp; omega)
theorem St.putP (h : St E g w oo oc s ov) (p : Nat) (P : Int) (hP : P = (p : Int)) (hp : p ≤ 8 * E.bn) : St E g (w.setCell ⟨g, 1, none⟩ (.int .i64 P)) oo oc { s with p := p } ov := by
  subst hP
  exact h.put 1 _ { s with p := p } ov rfl rfl ⟨hp, h.fit.o, h.fit.e0, h.fit.e1, h.fit.bn, h.fit.m0, h.fit.m1, h.fit.bc, h.fit.bx, h.fit.bl⟩
theorem St.putE (h : St E g w oo oc s ov) (z : Int) (h0 : 0 ≤ z) (h1 : z ≤ 100) : St E g (w.setCell ⟨g, 2, none⟩ (.int .i64 z)) oo oc { s with e := z } ov :=
  h.put 2 _ { s with e := z } ov rfl rfl ⟨h.fit.p, h.fit.o, h0, h1, h.fit.bn, h.fit.m0, h.fit.m1, h.fit.bc, h.fit.bx, h.fit.bl⟩
theorem St.putO (h : St E g w oo oc s ov) (v : Bool) : St E g (w.setCell ⟨g, 5, none⟩ (.bool v)) oo oc s v :=
  h.put 5 _ s v rfl rfl h.fit
theorem St.vars (h : St E g w oo oc s ov) : Vars w := h.v
theorem St.below (h : St E g w oo oc s ov) {oo' : Option Addr} {w' : World} (f : Fr g oo w oo' w') : Below g w w' :=
  ⟨f.os, f.tape, f.output, f.size, fun k hk => f.block k (by have := h.lt; omega) (by omega) (fun ho => by have := (h.out.ob ho).1; omega)⟩
end

/-- The stream is in the state s behind a call that may have told something. -/
def Out (E : Env) (g : Nat) (w : World) (oo : Option Addr) (s : PS) (ov : Bool) (w' : World) : Prop := ∃ oo' oc', St E g w' oo' oc' s ov ∧ Fr g oo w oo' w'

end Go.Proofs.YtnoabdafmgmenaaGreatDoor

namespace Go.Proofs.YtnoabdafmgmenaaGreatDoor
open Go
set_option linter.unusedVariables false

theorem or_i64 (a b : Int) (k : Nat) (hk : k < 20) (a0 : 0 ≤ a) (a1 : a < 2 ^ k) (b0 : 0 ≤ b) (b1 : b ≤ 1) : bits .or .i64 a (b * 2 ^ k) = a + b * 2 ^ k := by
  have hp : (2 : Int) ^ k ≤ 1048576 := by
    have := Nat.pow_le_pow_right (show 0 < 2 by omega) (show k ≤ 20 by omega)
    have h2 : (2 : Int) ^ k ≤ 2 ^ 20 := by exact_mod_cast this
    omega
  have hb : b = 0 ∨ b = 1 := by omega
  have hm : 0 ≤ b * 2 ^ k ∧ b * 2 ^ k ≤ 1048576 := by rcases hb with h | h <;> subst h <;> omega
  obtain ⟨A, rfl⟩ := Int.eq_ofNat_of_zero_le a0
  obtain ⟨B, rfl⟩ := Int.eq_ofNat_of_zero_le b0
  have e : (B : Int) * 2 ^ k = ((B * 2 ^ k : Nat) : Int) := by rw [Int.natCast_mul, Int.natCast_pow]; rfl
  have hA : A < 2 ^ k := by exact_mod_cast a1
  have hA2 : A < 1048576 := by have : ((2 ^ k : Nat) : Int) ≤ 1048576 := by rw [Int.natCast_pow]; exact hp
                               omega
  rw [e] at hm ⊢
  show IntKind.i64.wrap ((BitVec.ofInt 64 (A : Int) ||| BitVec.ofInt 64 ((B * 2 ^ k : Nat) : Int)).toNat : Int) = _
  rw [BitVec.ofInt_natCast, BitVec.ofInt_natCast, BitVec.toNat_or, BitVec.toNat_ofNat, BitVec.toNat_ofNat, Nat.mod_eq_of_lt (show A < 2 ^ 64 by omega), Nat.mod_eq_of_lt (show B * 2 ^ k < 2 ^ 64 by omega), Nat.or_comm, nat_join k (B * 2 ^ k) A (by simp) hA, IntKind.wrap_i64]
  omega

theorem xor16 (c : Int) (h0 : 0 ≤ c) (h1 : c < 65536) : bits .xor .i64 c 65535 = 65535 - c := by
  obtain ⟨C, rfl⟩ := Int.eq_ofNat_of_zero_le h0
  have hC : C < 2 ^ 16 := by omega
  have key : C ^^^ 65535 = 65535 - C := by
    have h : (BitVec.ofNat 16 C ^^^ BitVec.allOnes 16).toNat = (~~~ BitVec.ofNat 16 C).toNat := by rw [BitVec.xor_allOnes]
    rw [BitVec.toNat_xor, BitVec.toNat_not, BitVec.toNat_ofNat, BitVec.toNat_allOnes, Nat.mod_eq_of_lt hC] at h
    omega
  show IntKind.i64.wrap ((BitVec.ofInt 64 (C : Int) ^^^ BitVec.ofInt 64 65535).toNat : Int) = _
  rw [BitVec.ofInt_natCast, BitVec.toNat_xor, BitVec.toNat_ofNat, Nat.mod_eq_of_lt (show C < 2 ^ 64 by omega), show (BitVec.ofInt 64 65535).toNat = 65535 by decide, key, IntKind.wrap_i64]
  omega

end Go.Proofs.YtnoabdafmgmenaaGreatDoor

namespace Go.Proofs.YtnoabdafmgmenaaGreatDoor
open Go.RowKit
set_option linter.unusedVariables false
set_option linter.unusedSimpArgs false

section
variable {E : Env} {g : Nat} {oo : Option Addr} {oc : Nat} {s : PS} {ov : Bool}

set_option maxHeartbeats 1000000 in
theorem stop_any (w : World) (z : Int) (h0 : 0 ≤ z) (h1 : z ≤ 100) (h : St E g w oo oc s ov) :
    Calls Tryz.prog 67 #[.pointer (some ⟨g, 0, none⟩), .int .i64 z] w fun e w' => e = .returned (.tuple #[]) ∧ St E g w' oo oc (stopS z s) ov ∧ Gb g w w' := by
  have c2 := h.c2
  have f2 := h.free 2
  have H := hide h
  clear h
  by_cases he : s.e = 0
  · have hs := hide (stopS_live (z := z) he)
    have he' : (s.e == 0) = true := by simpa using he
    go_enter Tryz.func67, Tryz.ntmps67
    go_wp2_with fail
    go_end0
    exact ⟨rfl, by rw [unhide hs]; exact (unhide H).putE z h0 h1, (Gb.refl _ _).set _ _⟩
  · have hs := hide (stopS_dead (z := z) he)
    have he' : (s.e == 0) = false := by simpa using he
    go_enter Tryz.func67, Tryz.ntmps67
    go_wp2_with fail
    go_end0
    exact ⟨rfl, by rw [unhide hs]; exact unhide H, Gb.refl _ _⟩

set_option maxHeartbeats 1000000 in
theorem toByte_any (w : World) (h : St E g w oo oc s ov) :
    Calls Tryz.prog 96 #[.pointer (some ⟨g, 0, none⟩)] w fun e w' => e = .returned (.tuple #[]) ∧ St E g w' oo oc (tobS s) ov ∧ Gb g w w' := by
  have c2 := h.c2
  have c1 := h.c1
  have f1 := h.free 1
  have hp := h.fit.p
  have hb := h.fit.bn
  have H := hide h
  clear h
  by_cases he : s.e = 0
  · have hs := hide (show tobS s = { s with p := (s.p + 7) / 8 * 8 } from if_pos he)
    have he' : (s.e == 0) = true := by simpa using he
    go_enter Tryz.func96, Tryz.ntmps96
    go_wp2_with fail
    go_end0
    refine ⟨rfl, by rw [unhide hs]; exact (unhide H).putP ((s.p + 7) / 8 * 8) _ (by omega) (by omega), (Gb.refl _ _).set _ _⟩
  · have hs := hide (show tobS s = s from if_neg he)
    have he' : (s.e == 0) = false := by simpa using he
    go_enter Tryz.func96, Tryz.ntmps96
    go_wp2_with fail
    go_end0
    exact ⟨rfl, by rw [unhide hs]; exact unhide H, Gb.refl _ _⟩

set_option maxHeartbeats 1000000 in
theorem bit_any (w : World) (h : St E g w oo oc s ov) :
    Calls Tryz.prog 95 #[.pointer (some ⟨g, 0, none⟩)] w fun e w' => e = .returned (.int .i64 (bitS E.bs s).1) ∧ St E g w' oo oc (bitS E.bs s).2 ov ∧ Gb g w w' := by
  have c0 := h.c0
  have c1 := h.c1
  have c2 := h.c2
  have f1 := h.free 1
  have hp := h.fit.p
  have hb := h.fit.bn
  have bc := h.fit.bc
  have bx := h.fit.bx
  have H := hide h
  by_cases hs : s.p / 8 < E.bn
  · have hs' : (s.p : Int) / 8 < (E.bn : Int) := by omega
    obtain ⟨bb, o, hix, hcx⟩ := h.bs.idx hs ((s.p : Int) / 8) (by omega)
    have hby := h.bs.byt.at (s.p / 8)
    clear h
    obtain ⟨v, hv⟩ : ∃ v, v = E.bs[s.p / 8]?.getD 0 := ⟨_, rfl⟩
    rw [← hv] at hcx hby
    have hy := shr_bd v (s.p % 8) hby.1 hby.2
    have ha := and1_i64 (v / 2 ^ (s.p % 8))
    by_cases he : s.e = 0
    · have he' : (s.e != 0) = false := by simpa using he
      have hr := hide (bitS_live (b := E.bs) he (by rw [(unhide H).fit.bl]; exact hs))
      have hbit := hide (show bitAt E.bs s.p = v / 2 ^ (s.p % 8) % 2 by unfold bitAt; rw [hv])
      clear hv hs
      go_enter Tryz.func95, Tryz.ntmps95
      go_wp2_with fail
      go_quiet (fail)
      go_wp2_with fail
      go_quiet (fail)
      go_wp2_with fail
      go_ret
      rw [unhide hr]
      refine ⟨?_, ?_, ?_⟩
      · rw [unhide hbit]; rfl
      · exact ((unhide H).drewN _).putP (s.p + 1) _ (by omega) (by omega)
      · exact ((Gb.refl _ _).drewN _).set _ _
    · have he' : (s.e != 0) = true := by simpa using he
      have hr := hide (bitS_dead (b := E.bs) he)
      clear hv hs
      go_enter Tryz.func95, Tryz.ntmps95
      go_wp2_with fail
      go_quiet (fail)
      go_wp2_with fail
      go_ret
      rw [unhide hr]
      exact ⟨rfl, (unhide H).drewN _, (Gb.refl _ _).drewN _⟩
  · have hs' : ¬ (s.p : Int) / 8 < (E.bn : Int) := by omega
    have hs'' : (E.bn : Int) ≤ (s.p : Int) / 8 := by omega
    clear h
    have hr := hide (show bitS E.bs s = (0, stopS 4 s) by
      by_cases he : s.e = 0
      · rw [bitS_short he (by rw [(unhide H).fit.bl]; exact hs), stopS_live he]
      · rw [bitS_dead he, stopS_dead he])
    have hne := stopS_e 4 s (by omega)
    have hne' : ((stopS 4 s).e != 0) = true := by simpa using hne
    clear hs hne
    go_enter Tryz.func95, Tryz.ntmps95
    go_wp2_with fail
    go_quiet (fail)
    go_wp2_with fail
    refine (stop_any _ 4 (by omega) (by omega) ((unhide H).drewN _)).mono ?_
    rintro e w1 ⟨rfl, s1, g1⟩
    have c2' := s1.c2
    have S1 := hide s1
    clear s1
    go_wp2_with fail
    go_ret
    rw [unhide hr]
    exact ⟨rfl, unhide S1, ((Gb.refl _ _).drewN _).trans g1⟩

theorem two20 {i : Nat} (h : i ≤ 19) : (1 : Int) ≤ 2 ^ i ∧ (2 : Int) ^ i ≤ 1048576 := by
  have := Nat.pow_le_pow_right (show 0 < 2 by omega) (show i ≤ 20 by omega)
  have h2 : (2 : Int) ^ i ≤ 2 ^ 20 := by exact_mod_cast this
  exact ⟨Int.pow_pos (by omega), by omega⟩

set_option maxHeartbeats 1000000 in
theorem field_any (w : World) (n : Nat) (hn : n ≤ 19) (N : Int) (hN : N = (n : Int)) (h : St E g w oo oc s ov) :
    Calls Tryz.prog 68 #[.pointer (some ⟨g, 0, none⟩), .int .i64 N] w fun e w' => e = .returned (.int .i64 (fldN E.bs n s).1) ∧ St E g w' oo oc (fldN E.bs n s).2 ov ∧ Gb g w w' := by
  have H := hide h
  clear h
  subst hN
  go_enter Tryz.func68, Tryz.ntmps68
  go_wp2_with fail
  go_loopw [5, 8] (fun x i wr => ∃ k : Nat, k ≤ n ∧ i = .int .i64 (k : Int) ∧ x = .int .i64 (fldN E.bs k s).1 ∧ St E g wr oo oc (fldN E.bs k s).2 ov ∧ Gb g w wr) (fun _ i _ => n - (intOf i).toNat)
  case atStart => exact ⟨0, by omega, rfl, rfl, unhide H, Gb.refl _ _⟩
  case round =>
    obtain ⟨k, hk, rfl, rfl, st, gb⟩ := hrel
    have bd := fldN_bd E.bs k s
    have hst := hide st
    clear st
    by_cases hlt : k < n
    · have nx := hide (show fldN E.bs (k + 1) s = ((fldN E.bs k s).1 + (bitS E.bs (fldN E.bs k s).2).1 * 2 ^ k, (bitS E.bs (fldN E.bs k s).2).2) from rfl)
      have bb := bitS_bd E.bs (fldN E.bs k s).2
      have bc := hide (bit_any wr (unhide hst))
      have pk := two20 (show k ≤ 19 by omega)
      have hor := or_i64 (fldN E.bs k s).1 (bitS E.bs (fldN E.bs k s).2).1 k (by omega) bd.1 bd.2 bb.1 bb.2
      have hm : 0 ≤ (bitS E.bs (fldN E.bs k s).2).1 * 2 ^ k ∧ (bitS E.bs (fldN E.bs k s).2).1 * 2 ^ k ≤ 1048576 := by
        have hb : (bitS E.bs (fldN E.bs k s).2).1 = 0 ∨ (bitS E.bs (fldN E.bs k s).2).1 = 1 := by omega
        rcases hb with h | h <;> rw [h] <;> omega
      generalize (bitS E.bs (fldN E.bs k s).2).1 = V at *
      generalize (fldN E.bs k s).1 = X at *
      go_wp2_with fail
      refine (unhide bc).mono ?_
      rintro e w1 ⟨rfl, s1, g1⟩
      have S1 := hide s1
      clear s1
      go_wp2_with fail
      go_roundw
      case rel =>
        refine ⟨k + 1, by omega, by go_num, by rw [unhide nx], by rw [unhide nx]; exact unhide S1, gb.trans g1⟩
      case measure => simp [intOf]; omega
    · have hkn := hide (show k = n by omega)
      go_wp2_with fail
      go_ret
      rw [← unhide hkn]
      exact ⟨rfl, unhide hst, gb⟩
end
end Go.Proofs.YtnoabdafmgmenaaGreatDoor

namespace Go.Proofs.YtnoabdafmgmenaaGreatDoor
open Go.RowKit
set_option linter.unusedVariables false
set_option linter.unusedSimpArgs false


section
variable {E : Env} {g : Nat} {w0 : World} {oo : Option Addr} {oc : Nat} {s : PS} {ov : Bool}

set_option maxHeartbeats 1000000 in
theorem symbol_any (w : World) (ao : Option Addr) (n c : Nat) (L : List Int) (hL : Is w ao n c L) (h : St E g w oo oc s ov) :
    Calls Tryz.prog 98 #[.pointer (some ⟨g, 0, none⟩), .slice ao n c] w fun e w' => e = .returned (.int .i64 (symS L E.bs s).1) ∧ St E g w' oo oc (symS L E.bs s).2 ov ∧ Gb g w w' := by
  have c0 := h.c0
  have c1 := h.c1
  have c2 := h.c2
  have hp := h.fit.p
  have hb := h.fit.bn
  have H := hide h
  have HL := hide hL
  clear h hL
  by_cases he : s.e = 0
  · have he' : (s.e != 0) = false := by simpa using he
    have hr := hide (symS_live (L := L) (b := E.bs) he)
    have hf := rdq_fit L E.bs s.p (by rw [(unhide H).fit.bl]; exact hp)
    rw [(unhide H).fit.bl] at hf
    have rc := hide (fun w1 (hb1 : Below w.heap.size w w1) => readq_any ao n c L E.bo E.bn E.bc E.bs s.p w1 ((unhide HL).later hb1) ((unhide H).later hb1).bs hb (by omega))
    generalize rdq L E.bs s.p = R at *
    obtain ⟨r1, r2, r3⟩ := R
    simp only at hf rc
    go_enter Tryz.func98, Tryz.ntmps98
    go_wp2_with fail
    go_region_with (go_at_call 118; refine ((unhide rc) _ (below_drew w)).mono ?_; rintro e w2 ⟨rfl, b2⟩)
    all_goals have h2 := ((unhide H).later (below_drew w)).later b2
    all_goals have d1 := h2.c1
    all_goals have d2 := h2.c2
    all_goals have e1 := h2.free 1
    all_goals have e2 := h2.free 2
    all_goals have H2 := hide h2
    all_goals clear h2
    all_goals go_wp2_with fail
    all_goals go_ret
    all_goals rw [unhide hr]
    all_goals exact ⟨rfl, ((unhide H2).putP (s.p + r2.toNat) _ (by omega) (by omega)).putE r3 (by omega) (by omega), (((Gb.of (below_drew w)).trans (Gb.of b2)).set _ _).set _ _⟩
  · have he' : (s.e != 0) = true := by simpa using he
    have hr := hide (symS_dead (L := L) (b := E.bs) he)
    go_enter Tryz.func98, Tryz.ntmps98
    go_wp2_with fail
    go_ret
    rw [unhide hr]
    exact ⟨rfl, unhide H, Gb.refl _ _⟩

set_option maxHeartbeats 1000000 in
theorem within_any (w : World) (base bits : Nat) (hb : base ≤ 100000) (hn : bits ≤ 19) (h : St E g w oo oc s ov) :
    Calls Tryz.prog 99 #[.pointer (some ⟨g, 0, none⟩), .agg #[.int .i64 (base : Int), .int .i64 (bits : Int)]] w fun e w' => e = .returned (.int .i64 (wthS E.bs base bits s).1) ∧ St E g w' oo oc (wthS E.bs base bits s).2 ov ∧ Gb g w w' := by
  have hg := h.lt
  have h1 := (h.later (below_alloc w (.cells #[.int .i64 (base : Int), .int .i64 (bits : Int)] 147))).drew
  have fc := hide (field_any _ bits hn (bits : Int) rfl h1)
  have bd : 0 ≤ (fldN E.bs bits s).1 ∧ (fldN E.bs bits s).1 ≤ 1048576 := by
    have := fldN_bd E.bs bits s
    have := two20 hn
    omega
  have hr := hide (show wthS E.bs base bits s = ((base : Int) + (fldN E.bs bits s).1, (fldN E.bs bits s).2) from rfl)
  have k0 := cell_top w #[.int .i64 (base : Int), .int .i64 (bits : Int)] 147 0 w.heap.size rfl
  have k1 := cell_top w #[.int .i64 (base : Int), .int .i64 (bits : Int)] 147 1 w.heap.size rfl
  clear h h1
  generalize (fldN E.bs bits s).1 = X at *
  go_enter Tryz.func99, Tryz.ntmps99
  go_wp2_with fail
  go_region_with (go_at_call 68; refine (unhide fc).mono ?_; rintro e w2 ⟨rfl, s2, g2⟩; have k0' : w2.cell? ⟨w.heap.size, 0, none⟩ = some (.int .i64 (base : Int)) := (g2.cell (by simp) (by simp; omega)).trans k0)
  all_goals have S2 := hide s2
  all_goals clear s2
  all_goals go_wp2_with fail
  all_goals go_ret
  all_goals rw [unhide hr]
  all_goals have hw : IntKind.i64.wrap ((base : Int) + X) = (base : Int) + X := by rw [IntKind.wrap_i64]; omega
  all_goals exact ⟨congrArg (fun z => Ending.returned (Value.int .i64 z)) hw, unhide S2, ((Gb.of (below_alloc w _)).drew).trans g2⟩

end
end Go.Proofs.YtnoabdafmgmenaaGreatDoor

namespace Go.Proofs.YtnoabdafmgmenaaGreatDoor
open Go.RowKit
set_option linter.unusedVariables false
set_option linter.unusedSimpArgs false

section
variable {E : Env} {g : Nat} {w0 : World} {oo : Option Addr} {oc : Nat} {s : PS} {ov : Bool}

set_option maxHeartbeats 1000000 in
theorem room_st (w : World) (h : St E g w oo oc s ov) :
    Calls Tryz.prog 117 #[.pointer (some ⟨g, 0, none⟩)] w fun e w' => e = .returned (.bool (decide ((romS E.m s).e = 0))) ∧ St E g w' oo oc (romS E.m s) ov ∧ Gb g w w' := by
  have c2 := h.c2
  have c3 := h.c3
  have c4 := h.c4
  have ho := h.fit.o
  have m0 := h.fit.m0
  have m1 := h.fit.m1
  have H := hide h
  clear h
  by_cases hm : (s.o.length : Int) < E.m
  · have hr := hide (show romS E.m s = s from if_pos hm)
    have hd := hide (show decide (s.e = 0) = (s.e == 0) from rfl)
    go_enter Tryz.func117, Tryz.ntmps117
    go_wp2_with fail
    go_quiet (fail)
    go_wp2_with fail
    go_ret
    rw [unhide hr]
    exact ⟨by rw [unhide hd]; rfl, (unhide H).drewN _, (Gb.refl _ _).drewN _⟩
  · have hr := hide (show romS E.m s = stopS 3 s from if_neg hm)
    have hm' : E.m ≤ (s.o.length : Int) := by omega
    have hd := hide (show decide ((stopS 3 s).e = 0) = ((stopS 3 s).e == 0) from rfl)
    go_enter Tryz.func117, Tryz.ntmps117
    go_wp2_with fail
    go_quiet (fail)
    go_wp2_with fail
    refine (stop_any _ 3 (by omega) (by omega) ((unhide H).drewN _)).mono ?_
    rintro e w1 ⟨rfl, s1, g1⟩
    have d2 := s1.c2
    have S1 := hide s1
    clear s1
    go_wp2_with fail
    go_ret
    rw [unhide hr]
    exact ⟨by rw [unhide hd]; rfl, unhide S1, ((Gb.refl _ _).drewN _).trans g1⟩

theorem St.told (h : St E g w0 oo oc s ov) (he : s.e = 0) (hm : (s.o.length : Int) < E.m) {c : Int} {oo1 : Option Addr} {c1 : Nat} {w1 : World} (hM : Mine (g + 1) w1 oo1 (s.o.length + 1) c1 (s.o ++ [c])) (f : Fr g oo w0 oo1 w1) (hg : w1.heap[g]? = w0.heap[g]?) :
    St E g (w1.setCell ⟨g, 4, none⟩ (.slice oo1 (s.o.length + 1) c1)) oo1 c1 { s with o := s.o ++ [c] } ov ∧ Fr g oo w0 oo1 (w1.setCell ⟨g, 4, none⟩ (.slice oo1 (s.o.length + 1) c1)) := by
  have hb : Below g w0 w1 := h.below f
  have hb2 : Below g w1 (w1.setCell ⟨g, 4, none⟩ (.slice oo1 (s.o.length + 1) c1)) := (Below.refl g w1).setCell (by simp) _
  have hst : w1.heap[g]? = some (.cells (sv E s.p s.e oo s.o.length oc ov) 95 (0, 0)) := by rw [hg]; exact h.st
  refine ⟨⟨?_, ?_, fun w2 q => h.b w2 ((hb.trans hb2).trans q), h.v.later h.g3 (hb.trans hb2), h.g3, ?_⟩, f.trans (((Gb.refl g w1).set 4 _).fr oo1)⟩
  · rw [heap_setCell_same w1 g 4 _ _ _ hst]
    simp [sv]
  · have e1 : ({ s with o := s.o ++ [c] } : PS).o.length = s.o.length + 1 := by simp
    rw [e1]
    exact hM.keep fun k hk _ => heap_setCell_other w1 ⟨g, 4, none⟩ k _ (by simp; omega)
  · have hf := h.fit
    refine ⟨hf.p, ?_, hf.e0, hf.e1, hf.bn, hf.m0, hf.m1, hf.bc, hf.bx, hf.bl⟩
    have := hf.m1
    simp
    omega
theorem romS_live {m : Int} {s : PS} (h : (romS m s).e = 0) : romS m s = s ∧ s.e = 0 ∧ (s.o.length : Int) < m := by
  unfold romS at h ⊢
  by_cases hm : (s.o.length : Int) < m
  · rw [if_pos hm] at h ⊢
    exact ⟨rfl, h, hm⟩
  · rw [if_neg hm] at h
    exact absurd h (stopS_e 3 s (by omega))
/-- The struct's block is not the row's. -/
theorem St.grown (h : St E g w0 oo oc s ov) {w1 : World} {n c : Nat} (hgr : w0.grownBy w1 (Value.slice oo n c).ownBlock) : w1.heap[g]? = w0.heap[g]? := by
  refine hgr.block g h.lt fun e => ?_
  cases oo with
  | none => simp [Value.ownBlock] at e
  | some z =>
    have := (h.out.ob ⟨z, rfl, by simpa [Value.ownBlock] using e.symm⟩).1
    omega

set_option maxHeartbeats 1000000 in
theorem tell_any (w : World) (c : Int) (h0 : 0 ≤ c) (h1 : c ≤ 255) (h : St E g w oo oc s ov) :
    Calls Tryz.prog 97 #[.pointer (some ⟨g, 0, none⟩), .int .u8 c] w fun e w' => e = .returned (.tuple #[]) ∧ Out E g w oo (telS E.m c s) ov w' := by
  have rc := hide (room_st w h)
  clear h
  by_cases he : (romS E.m s).e = 0
  · have hd : decide ((romS E.m s).e = 0) = true := by simpa using he
    obtain ⟨hl1, hl2, hl3⟩ := romS_live he
    have hr := hide (telS_live (c := c) hl2 hl3)
    rw [hd, hl1] at rc
    have HL := hide (And.intro hl2 hl3)
    clear hd he hl1 hl2 hl3
    go_enter Tryz.func97, Tryz.ntmps97
    go_wp2_with fail
    refine (unhide rc).mono ?_
    rintro e w1 ⟨rfl, s1, g1⟩
    have ho := s1.fit.o
    have c4 := s1.c4
    have s2 := s1.later (below_alloc w1 (.cells #[.int .u8 c] 5))
    have S1 := hide s1
    have S2 := hide s2
    have hlt := s2.lt
    clear s1 s2
    go_wp2_with (at_builtin; refine wpList_appF rfl (.tmp 10) (.tmp 12) rfl (g + 1) _ _ _ s.o rfl (unhide S2).out _ 1 1 [c] rfl (Bs.one w1 c h0 h1) (by omega) hlt ?_; intro oo1 c1 w3 hM hgr hsrc; have hg3 := (unhide S2).grown hgr; have c4' := (World.cell?_of_block (a := ⟨g, 4, none⟩) hg3).trans (unhide S2).c4; have f4' := (World.frozen?_of_block (a := ⟨g, 4, none⟩) hg3).trans ((unhide S2).free 4))
    go_end0
    refine ⟨rfl, oo1, c1, ?_⟩
    have fr := fr_app hlt hgr hsrc
    obtain ⟨r1, r2⟩ := (unhide S2).told (unhide HL).1 (unhide HL).2 hM fr hg3
    rw [unhide hr]
    exact ⟨r1, ((g1.trans (Gb.of (below_alloc w1 _))).fr oo).trans r2⟩
  · have hd : decide ((romS E.m s).e = 0) = false := by simpa using he
    have hr := hide (show telS E.m c s = romS E.m s from if_neg he)
    rw [hd] at rc
    clear hd he
    go_enter Tryz.func97, Tryz.ntmps97
    go_wp2_with fail
    refine (unhide rc).mono ?_
    rintro e w1 ⟨rfl, s1, g1⟩
    go_wp2_with fail
    go_end0
    rw [unhide hr]
    exact ⟨rfl, oo, oc, s1, g1.fr oo⟩

set_option maxHeartbeats 1000000 in
theorem count_any (w : World) (least most : Int) (h0 : 0 ≤ least) (h1 : least ≤ 1000) (h2 : 0 ≤ most) (h3 : most ≤ 1000) (h : St E g w oo oc s ov) :
    Calls Tryz.prog 103 #[.pointer (some ⟨g, 0, none⟩), .int .i64 least, .int .i64 most] w fun e w' => e = .returned (.int .i64 (cntS E.bs least most s).1) ∧ St E g w' oo oc (cntS E.bs least most s).2 ov ∧ Gb g w w' := by
  have fc := hide (field_any w 5 (by omega) 5 rfl h)
  have bd := fldN_bd E.bs 5 s
  clear h
  by_cases hm : least + (fldN E.bs 5 s).1 ≤ most
  · have hr := hide (show cntS E.bs least most s = (least + (fldN E.bs 5 s).1, (fldN E.bs 5 s).2) by unfold cntS; rw [if_pos hm])
    generalize (fldN E.bs 5 s).1 = X at *
    generalize (fldN E.bs 5 s).2 = t at *
    go_enter Tryz.func103, Tryz.ntmps103
    go_wp2_with fail
    refine (unhide fc).mono ?_
    rintro e w1 ⟨rfl, s1, g1⟩
    go_wp2_with fail
    go_ret
    rw [unhide hr]
    exact ⟨rfl, s1, g1⟩
  · have hr := hide (show cntS E.bs least most s = (least + (fldN E.bs 5 s).1, stopS 5 (fldN E.bs 5 s).2) by unfold cntS; rw [if_neg hm])
    generalize (fldN E.bs 5 s).1 = X at *
    generalize (fldN E.bs 5 s).2 = t at *
    go_enter Tryz.func103, Tryz.ntmps103
    go_wp2_with fail
    refine (unhide fc).mono ?_
    rintro e w1 ⟨rfl, s1, g1⟩
    have sc := hide (stop_any w1 5 (by omega) (by omega) s1)
    go_wp2_with fail
    refine (unhide sc).mono ?_
    rintro e w2 ⟨rfl, s2, g2⟩
    go_wp2_with fail
    go_ret
    rw [unhide hr]
    exact ⟨rfl, s2, g1.trans g2⟩

set_option maxHeartbeats 1000000 in
theorem goesOn_any (w : World) (h : St E g w oo oc s ov) :
    Calls Tryz.prog 54 #[.pointer (some ⟨g, 0, none⟩)] w fun e w' => e = .returned (.bool (decide (ov = false ∧ s.e = 0))) ∧ w' = w := by
  have c2 := h.c2
  have c5 := h.c5
  clear h
  cases ov with
  | true =>
    go_enter Tryz.func54, Tryz.ntmps54
    go_wp2_with fail
    go_ret
    exact ⟨by simp, rfl⟩
  | false =>
    by_cases he : s.e = 0
    · have he' : (s.e == 0) = true := by simpa using he
      go_enter Tryz.func54, Tryz.ntmps54
      go_wp2_with fail
      go_ret
      exact ⟨by simp [he], rfl⟩
    · have he' : (s.e == 0) = false := by simpa using he
      go_enter Tryz.func54, Tryz.ntmps54
      go_wp2_with fail
      go_ret
      exact ⟨by simp [he], rfl⟩
end
end Go.Proofs.YtnoabdafmgmenaaGreatDoor

namespace Go.Proofs.YtnoabdafmgmenaaGreatDoor
open Go.RowKit
set_option linter.unusedVariables false
set_option linter.unusedSimpArgs false

theorem dst_bd : ∀ i, i < 30 → 1 ≤ dstB[i]?.getD 0 ∧ dstB[i]?.getD 0 ≤ 24577 ∧ dstX[i]?.getD 0 ≤ 13 := by decide
theorem len_bd : ∀ i, i < 29 → lenB[i]?.getD 0 ≤ 258 ∧ lenX[i]?.getD 0 ≤ 5 := by decide

section
variable {E : Env} {g : Nat} {w0 : World} {oo : Option Addr} {oc : Nat} {s : PS} {ov : Bool}

set_option maxHeartbeats 1000000 in
set_option maxRecDepth 20000 in
theorem distance_any (w : World) (ao : Option Addr) (n c : Nat) (D : List Int) (hL : Is w ao n c D) (h : St E g w oo oc s ov) :
    Calls Tryz.prog 101 #[.pointer (some ⟨g, 0, none⟩), .slice ao n c] w fun e w' => e = .returned (.int .i64 (dstS D E.bs s).1) ∧ St E g w' oo oc (dstS D E.bs s).2 ov ∧ Gb g w w' := by
  have sc := hide (symbol_any w ao n c D hL h)
  have bd := symS_bd D E.bs s
  have b2 := symS_320 D E.bs s
  have hr := hide (show dstS D E.bs s = dsyS E.bs (symS D E.bs s).1 (symS D E.bs s).2 from rfl)
  clear h hL
  generalize (symS D E.bs s).1 = X at *
  generalize (symS D E.bs s).2 = t at *
  obtain ⟨i, rfl⟩ : ∃ i : Nat, X = (i : Int) := ⟨X.toNat, by omega⟩
  by_cases h30 : i < 30
  · have hr2 := hide (show dsyS E.bs (i : Int) t = wthS E.bs (dstB[i]?.getD 0) (dstX[i]?.getD 0) t by unfold dsyS; rw [if_pos (by omega)]; simp)
    have db := dst_bd i h30
    obtain ⟨B, hB⟩ : ∃ B, B = dstB[i]?.getD 0 := ⟨_, rfl⟩
    obtain ⟨K, hK⟩ : ∃ K, K = dstX[i]?.getD 0 := ⟨_, rfl⟩
    rw [← hB, ← hK] at hr2 db
    have HB := hide hB
    have HK := hide hK
    clear hB hK
    have i1 : 0 ≤ (i : Int) ∧ (i : Int) < 30 := by omega
    go_enter Tryz.func101, Tryz.ntmps101
    go_wp2_with fail
    refine (unhide sc).mono ?_
    rintro e w1 ⟨rfl, s1, g1⟩
    have v1 := s1.vars.dstB i h30
    have v2 := s1.vars.dstX i h30
    rw [← unhide HB] at v1
    rw [← unhide HK] at v2
    have rl : ∀ wx : World, wx.heap = w1.heap → (Instr.loadAt 147 (.pointer (some ⟨1, i * 2, none⟩))).run Tryz.prog wx = .ok (.agg #[.int .i64 (B : Int), .int .i64 (K : Int)]) wx := by
      intro wx hx
      refine run_loadAt_mid wx 1 (i * 2) 147 [.int .i64 (B : Int), .int .i64 (K : Int)] _ ?_ Tryz.underlying147 rfl (by kernel_rfl)
      intro j u hj
      have e : ∀ a : Addr, wx.cell? a = w1.cell? a := fun a => by unfold World.cell?; rw [hx]
      match j, hj with
      | 0, hj => rw [e, ← Option.some.inj hj]; exact v1
      | 1, hj => rw [e, ← Option.some.inj hj]; exact v2
    have rl1 := rl w1.drew rfl
    have wc := hide (within_any w1.drew B K (by omega) (by omega) s1.drew)
    clear s1 rl
    go_wp2_with fail
    go_region_with (go_at_call 99; refine (unhide wc).mono ?_; rintro e w2 ⟨rfl, s2, g2⟩)
    all_goals have S2 := hide s2
    all_goals clear s2
    all_goals go_wp2_with fail
    all_goals go_ret
    all_goals rw [unhide hr, unhide hr2]
    all_goals exact ⟨rfl, unhide S2, (g1.drew).trans g2⟩
  · have hr2 := hide (show dsyS E.bs (i : Int) t = (0, stopS 5 t) by unfold dsyS; rw [if_neg (by omega)])
    have i1 : (30 : Int) ≤ (i : Int) := by omega
    go_enter Tryz.func101, Tryz.ntmps101
    go_wp2_with fail
    refine (unhide sc).mono ?_
    rintro e w1 ⟨rfl, s1, g1⟩
    have tc := hide (stop_any w1 5 (by omega) (by omega) s1)
    clear s1
    go_wp2_with fail
    refine (unhide tc).mono ?_
    rintro e w2 ⟨rfl, s2, g2⟩
    go_wp2_with fail
    go_ret
    rw [unhide hr, unhide hr2]
    exact ⟨rfl, s2, g1.trans g2⟩

end
end Go.Proofs.YtnoabdafmgmenaaGreatDoor
