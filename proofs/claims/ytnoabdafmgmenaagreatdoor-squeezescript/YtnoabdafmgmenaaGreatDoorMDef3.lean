/-
  What codeOf, fixedStream and Fixed, of package deflate, answer for any pieces. They write nothing that was there. Conditions: at most two thousand pieces.
  What appendStored and Stored, of package deflate, answer for any bytes. They write nothing that was there. Conditions: at most 65,535 bytes.
  What Deflate, of package deflate, answers for any bytes. It writes nothing that was there. Conditions: at most 2,000 bytes.
-/
import Derived.Test.YtnoabdafmgmenaaGreatDoorMWr
import Derived.Test.YtnoabdafmgmenaaGreatDoorMHuf
import Derived.Test.YtnoabdafmgmenaaGreatDoorMExp
import Derived.Test.YtnoabdafmgmenaaGreatDoorMMem
namespace Go.Proofs.YtnoabdafmgmenaaGreatDoor
open Go.RowKit
set_option linter.unusedVariables false
set_option linter.unusedSimpArgs false

theorem results_code {fn : Func} {p : Tmp} (h : fn.results = #[.cell p 124]) (tmps : Array Value) (w : World) (q : Nat) (v : Array Value) (hv : v.size = 2)
    (hp : tmps.getD p undef = .pointer (some ⟨q, 0, none⟩)) (hq : w.heap[q]? = some (.cells v 124 (0, 0))) : (results fn tmps).run Tryz.prog w = .ok (.agg v) w :=
  results_cell_row h tmps w q _ v (0, 0) _ hp hq Tryz.underlying124 rfl (by rw [hv]; kernel_rfl)

set_option maxHeartbeats 1000000 in
theorem codeOf_any (w : World) (ao : Option Addr) (n c : Nat) (L : List Int) (h : Is w ao n c L) (he : cer L = 0) :
    Calls Tryz.prog 87 #[.slice ao n c] w fun e w' => ∃ a1 n1 c1, e = .returned (.agg #[.slice ao n c, .slice a1 n1 c1]) ∧ Is w' ao n c L ∧ Is w' a1 n1 c1 (cds L) ∧ Below w.heap.size w w' := by
  have bb := below_alloc w (.cells #[.slice none 0 0, .slice none 0 0] 124)
  have cc := hide (codes_any ao n c L _ (h.later bb))
  have hcd : cdd L = cds L := by unfold cdd; rw [he]; rfl
  rw [he, hcd] at cc
  have hst := hide (show (w.alloc (.cells #[.slice none 0 0, .slice none 0 0] 124)).heap[w.heap.size]? = _ from heap_alloc_new w _)
  have BB := hide bb
  have H := hide h
  clear h bb hcd
  go_enter Tryz.func87, Tryz.ntmps87
  go_wp2_with fail
  refine (unhide cc).mono ?_
  rintro e w1 ⟨⟨a1, n1, c1, rfl, i1⟩, b1⟩
  have st1 := (b1.block w.heap.size (by simp)).trans (unhide hst)
  have k0 : w1.cell? ⟨w.heap.size, 0, none⟩ = some (.slice none 0 0) := by rw [cell_of_row w1 w.heap.size 0 _ _ _ st1]; rfl
  have k1 : w1.cell? ⟨w.heap.size, 1, none⟩ = some (.slice none 0 0) := by rw [cell_of_row w1 w.heap.size 1 _ _ _ st1]; rfl
  have f0 : w1.frozen? ⟨w.heap.size, 0, none⟩ = false := frozen_of_row w1 w.heap.size 0 _ _ st1
  have f1 : w1.frozen? ⟨w.heap.size, 1, none⟩ = false := frozen_of_row w1 w.heap.size 1 _ _ st1
  have I1 := hide i1
  have ST := hide st1
  have B1 := hide b1
  clear i1 st1 b1
  go_wp2_with fail
  have h1 := heap_setCell_same w1 w.heap.size 0 _ _ (.slice ao n c) (unhide ST)
  have h2 := heap_setCell_same _ w.heap.size 1 _ _ (.slice a1 n1 c1) h1
  refine bodyPost_ret (results_code rfl _ _ w.heap.size _ rfl rfl h2) rfl ?_
  have bs1 : Below w.heap.size w1 ((w1.setCell ⟨w.heap.size, 0, none⟩ (.slice ao n c)).setCell ⟨w.heap.size, 1, none⟩ (.slice a1 n1 c1)) := ((Below.refl _ w1).setCell (by simp) _).setCell (by simp) _
  have bw : Below w.heap.size w ((w1.setCell ⟨w.heap.size, 0, none⟩ (.slice ao n c)).setCell ⟨w.heap.size, 1, none⟩ (.slice a1 n1 c1)) := ((unhide BB).trans ((unhide B1).mono (by simp))).trans bs1
  refine ⟨a1, n1, c1, rfl, (unhide H).later bw, ?_, bw⟩
  have k := (unhide I1)
  have s1 : (w.alloc (.cells #[.slice none 0 0, .slice none 0 0] 124)).heap.size = w.heap.size + 1 := by simp
  rw [s1] at k
  exact (k.keep' fun j hj _ => by rw [heap_setCell_other _ ⟨w.heap.size, 1, none⟩ j _ (by simp; omega), heap_setCell_other _ ⟨w.heap.size, 0, none⟩ j _ (by simp; omega)]).is

theorem ptxs_snoc {l : List Pc} {k : Nat} {p : Pc} (h : l[k]? = some p) : ptxs (l.take (k + 1)) = ptxs (l.take k) ++ ptx p := by
  unfold ptxs
  rw [List.take_add_one, h]
  simp
theorem ptxs_le {l : List Pc} (hm : ∀ p ∈ l, may p = true) (hb : ∀ p ∈ l, 0 ≤ p.b ∧ p.b ≤ 255) : ∀ k, (ptxs (l.take k)).length ≤ 40 * k
  | 0 => by simp [ptxs]
  | k + 1 => by
    have ih := ptxs_le hm hb k
    cases hk : l[k]? with
    | none =>
      have : l.length ≤ k := List.getElem?_eq_none_iff.1 hk
      rw [List.take_of_length_le (by omega)]
      rw [List.take_of_length_le this] at ih
      omega
    | some p =>
      have hp := List.mem_of_getElem? hk
      have := ptx_le (hm p hp) (hb p hp).1 (hb p hp).2
      rw [ptxs_snoc hk, List.length_append]
      omega
theorem head3_len : head3.length = 3 := rfl
theorem fx_step {l : List Pc} {k : Nat} {p : Pc} (h : l[k]? = some p) : pkF (pkF [] 0 (head3 ++ ptxs (l.take k))) (head3 ++ ptxs (l.take k)).length (ptx p) = pkF [] 0 (head3 ++ ptxs (l.take (k + 1))) ∧ (head3 ++ ptxs (l.take k)).length + (ptx p).length = (head3 ++ ptxs (l.take (k + 1))).length := by
  rw [ptxs_snoc h, ← List.append_assoc]
  refine ⟨?_, by simp; omega⟩
  rw [pkF_app (head3 ++ ptxs (l.take k)) (ptx p) [] 0, Nat.zero_add]
theorem fx_end (l : List Pc) : pkF (pkF [] 0 (head3 ++ ptxs l)) (head3 ++ ptxs l).length (sbits fixL 256) = fxs l := by
  unfold fxs ftx
  rw [← List.append_assoc, pkF_app (head3 ++ ptxs l) (sbits fixL 256) [] 0, Nat.zero_add]

set_option maxHeartbeats 4000000 in
set_option maxRecDepth 20000 in
theorem fixedStream_any (w : World) (ao : Option Addr) (n c : Nat) (l : List Pc) (h : Ps w ao n c l) (hn : n ≤ 2000) (hm : ∀ p ∈ l, may p = true) :
    Calls Tryz.prog 64 #[.slice ao n c] w fun e w' => ∃ bo bn bc, e = .returned (.slice bo bn bc) ∧ Mine w.heap.size w' bo bn bc (fxs l) ∧ Below w.heap.size w w' := by
  have hlen := h.len
  have hle := h.le
  have hmx := h.max
  have H := hide h
  have HM := hide hm
  obtain ⟨R, hR⟩ : ∃ R, R = fxs l := ⟨_, rfl⟩
  rw [← hR]
  have HR := hide hR
  clear h hm hR
  go_enter Tryz.func64, Tryz.ntmps64
  go_wp2_with fail
  refine (fixed_any w).mono ?_
  rintro e w1 ⟨lo, lc, d, dc, B, rfl, hB, il, idd, b1⟩
  have z1 := b1.size
  have c1 := hide (codeOf_any w1 lo 288 lc fixL il.is cer_fixL)
  have ID := hide idd.is
  clear il idd hB
  go_wp2_with fail
  refine (unhide c1).mono ?_
  rintro e w2 ⟨a1, n1, cc1, rfl, i0, i1, b2⟩
  have c2 := hide (codeOf_any w2 d 32 dc fixD ((unhide ID).later b2) cer_fixD)
  have I0 := hide i0
  have I1 := hide i1
  have z2 := b2.size
  clear i0 i1
  go_wp2_with fail
  refine (unhide c2).mono ?_
  rintro e w3 ⟨a3, n3, cc3, rfl, i2, i3, b3⟩
  have z3 := b3.size
  have bw3 : Below w.heap.size w w3 := (b1.trans (b2.mono z1)).trans (b3.mono (by omega))
  have cd3 : Cdw ⟨lo, 288, lc, a1, n1, cc1, d, 32, dc, a3, n3, cc3⟩ w3 := ⟨(unhide I0).later b3, (unhide I1).later b3, i2, i3⟩
  obtain ⟨C, hC⟩ : ∃ C : Cv, C = ⟨lo, 288, lc, a1, n1, cc1, d, 32, dc, a3, n3, cc3⟩ := ⟨_, rfl⟩
  rw [← hC] at cd3
  have wr4 : Wr C w3.heap.size (w3.alloc (.cells #[.slice none 0 0, .int .i64 0, .slice lo 288 lc, .slice a1 n1 cc1, .slice d 32 dc, .slice a3 n3 cc3] 129)) none 0 [] 0 := by
    refine ⟨⟨?_, Mine.nought _ _, fun w' f => ?_⟩, Wst.nought⟩
    · rw [hC]; exact heap_alloc_new w3 _
    · have bf := (below_alloc w3 (.cells #[.slice none 0 0, .int .i64 0, .slice lo 288 lc, .slice a1 n1 cc1, .slice d 32 dc, .slice a3 n3 cc3] 129)).trans f
      exact ⟨cd3.l.later bf, cd3.lc.later bf, cd3.d.later bf, cd3.dc.later bf⟩
  have bb4 := below_alloc w3 (.cells #[.slice none 0 0, .int .i64 0, .slice lo 288 lc, .slice a1 n1 cc1, .slice d 32 dc, .slice a3 n3 cc3] 129)
  have WR4 := hide wr4
  have BW3 := hide bw3
  have BW4 := hide (bw3.trans (bb4.mono bw3.size))
  have f1 := hide (field_wr _ 1 1 wr4 (by omega) (by omega) 1 rfl)
  clear wr4 cd3 i2 i3 I0 I1 ID b1 b2 b3 bw3 bb4 c1 c2
  go_wp2_with fail
  refine (unhide f1).mono ?_
  rintro e w5 ⟨rfl, o5, oc5, wr5, fr5⟩
  have f2 := hide (field_wr w5 1 2 wr5 (by omega) (by omega) 2 rfl)
  have BW5 := hide ((unhide BW4).trans (((unhide WR4).q.below fr5).mono (unhide BW3).size))
  have WR5 := hide wr5
  clear wr5 fr5
  go_wp2_with fail
  refine (unhide f2).mono ?_
  rintro e w6 ⟨rfl, o6, oc6, wr6, fr6⟩
  have e6 : pkF (pkF [] 0 (fto 1 0 1)) (0 + 1) (fto 1 0 2) = pkF [] 0 (head3 ++ ptxs (l.take 0)) := by
    rw [show head3 ++ ptxs (l.take 0) = fto 1 0 1 ++ fto 1 0 2 by simp [ptxs, head3], pkF_app]
    rfl
  rw [e6] at wr6
  have BW6 := hide ((unhide BW5).trans (((unhide WR5).q.below fr6).mono (unhide BW3).size))
  have W6 := hide (show Wr C w3.heap.size w6 o6 oc6 (pkF [] 0 (head3 ++ ptxs (l.take 0))) (head3 ++ ptxs (l.take 0)).length from wr6)
  have zw3 := (unhide BW3).size
  have hbits := hide (ptxs_le (unhide HM) (fun p hp => ⟨((unhide H).fit p hp).b0, ((unhide H).fit p hp).b1⟩))
  have HC := hide hC
  clear wr6 fr6 e6 WR5 WR4 BW4 BW5 f1 f2 hC
  go_wp2_with fail
  go_loopw [28] (fun i wr => ∃ (k : Nat) (o' : Option Addr) (c' : Nat), k ≤ n ∧ i = .int .i64 (k : Int) ∧ Wr C w3.heap.size wr o' c' (pkF [] 0 (head3 ++ ptxs (l.take k))) (head3 ++ ptxs (l.take k)).length ∧ Below w.heap.size w wr) (fun i _ => n - (intOf i).toNat)
  case atStart => exact ⟨0, o6, oc6, by omega, rfl, unhide W6, unhide BW6⟩
  case round =>
    clear W6 BW6
    obtain ⟨k, o', c', hk, rfl, hw, bw⟩ := hrel
    have hNb : (head3 ++ ptxs (l.take k)).length ≤ 3 + 40 * k := by rw [List.length_append, head3_len]; have := unhide hbits k; omega
    by_cases hlt : k < n
    · have hlt' : (k : Int) < (n : Int) := by omega
      obtain ⟨⟨pl, pd, pb⟩, hp⟩ : ∃ p, l[k]? = some p := ⟨_, List.getElem?_eq_getElem (show k < l.length by omega)⟩
      obtain ⟨ib, io, hix, x0, x1, x2⟩ := ((unhide H).later bw).idx hp (k : Int) rfl
      simp only at x0 x1 x2
      have hok := (unhide H).fit _ (List.mem_of_getElem? hp)
      have hmay := (unhide HM) _ (List.mem_of_getElem? hp)
      have bb := below_alloc wr (.cells #[.int .i64 pl, .int .i64 pd, .int .u8 pb] 132)
      have hw1 := hw.later bb
      have pc := hide (piece_wr _ pl pd pb hmay hok.b0 hok.b1 hw1 (by omega))
      have hnx := hide (fx_step hp)
      rw [(unhide hnx).1, (unhide hnx).2] at pc
      have HW1 := hide hw1
      have BB := hide bb
      have BW := hide bw
      clear hw hw1 hok hmay bb bw hp hnx hNb
      go_wp2_with fail
      refine (unhide pc).mono ?_
      rintro e w7 ⟨rfl, o7, c7, w7r, f7⟩
      have BW7 := hide ((unhide BW).trans (((unhide BB).mono (unhide BW).size).trans (((unhide HW1).q.below f7).mono zw3)))
      have W7 := hide w7r
      clear w7r f7
      go_wp2_with fail
      go_roundw
      case rel => exact ⟨k + 1, o7, c7, by omega, by go_num, unhide W7, unhide BW7⟩
      case measure => simp [intOf]; omega
    · have hlt' : ¬ (k : Int) < (n : Int) := by omega
      have hkl : l.take k = l := List.take_of_length_le (by omega)
      rw [hkl] at hw hNb
      have hd := hw.later (below_drew wr)
      have k2 := hw.q.k2
      have k3 := hw.q.k3
      have sc := hide (symL wr.drew 256 (by omega) 256 rfl hd (by omega))
      have hfin := hide (show pkF (pkF [] 0 (head3 ++ ptxs l)) (head3 ++ ptxs l).length (sbits fixL ((256 : Nat) : Int)) = R by rw [unhide HR]; exact fx_end l)
      rw [unhide hfin] at sc
      have HD := hide hd
      have BW := hide bw
      generalize (head3 ++ ptxs l).length + (sbits fixL ((256 : Nat) : Int)).length = NN at *
      clear hw hd hkl hNb hfin bw
      go_wp2_with fail
      go_region_with (go_at_call 90; refine (unhide sc).mono ?_; rintro e w7 ⟨rfl, o7, c7, w7r, f7⟩)
      all_goals have j0 := w7r.q.k0
      all_goals have W7 := hide w7r
      all_goals have BW7 := hide ((unhide BW).trans ((show Below w.heap.size wr wr.drew from ⟨rfl, rfl, rfl, Nat.le_refl _, fun _ _ => rfl⟩).trans (((unhide HD).q.below f7).mono zw3)))
      all_goals clear w7r f7
      all_goals go_wp2_with fail
      all_goals go_ret
      all_goals exact ⟨o7, _, c7, rfl, (unhide W7).q.out.mono (by omega), unhide BW7⟩

theorem chk_may : ∀ (l : List Pc) (m : Int), chk m l = 0 → ∀ p ∈ l, may p = true
  | [], m, _, p, hp => by cases hp
  | q :: r, m, h, p, hp => by
    obtain ⟨h1, _, h3⟩ := chk_step h
    rcases List.mem_cons.1 hp with rfl | hp
    · exact h1
    · exact chk_may r _ h3 p hp

end Go.Proofs.YtnoabdafmgmenaaGreatDoor

namespace Go.Proofs.YtnoabdafmgmenaaGreatDoor
open Go.RowKit
set_option linter.unusedVariables false
set_option linter.unusedSimpArgs false

/-- The stored stream of bytes that go into one block. -/
def sto (bs : List Int) : List Int := [1, (bs.length : Int) % 256, (bs.length : Int) / 256, 255 - (bs.length : Int) % 256, 255 - (bs.length : Int) / 256] ++ bs

theorem not_i64 (n : Int) (h0 : 0 ≤ n) (h1 : n ≤ 65535) : bits .xor .i64 (-1) n = -n - 1 := by
  obtain ⟨C, rfl⟩ := Int.eq_ofNat_of_zero_le h0
  have hC : C < 2 ^ 64 := by omega
  have key : (BitVec.ofInt 64 (-1) ^^^ BitVec.ofNat 64 C).toNat = 2 ^ 64 - 1 - C := by
    have : BitVec.ofInt 64 (-1) = BitVec.allOnes 64 := by decide
    rw [this, BitVec.xor_comm, BitVec.xor_allOnes, BitVec.toNat_not, BitVec.toNat_ofNat, Nat.mod_eq_of_lt hC]
  show IntKind.i64.wrap ((BitVec.ofInt 64 (-1) ^^^ BitVec.ofInt 64 (C : Int)).toNat : Int) = _
  rw [BitVec.ofInt_natCast, key, IntKind.wrap_i64]
  omega

set_option maxHeartbeats 1000000 in
theorem appendStored_any (w : World) (bo : Option Addr) (bn bc : Nat) (bs : List Int) (hb : Bs w bo bn bc bs) (hn : bn ≤ 65535) :
    Calls Tryz.prog 94 #[.slice none 0 0, .int .u8 1, .slice bo bn bc] w fun e w' => ∃ ao n c, e = .returned (.slice ao n c) ∧ Mine w.heap.size w' ao n c (sto bs) ∧ Below w.heap.size w w' := by
  have hlen := hide hb.len
  have hle := hb.le
  have hmx := hb.max
  obtain ⟨X, hX⟩ : ∃ X, X = -(bn : Int) - 1 := ⟨_, rfl⟩
  have hxor := not_i64 (bn : Int) (by omega) (by omega)
  rw [← hX] at hxor
  have hXb : -65536 ≤ X ∧ X ≤ -1 := by omega
  have HX := hide hX
  have HB := hide hb
  have lit0 : Bs (w.alloc (.cells #[.int .u8 1, .int .u8 ((bn : Int) % 256), .int .u8 ((bn : Int) / 256), .int .u8 (X % 256), .int .u8 (X / 256 % 256)] 5)) (some ⟨w.heap.size, 0, none⟩) 5 5 [1, (bn : Int) % 256, (bn : Int) / 256, X % 256, X / 256 % 256] :=
    Bs.lit w [1, (bn : Int) % 256, (bn : Int) / 256, X % 256, X / 256 % 256] (fun y hy => by simp at hy; omega) (by simp)
  have lit := hide lit0
  have BB := hide (below_alloc w (.cells #[.int .u8 1, .int .u8 ((bn : Int) % 256), .int .u8 ((bn : Int) / 256), .int .u8 (X % 256), .int .u8 (X / 256 % 256)] 5))
  have hsg : IntKind.i64.signed = true := rfl
  clear hb hX lit0
  go_enter Tryz.func94, Tryz.ntmps94
  go_wp2_with (first
    | (at_builtin; refine wpList_app rfl (.tmp 26) (.tmp 27) rfl w.heap.size ao1 5 c1 _ rfl (unhide M1) bo bn bc bs rfl ((unhide HB).later (unhide B1)) (by omega) (unhide B1).size ?_; intro ao2 c2 w2 m2 b2)
    | (at_builtin; refine wpList_app rfl (.tmp 10) (.tmp 24) rfl w.heap.size none 0 0 [] rfl (Mine.nought _ _) _ 5 5 _ rfl (unhide lit) (by omega) (by simp) ?_; intro ao1 c1 w1 m1 b1; have M1 := hide m1; have B1 := hide ((unhide BB).trans b1); clear m1 b1))
  go_ret
  refine ⟨ao2, 5 + bn, c2, rfl, ?_, (unhide B1).trans b2⟩
  have e : sto bs = [] ++ [1, (bn : Int) % 256, (bn : Int) / 256, X % 256, X / 256 % 256] ++ bs := by
    have h1 := unhide HX
    have h2 := unhide hlen
    unfold sto
    rw [h2]
    simp only [List.nil_append]
    congr 1
    simp only [List.cons.injEq, and_true, true_and]
    omega
  rw [e]
  exact m2

set_option maxHeartbeats 1000000 in
theorem stored_bs (w : World) (bo : Option Addr) (bn bc : Nat) (bs : List Int) (hb : Bs w bo bn bc bs) (hn : bn ≤ 65535) :
    Calls Tryz.prog 66 #[.slice bo bn bc] w fun e w' => ∃ ao n c, e = .returned (.slice ao n c) ∧ Mine w.heap.size w' ao n c (sto bs) ∧ Below w.heap.size w w' := by
  have hle := hb.le
  have hmx := hb.max
  have ac := hide (appendStored_any w bo bn bc bs hb hn)
  clear hb
  go_enter Tryz.func66, Tryz.ntmps66
  go_wp2_with fail
  go_loopw [0, 3] (fun v l wr => v = .slice bo bn bc ∧ l = .slice none 0 0 ∧ wr = w) (fun _ _ _ => 0)
  case atStart => exact ⟨rfl, rfl, rfl⟩
  case round =>
    obtain ⟨rfl, rfl, rfl⟩ := hrel
    have hlt : ¬ (65535 : Int) < (bn : Int) := by omega
    go_wp2_with fail
    refine (unhide ac).mono ?_
    rintro e w1 ⟨ao, n, c, rfl, m1, b1⟩
    go_wp2_with fail
    go_ret
    exact ⟨ao, n, c, rfl, m1, b1⟩
end Go.Proofs.YtnoabdafmgmenaaGreatDoor

namespace Go.Proofs.YtnoabdafmgmenaaGreatDoor
open Go.RowKit
set_option linter.unusedVariables false
set_option linter.unusedSimpArgs false

/-- The shorter one of the two streams. -/
def dfl (bs : List Int) : List Int := if (fxs (pieces bs)).length ≤ (sto bs).length then fxs (pieces bs) else sto bs

theorem pcs_le (bs : List Int) : ∀ f A, A ≤ bs.length → (pcs bs f A).length + A ≤ bs.length
  | 0, A, h => by simp [pcs]; exact h
  | f + 1, A, h => by
    by_cases hlt : A < bs.length
    · have h1 := pce_sz bs A hlt
      have := pcs_le bs f (A + sz (pce bs A)) h1.2
      rw [pcs_on hlt, List.length_cons]
      omega
    · rw [pcs_end hlt]; simpa using h
theorem pieces_le (bs : List Int) : (pieces bs).length ≤ bs.length := by
  have := pcs_le bs (bs.length + 1) 0 (Nat.zero_le _)
  unfold pieces
  omega
theorem pieces_may (bs : List Int) (hn : bs.length ≤ 32768) : ∀ p ∈ pieces bs, may p = true :=
  chk_may (pieces bs) 0 (xpd_pcs bs hn (bs.length + 1) 0 (Nat.zero_le _) (by omega)).1

set_option maxHeartbeats 1000000 in
theorem deflate_any (w : World) (bo : Option Addr) (bn bc : Nat) (bs : List Int) (hb : Bs w bo bn bc bs) (hn : bn ≤ 2000) :
    Calls Tryz.prog 47 #[.slice bo bn bc] w fun e w' => ∃ ao n c, e = .returned (.slice ao n c) ∧ Mine w.heap.size w' ao n c (dfl bs) ∧ Below w.heap.size w w' := by
  have pc := hide (pieces_any w bo bn bc bs hb (by omega))
  have hpl := pieces_le bs
  have hpm := hide (pieces_may bs (by have := hb.len; omega))
  have hlen := hide hb.len
  have HB := hide hb
  have hpl2 : (pieces bs).length ≤ 2000 := by have := hb.len; omega
  clear hb hpl
  go_enter Tryz.func47, Tryz.ntmps47
  go_wp2_with fail
  refine (unhide pc).mono ?_
  rintro e w1 ⟨ao, n, c, rfl, m1, b1⟩
  have fc := hide (fixedStream_any w1 ao n c (pieces bs) m1.ps (by rw [← m1.len]; exact hpl2) (unhide hpm))
  have z1 := b1.size
  clear m1
  go_wp2_with fail
  refine (unhide fc).mono ?_
  rintro e w2 ⟨ao2, n2, c2, rfl, m2, b2⟩
  have bw2 := b1.trans (b2.mono z1)
  have sc := hide (stored_bs w2 bo bn bc bs ((unhide HB).later bw2) (by omega))
  have M2 := hide m2
  have BW2 := hide bw2
  have l2 := m2.len
  have mx2 := m2.bs.max
  have le2 := m2.bs.le
  clear b2 b1 bw2 m2
  go_wp2_with fail
  refine (unhide sc).mono ?_
  rintro e w3 ⟨ao3, n3, c3, rfl, m3, b3⟩
  have M2' := hide ((unhide M2).later b3)
  have BW3 := hide ((unhide BW2).trans (b3.mono (unhide BW2).size))
  have l3 := m3.len
  have mx3 := m3.bs.max
  have le3 := m3.bs.le
  have M3 := hide m3
  have z2 := (unhide BW2).size
  clear m3 b3
  by_cases hc : n2 ≤ n3
  · have hr := hide (show dfl bs = fxs (pieces bs) by unfold dfl; rw [l2, l3, if_pos hc])
    have hc' : (n2 : Int) ≤ (n3 : Int) := by omega
    have L := hide (And.intro l2 l3)
    clear l2 l3
    go_wp2_with fail
    go_ret
    rw [unhide hr]
    exact ⟨ao2, n2, c2, rfl, (unhide M2').mono z1, unhide BW3⟩
  · have hr := hide (show dfl bs = sto bs by unfold dfl; rw [l2, l3, if_neg hc])
    have hc' : ¬ (n2 : Int) ≤ (n3 : Int) := by omega
    have L := hide (And.intro l2 l3)
    clear l2 l3
    go_wp2_with fail
    go_ret
    rw [unhide hr]
    exact ⟨ao3, n3, c3, rfl, (unhide M3).mono z2, unhide BW3⟩
end Go.Proofs.YtnoabdafmgmenaaGreatDoor
