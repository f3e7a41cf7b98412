/-
  What slices.Chunk hands out, piece by piece, as the range over it asks: all pieces in their order. Conditions: at most a million bytes; a loop body that keeps the two variables of the iterator.
-/
import Derived.Test.YtnoabdafmgmenaaGreatDoorSqPut
import Derived.RangeFuncBox
import Derived.RangeFuncNested
import Derived.RangeFuncBound
import Derived.RangeFuncCalls
import Derived.RangeFuncLeaves
import Derived.Shelf.Abstract
import Derived.Shelf.RegionOpen
import Derived.OwnWalkIn
import Derived.TacticsInMore
import Derived.LoopNIn
import Derived.LoopIn
import Derived.Sort.BigQuietIn
namespace Go.Proofs.YtnoabdafmgmenaaGreatDoor
open Go.RowKit Go.Shelf
set_option linter.unusedVariables false
set_option linter.unusedSimpArgs false
attribute [local go_sem] Oper.semAt_some

/-- What a round keeps: the iterator's two variables. -/
def Kq (b1 b2 : Nat) (W W' : World) : Prop := W'.heap[b1]? = W.heap[b1]? ∧ W'.heap[b2]? = W.heap[b2]?
/-- The piece number k, as a slice. -/
def encC (ao : Option Addr) (len M k : Nat) : Value := .slice (ao.map (·.add (k * M * 1))) (min M (len - k * M)) (min M (len - k * M))
/-- Behind the iterator. -/
def OutIt (ys : List Nat) (J Jx : List Nat → World → Prop) (e : Ending) (W' : World) : Prop := (∃ v, e = .returned v) ∧ (J ys W' ∨ ∃ pre, Jx pre W')
theorem run_cut3 (ao : Option Addr) (n c lo e : Nat) (h1 : 1 ≤ e) (h2 : lo + e ≤ c) (L H X : Int) (hL : L = lo) (hH : H = lo + e) (hX : X = lo + e) (w : World) :
    (Instr.slice 31 (.slice ao n c) (some (.int .i64 L)) (some (.int .i64 H)) (some (.int .i64 X))).run Tryz.prog w = .ok (.slice (ao.map (·.add (lo * 1))) e e) w := by
  subst hL hH hX
  rw [run_slice_lhm w 31 ao n c Tryz.elemBytes .i64 .i64 .i64 lo (lo + e) (lo + e) (by omega) (by omega) (by omega) (by omega), Tryz.sizeByte]
  have e1 : ((lo : Int) + (e : Int)).toNat = lo + e := by omega
  simp only [Result.andThen, sliced, e1, Int.toNat_natCast, Nat.add_sub_cancel_left]
  rw [if_neg (by omega)]

set_option maxRecDepth 100000 in
set_option maxHeartbeats 4000000 in
theorem chunk1_in (n : Nat) (hn : 1 ≤ n) (l b1 b2 : Nat) (ao : Option Addr) (len cap M : Nat) (bs : List Int) (hM : 1 ≤ M) (hM2 : M ≤ 16777215) (hbs : bs.length = len) (hl : len ≤ 1000000) (hlc : len ≤ cap) (hcm : cap ≤ 9223372036854775807) (J Jx : List Nat → World → Prop)
    (W : World) (hJ : AbidesFrom W.heap.size J)
    (hY : ∀ pre x W1, J pre W1 → pre.length < pcn M bs → YieldAt Fence.wide (n - 1) Tryz.prog l #[encC ao len M x] W1 fun e W' =>
      (e = .returned (.bool true) ∧ J (pre ++ [x]) W' ∧ Kq b1 b2 W1 W') ∨ (e = .returned (.bool false) ∧ Jx (pre ++ [x]) W'))
    (k1 : Boxed W b1 31 (.slice ao len cap)) (k2 : Boxed W b2 3 (.int .i64 (M : Int))) (h0 : J [] W) :
    CallsIn Fence.wide n Tryz.prog 30 #[.func (.yield l) #[] #[], .pointer (some ⟨b1, 0, none⟩), .pointer (some ⟨b2, 0, none⟩)] W fun e W' => OutIt (List.range (pcn M bs)) J Jx e W' := by
  refine callsIn_of_wp Tryz.func30 rfl trivial ?_ rfl
  simp only [Tryz.ntmps30, List.size_toArray, List.length_cons, List.length_nil, Nat.reduceAdd, Nat.reduceSub, Array.replicate_succ, Array.replicate_zero, List.push_toArray, List.append_toArray, List.nil_append, List.cons_append]
  have HK1 := hide k1
  have HK2 := hide k2
  have HJ := hide hJ
  have HY := hide hY
  have HB := hide hbs
  have H0 := hide h0
  have hmx : Tryz.prog.follows .mixedOrders = true := by kernel_rfl
  clear k1 k2 hJ hY hbs h0
  gi_wp2
  gi_loopw [4] (fun i wr => ∃ k : Nat, k ≤ pcn M bs ∧ i = .int .i64 ((k * M : Nat) : Int) ∧ J (List.range k) wr ∧ Boxed wr b1 31 (.slice ao len cap) ∧ Boxed wr b2 3 (.int .i64 (M : Int)))
    (fun i _ => len + M - (intOf i).toNat)
  case atStart => exact ⟨0, Nat.zero_le _, by simp, unhide H0, unhide HK1, unhide HK2⟩
  case round =>
    obtain ⟨k, hk, rfl, hJs, x1, x2⟩ := hrel
    have c1 := x1.cell
    have c2 := x2.cell
    have hlt := pcn_lt (bs := bs) (k := k) hM
    rw [unhide HB] at hlt
    by_cases a1 : k < pcn M bs
    · have a2 := hlt.1 a1
      have hJd := hide (show ∀ j, J (List.range k) (wr.drewN j) from fun j => unhide HJ _ _ _ none hJs ⟨rfl, rfl, rfl, Nat.le_refl _, fun _ _ _ => rfl⟩ (fun r e => by cases e))
      have hnx : (k + 1) * M = k * M + M := by rw [Nat.add_mul, Nat.one_mul]
      have HX1 := hide (show ∀ j, Boxed (wr.drewN j) b1 31 (.slice ao len cap) from fun _ => x1)
      have HX2 := hide (show ∀ j, Boxed (wr.drewN j) b2 3 (.int .i64 (M : Int)) from fun _ => x2)
      clear hJs x1 x2
      have HYk := hide (fun j => unhide HY _ k (wr.drewN j) (unhide hJd j) (by rw [List.length_range]; exact a1))
      unfold encC at HYk
      have HA1 := hide a1
      have HNX := hide hnx
      clear hk hlt a1 hnx
      generalize hP : k * M = P at *
      obtain ⟨e, he⟩ : ∃ e : Nat, min M (len - P) = e := ⟨_, rfl⟩
      obtain ⟨L, hL⟩ : ∃ L : Nat, len - P = L := ⟨_, rfl⟩
      rw [he] at HYk
      have e1 : 1 ≤ e := by omega
      have e2 : P + e ≤ len := by omega
      have s1 := run_cut_l ao len cap P (by omega) (P : Int) rfl
      have s2 := run_cut3 ao len cap P e e1 (by omega) (P : Int) ((P : Int) + (e : Int)) ((P : Int) + (e : Int)) rfl rfl rfl
      rw [hL] at s1
      generalize cutAt ao cap P = q1 at *
      generalize ao.map (·.add (P * 1)) = q2 at *
      generalize cap - P = q3 at *
      have hcs : (e = M ∧ (M : Int) < (L : Int)) ∨ (e = M ∧ M = L) ∨ (e = L ∧ (L : Int) < (M : Int)) := by omega
      clear he
      have HL := hide hL
      clear hL
      rcases hcs with ⟨rfl, h3⟩ | ⟨rfl, rfl⟩ | ⟨rfl, h3⟩
      all_goals gi_wp2
      all_goals gi_big_quiet_th (fail)
      all_goals obtain ⟨fn, tmps, assign, body, hy, hR⟩ := unhide HYk nq
      all_goals have HR := hide hR
      all_goals clear hR
      all_goals gi_wp2
      all_goals refine (unhide HR).mono ?_
      all_goals rintro e' W3 (⟨rfl, hJ3, hk3⟩ | ⟨rfl, hJx3⟩)
      all_goals first
        | (have y1 : Boxed W3 b1 31 (.slice ao len cap) := hk3.1.trans (unhide HX1 nq)
           have y2 := hk3.2.trans (unhide HX2 nq)
           have z1 := y1.cell
           have z2 := Boxed.cell y2
           have Y1 := hide y1
           have Y2 := hide y2
           have HJ3 := hide hJ3
           clear y1 y2 hJ3 hk3 c1 c2 s1 s2 hy
           gi_wp2
           go_roundw
           case rel => exact ⟨k + 1, unhide HA1, by rw [unhide HNX]; simp, by rw [List.range_succ]; exact unhide HJ3, unhide Y1, unhide Y2⟩
           case measure => simp [intOf]; omega)
        | (clear c1 c2 s1 s2 hy
           gi_wp2
           refine bodyPost_ret (results_none rfl _ _ _) rfl ?_
           exact ⟨⟨_, rfl⟩, .inr ⟨_, hJx3⟩⟩)
    · have a2 : ¬ k * M < len := fun q => a1 (hlt.2 q)
      have hke : k = pcn M bs := by omega
      have HJS := hide hJs
      clear hJs x1 x2 hlt a1 hk
      generalize hP : k * M = P at *
      have a3 : ¬ (P : Int) < (len : Int) := by omega
      gi_wp2
      go_end0
      exact ⟨⟨_, rfl⟩, .inl (by rw [← hke]; exact unhide HJS)⟩

set_option maxHeartbeats 1000000 in
/-- slices.Chunk(b, n): both are boxed; the function value captures the boxes. -/
theorem chunk_in (n : Nat) (ao : Option Addr) (len cap : Nat) (M : Int) (hM : 1 ≤ M) (w : World) :
    CallsIn Fence.wide n Tryz.prog 24 #[.slice ao len cap, .int .i64 M] w fun e w' => e = .returned (.func (.func 30) #[] #[.pointer (some ⟨w.heap.size, 0, none⟩), .pointer (some ⟨w.heap.size + 1, 0, none⟩)]) ∧ w' = (w.alloc (.cells #[.slice ao len cap] 31)).alloc (.cells #[.int .i64 M] 3) := by
  have hM' : ¬ M < 1 := by omega
  refine callsIn_of_wp Tryz.func24 rfl trivial ?_ rfl
  simp only [Tryz.ntmps24, List.size_toArray, List.length_cons, List.length_nil, Nat.reduceAdd, Nat.reduceSub, Array.replicate_succ, Array.replicate_zero, List.push_toArray, List.append_toArray, List.nil_append, List.cons_append]
  gi_wp2
  go_ret
  exact ⟨by simp, rfl⟩

theorem chunk_stops (n : Nat) (hn : 1 ≤ n) (b1 b2 : Nat) (ao : Option Addr) (len cap M : Nat) (bs : List Int) (hM : 1 ≤ M) (hM2 : M ≤ 16777215) (hbs : bs.length = len) (hl : len ≤ 1000000) (hlc : len ≤ cap) (hcm : cap ≤ 9223372036854775807)
    (w : World) (k1 : Boxed w b1 31 (.slice ao len cap)) (k2 : Boxed w b2 3 (.int .i64 (M : Int))) :
    SeqStopsK Fence.wide n Tryz.prog 30 #[.pointer (some ⟨b1, 0, none⟩), .pointer (some ⟨b2, 0, none⟩)] (fun k : Nat => #[encC ao len M k]) (Kq b1 b2) (fun ys => ys = List.range (pcn M bs)) (fun _ => True) (pcn M bs) w :=
  fun l J Jx W hW hJ _ hY h0 => (chunk1_in n hn l b1 b2 ao len cap M bs hM hM2 hbs hl hlc hcm J Jx W hJ hY ((hW.block b1 k1.lt).trans k1) ((hW.block b2 k2.lt).trans k2) h0).mono fun e W' ⟨hv, h⟩ => ⟨hv, h.elim (fun q => .inl ⟨_, rfl, q⟩) (fun ⟨pre, q⟩ => .inr ⟨pre, trivial, q⟩)⟩
end Go.Proofs.YtnoabdafmgmenaaGreatDoor
