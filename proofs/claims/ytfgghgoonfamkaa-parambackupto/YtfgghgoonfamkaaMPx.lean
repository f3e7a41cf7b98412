/-
  What the statements' helper SameParams returns of two slices that hold the same parameters: true. It changes no memory. Conditions: none.
  Append to a row of types and to a row of truth values of the call's own: all blocks but the row's own are kept; the two rows lie apart. Conditions: at most 10 to the 8 of them.
  Slices of parameters and of types that came in: what lies in their cells, and the sizes of texts by the bulk of what was read. Conditions: none.
-/
import Derived.Test.YtfgghgoonfamkaaMPm
import Derived.Test.YtfgghgoonfamkaaVaEq
import Derived.Test.YtfgghgoonfamkaaMA
import Derived.BigQuiet
import Derived.Test.YtfgghgoonfamkaaRtMem
import Derived.Test.YtfgghgoonfamkaaMPl
import Derived.Test.YtfgghgoonfamkaaRows
import Derived.WideShapes
import Derived.ChangeArms
import Derived.ChangeSame
import Derived.Deep.Slices
import Derived.OpenShut
import Derived.ProofKit
namespace Go.Proofs.Ytfgghgoonfamkaa
open Go.RowKit
set_option linter.unusedVariables false
set_option linter.unusedSimpArgs false

theorem below_sp (w : World) (n : Nat) : Below w.heap.size w (w.drewN n) := ⟨rfl, rfl, rfl, Nat.le_refl _, fun _ _ => rfl⟩
set_option maxHeartbeats 1000000 in
theorem eqp_self (p : Pa) (w : World) : (binOp .eql 34 (.agg (paC p)) (.agg (paC p))).run Try.prog w = .ok (.bool true) w := by
  obtain ⟨⟨t, un⟩, lo, x0, x1, x2, x3, a0, a1, a2, a3, a4, a5, a6, a7⟩ := p
  unfold paC
  rw [run_eql_struct, run_equalIn_agg w 9999 _ _ _ (by kernel_rfl) (by kernel_rfl)]
  simp [go_sem, Try.underlying34, Try.underlying27, Try.underlying32, Try.underlying30, ba_list]
theorem neqp_self (p : Pa) (w : World) : (binOp .neq 34 (.agg (paC p)) (.agg (paC p))).run Try.prog w = .ok (.bool false) w := by
  have h := eqp_self p w
  rw [run_eql_struct] at h
  rw [run_neq_struct]
  cases hq : (Op.equalIn 10000 34 (.agg (paC p)) (.agg (paC p))).run Try.prog w with
  | ok b w' =>
    rw [hq] at h
    simp [Result.andThen] at h ⊢
    obtain ⟨h1, h2⟩ := h
    subst h1 h2
    simp
  | _ => rw [hq] at h; simp [Result.andThen] at h

set_option maxHeartbeats 1000000 in
set_option maxRecDepth 100000 in
theorem sameParams_self (ao : Option Addr) (n c : Nat) (bo : Option Addr) (m d : Nat) (l : List Pa) (w : World) (h : Pas w ao n c l) (k : Pas w bo m d l) :
    Calls Try.prog 16 #[.slice ao n c, .slice bo m d] w fun e w' => e = .returned (.bool true) ∧ Below w.heap.size w w' := by
  have hl := h.len
  have kl := k.len
  have hle := h.le
  have kle := k.le
  have hmx := h.max
  have kmx := k.max
  have H := hide h
  have K := hide k
  have hnm : m = n := by omega
  subst hnm
  have HL := hide hl
  clear h k hl kl
  go_enter Try.func16, Try.ntmps16
  go_wp2_with fail
  go_loopw [5] (fun i wr => ∃ (j q : Nat), j ≤ m ∧ i = .int .i64 (j : Int) ∧ wr = w.drewN q) (fun i _ => m - (intOf i).toNat)
  case atStart => exact ⟨0, 0, by omega, rfl, rfl⟩
  case round =>
    obtain ⟨j, q, hj, rfl, rfl⟩ := hrel
    by_cases hlt : j < m
    · obtain ⟨p, hp⟩ : ∃ p, l[j]? = some p := ⟨l[j]'(by rw [unhide HL]; exact hlt), List.getElem?_eq_getElem _⟩
      obtain ⟨b0, o0, i0, A0⟩ := (unhide H).idx hp (j : Int) rfl
      obtain ⟨b1, o1, i1, A1⟩ := (unhide K).idx hp (j : Int) rfl
      have g1 : ((j : Nat) : Int) < (m : Int) := by omega
      have NE := fun wx => neqp_self p wx
      have L0 : (loadVar 34 ⟨b0, o0, none⟩).run Try.prog w = .ok (.agg (paC p)) w := A0.run
      have L1 : (loadVar 34 ⟨b1, o1, none⟩).run Try.prog w = .ok (.agg (paC p)) w := A1.run
      obtain ⟨⟨t, un⟩, lo, kk, ii, bb, tx, ⟨ng, yy, mo, dd, hh, mi, ss, mc⟩⟩ := p
      unfold paC at NE
      simp only at NE
      have c0_0 : w.cell? ⟨b0, o0, none⟩ = some (.int .u8 t) := A0 0 (by decide)
      have c0_1 : w.cell? ⟨b0, o0 + 1, none⟩ = some (.bool un) := A0 1 (by decide)
      have c0_2 : w.cell? ⟨b0, o0 + 2, none⟩ = some (.bool lo) := A0 2 (by decide)
      have c0_3 : w.cell? ⟨b0, o0 + 3, none⟩ = some (.int .i64 kk) := A0 3 (by decide)
      have c0_4 : w.cell? ⟨b0, o0 + 4, none⟩ = some (.int .i64 ii) := A0 4 (by decide)
      have c0_5 : w.cell? ⟨b0, o0 + 5, none⟩ = some (.int .u64 bb) := A0 5 (by decide)
      have c0_6 : w.cell? ⟨b0, o0 + 6, none⟩ = some (.string tx) := A0 6 (by decide)
      have c0_7 : w.cell? ⟨b0, o0 + 7, none⟩ = some (.bool ng) := A0 7 (by decide)
      have c0_8 : w.cell? ⟨b0, o0 + 8, none⟩ = some (.int .i64 yy) := A0 8 (by decide)
      have c0_9 : w.cell? ⟨b0, o0 + 9, none⟩ = some (.int .i64 mo) := A0 9 (by decide)
      have c0_10 : w.cell? ⟨b0, o0 + 10, none⟩ = some (.int .i64 dd) := A0 10 (by decide)
      have c0_11 : w.cell? ⟨b0, o0 + 11, none⟩ = some (.int .i64 hh) := A0 11 (by decide)
      have c0_12 : w.cell? ⟨b0, o0 + 12, none⟩ = some (.int .i64 mi) := A0 12 (by decide)
      have c0_13 : w.cell? ⟨b0, o0 + 13, none⟩ = some (.int .i64 ss) := A0 13 (by decide)
      have c0_14 : w.cell? ⟨b0, o0 + 14, none⟩ = some (.int .i64 mc) := A0 14 (by decide)
      have c1_0 : w.cell? ⟨b1, o1, none⟩ = some (.int .u8 t) := A1 0 (by decide)
      have c1_1 : w.cell? ⟨b1, o1 + 1, none⟩ = some (.bool un) := A1 1 (by decide)
      have c1_2 : w.cell? ⟨b1, o1 + 2, none⟩ = some (.bool lo) := A1 2 (by decide)
      have c1_3 : w.cell? ⟨b1, o1 + 3, none⟩ = some (.int .i64 kk) := A1 3 (by decide)
      have c1_4 : w.cell? ⟨b1, o1 + 4, none⟩ = some (.int .i64 ii) := A1 4 (by decide)
      have c1_5 : w.cell? ⟨b1, o1 + 5, none⟩ = some (.int .u64 bb) := A1 5 (by decide)
      have c1_6 : w.cell? ⟨b1, o1 + 6, none⟩ = some (.string tx) := A1 6 (by decide)
      have c1_7 : w.cell? ⟨b1, o1 + 7, none⟩ = some (.bool ng) := A1 7 (by decide)
      have c1_8 : w.cell? ⟨b1, o1 + 8, none⟩ = some (.int .i64 yy) := A1 8 (by decide)
      have c1_9 : w.cell? ⟨b1, o1 + 9, none⟩ = some (.int .i64 mo) := A1 9 (by decide)
      have c1_10 : w.cell? ⟨b1, o1 + 10, none⟩ = some (.int .i64 dd) := A1 10 (by decide)
      have c1_11 : w.cell? ⟨b1, o1 + 11, none⟩ = some (.int .i64 hh) := A1 11 (by decide)
      have c1_12 : w.cell? ⟨b1, o1 + 12, none⟩ = some (.int .i64 mi) := A1 12 (by decide)
      have c1_13 : w.cell? ⟨b1, o1 + 13, none⟩ = some (.int .i64 ss) := A1 13 (by decide)
      have c1_14 : w.cell? ⟨b1, o1 + 14, none⟩ = some (.int .i64 mc) := A1 14 (by decide)
      clear hp A0 A1 L0 L1
      go_wp2_with fail
      go_quiet (fail)
      go_wp2_with fail
      go_roundw
      case rel => exact ⟨j + 1, _, by omega, by go_num, (by first | rfl | exact World.drewN_drewN _ _ _)⟩
      case measure => simp [intOf]; omega
    · have hjn : j = m := by omega
      subst hjn
      have g1 : ¬ ((j : Nat) : Int) < (j : Int) := by omega
      go_wp2_with fail
      go_ret
      exact ⟨rfl, below_sp _ _⟩

end Go.Proofs.Ytfgghgoonfamkaa

namespace Go.Proofs.Ytfgghgoonfamkaa
open Go.RowKit
set_option linter.unusedVariables false
set_option linter.unusedSimpArgs false

theorem wpList_appT2 {ops : Array Oper} {rest : List Oper} {o : Oper} {a : Act} {w : World} {Q : Exit → Act → World → Prop} (hgd : o.guard = none) (s x : Operand)
    (ho : o.op = .call { callee := .builtin .append, args := #[s, x], argTypes := #[43, 43] })
    (B : Nat) (ao : Option Addr) (n c : Nat) (l : List Ty) (hs : a.eval s = .slice ao n c) (hm : TyMine B w ao n c l)
    (q : Nat) (y : Ty) (hx : a.eval x = .slice (some ⟨q, 0, none⟩) 1 1) (hb : AtT w q 0 y) (hbound : n ≤ 100000000) (hB : B ≤ w.heap.size)
    (h : ∀ ao1 c1 w1, TyMine B w1 ao1 (n + 1) c1 (l ++ [y]) → Below B w w1 → (∀ k, k < w.heap.size → ¬ ob ao k → w1.heap[k]? = w.heap[k]?) → wpList Try.prog ops Q rest (a.put o.dst (.slice ao1 (n + 1) c1)) w1) :
    wpList Try.prog ops Q (o :: rest) a w := by
  obtain ⟨i0, hi, hz0, hz1, hz2⟩ := info_parts infoT
  have hlen := hm.len
  have hnews : ∀ j u, (tyC y).toList[j]? = some u → w.cell? ((⟨q, 0, none⟩ : Addr).add j) = some u := by
    intro j u hu
    have hj : j < 2 := (List.getElem?_eq_some_iff.1 hu).1
    have := hb j hj
    rw [Addr.add_lit, this]
    simpa using hu
  have hone : ∀ u ∈ (tyC y).toList, u.oneCell' = true := fun u hu => (Array.all_eq_true_iff_forall_mem.1 (tyc_one y)) u (by simpa using hu)
  refine wpList_append_own_at w hgd s x 43 ho B 27 i0 (.agg (tyC ty0)) 2 2 Try.underlying43 hi hz0 hz1 hz2 rfl (by decide) _ _ _ hs hm.own ⟨q, 0, none⟩ 1 1 (tyC y).toList hx rfl hnews hone (by unfold maxLen; omega) (by omega) hB ?_
  intro v' w' hown hgrow _ hsrc
  rw [← flatT_app] at hown
  have hex : ∃ ao1 c1, v' = .slice ao1 (n + 1) c1 := by
    rcases hown.2 with ⟨hv, h0⟩ | ⟨g, cap, cur, hv, _⟩
    · omega
    · exact ⟨_, _, hv⟩
  obtain ⟨ao1, c1, hv⟩ := hex
  subst hv
  refine h ao1 c1 w' ⟨by simp [hlen], hown⟩ ((Below.refl B w).grown hgrow hB (fun k hk => (hm.own.lt k hk).1)) (fun k hk hno => hgrow.block k hk (fun e => hno ?_))
  cases ao with
  | none => simp [Value.ownBlock] at e
  | some ad =>
    simp [Value.ownBlock] at e
    exact ⟨ad, rfl, e.symm⟩

theorem wpList_appB2 {ops : Array Oper} {rest : List Oper} {o : Oper} {a : Act} {w : World} {Q : Exit → Act → World → Prop} (hgd : o.guard = none) (s x : Operand)
    (ho : o.op = .call { callee := .builtin .append, args := #[s, x], argTypes := #[44, 44] })
    (B : Nat) (ao : Option Addr) (n c : Nat) (l : List Bool) (hs : a.eval s = .slice ao n c) (hm : BlMine B w ao n c l)
    (q : Nat) (y : Bool) (hx : a.eval x = .slice (some ⟨q, 0, none⟩) 1 1) (hb : AtB w q 0 y) (hbound : n ≤ 100000000) (hB : B ≤ w.heap.size)
    (h : ∀ ao1 c1 w1, BlMine B w1 ao1 (n + 1) c1 (l ++ [y]) → Below B w w1 → (∀ k, k < w.heap.size → ¬ ob ao k → w1.heap[k]? = w.heap[k]?) → wpList Try.prog ops Q rest (a.put o.dst (.slice ao1 (n + 1) c1)) w1) :
    wpList Try.prog ops Q (o :: rest) a w := by
  obtain ⟨i0, hi, hz0, hz1, hz2⟩ := info_parts infoB
  have hlen := hm.len
  have hnews : ∀ j u, (blC y).toList[j]? = some u → w.cell? ((⟨q, 0, none⟩ : Addr).add j) = some u := by
    intro j u hu
    have hj : j < 1 := (List.getElem?_eq_some_iff.1 hu).1
    have := hb j hj
    rw [Addr.add_lit, this]
    simpa using hu
  have hone : ∀ u ∈ (blC y).toList, u.oneCell' = true := fun u hu => (Array.all_eq_true_iff_forall_mem.1 (blc_one y)) u (by simpa using hu)
  refine wpList_append_own_at w hgd s x 44 ho B 4 i0 (.bool false) 1 1 Try.underlying44 hi hz0 hz1 hz2 rfl (by decide) _ _ _ hs hm.own ⟨q, 0, none⟩ 1 1 (blC y).toList hx rfl hnews hone (by unfold maxLen; omega) (by omega) hB ?_
  intro v' w' hown hgrow _ hsrc
  rw [← flatB_app] at hown
  have hex : ∃ ao1 c1, v' = .slice ao1 (n + 1) c1 := by
    rcases hown.2 with ⟨hv, h0⟩ | ⟨g, cap, cur, hv, _⟩
    · omega
    · exact ⟨_, _, hv⟩
  obtain ⟨ao1, c1, hv⟩ := hex
  subst hv
  refine h ao1 c1 w' ⟨by simp [hlen], hown⟩ ((Below.refl B w).grown hgrow hB (fun k hk => (hm.own.lt k hk).1)) (fun k hk hno => hgrow.block k hk (fun e => hno ?_))
  cases ao with
  | none => simp [Value.ownBlock] at e
  | some ad =>
    simp [Value.ownBlock] at e
    exact ⟨ad, rfl, e.symm⟩

theorem ty_bl {B C : Nat} {w : World} {ao : Option Addr} {n c : Nat} {l : List Ty} {bo : Option Addr} {m d : Nat} {g : List Bool} (h : TyMine B w ao n c l) (k : BlMine C w bo m d g) {q : Nat} (h1 : ob ao q) (h2 : ob bo q) : False := by
  obtain ⟨a1, rfl, rfl⟩ := h1
  obtain ⟨a2, rfl, h2⟩ := h2
  rcases h.own.2 with ⟨hv, _⟩ | ⟨g1, cap, cur, hv, hg, hh, _⟩
  · simp at hv
  rcases k.own.2 with ⟨kv, _⟩ | ⟨g2, cap2, cur2, kv, kg, kh, _⟩
  · simp at kv
  simp only [Value.slice.injEq, Option.some.injEq] at hv kv
  obtain ⟨rfl, _⟩ := hv
  obtain ⟨rfl, _⟩ := kv
  simp only at h2
  rw [h2, hh] at kh
  simp at kh
theorem att_of {w : World} {b f : Nat} {p : Pa} (h : AtP w b f p) : AtT w b f p.t := by
  intro j hj
  have := h j (by omega)
  rcases (show j = 0 ∨ j = 1 by omega) with rfl | rfl
  · exact this
  · exact this


end Go.Proofs.Ytfgghgoonfamkaa

namespace Go.Proofs.Ytfgghgoonfamkaa
open Go.ChangeShapes Go.WideShapes Go.ChangeAt Go.RowKit
set_option linter.unusedVariables false
set_option linter.unusedSimpArgs false

theorem letters' (s : ByteArray) : s.data.toList.length = s.size := Array.length_toList
theorem blk_in {H : Type} {d : DataW H} : ∀ {l : List (DataW H)}, d ∈ l → Rows.uptoBulk d ≤ Rows.uptoBulkAll l
  | [], h => by cases h
  | a :: l, h => by
    rw [Rows.uptoBulkAll]
    rcases List.mem_cons.1 h with h | h
    · subst h; omega
    · have := blk_in h; omega
theorem array2 {α : Type} {cs : Array α} (h : cs.size = 2) : ∃ c0 c1, cs = #[c0, c1] := by
  obtain ⟨l⟩ := cs
  match l, h with
  | [c0, c1], _ => exact ⟨c0, c1, rfl⟩
theorem array8 {α : Type} {cs : Array α} (h : cs.size = 8) : ∃ c0 c1 c2 c3 c4 c5 c6 c7, cs = #[c0, c1, c2, c3, c4, c5, c6, c7] := by
  obtain ⟨l⟩ := cs
  match l, h with
  | [c0, c1, c2, c3, c4, c5, c6, c7], _ => exact ⟨c0, c1, c2, c3, c4, c5, c6, c7, rfl⟩
theorem array12 {α : Type} {cs : Array α} (h : cs.size = 12) : ∃ c0 c1 c2 c3 c4 c5 c6 c7 c8 c9 c10 c11, cs = #[c0, c1, c2, c3, c4, c5, c6, c7, c8, c9, c10, c11] := by
  obtain ⟨l⟩ := cs
  match l, h with
  | [c0, c1, c2, c3, c4, c5, c6, c7, c8, c9, c10, c11], _ => exact ⟨c0, c1, c2, c3, c4, c5, c6, c7, c8, c9, c10, c11, rfl⟩
theorem ty_of {H : Type} {enc : TypeId × Value → H} {W : World} {base fuel : Nat} {cs : Array Value} {x : DataW H × List MemPlace} (hsz : cs.size = Try.prog.cellsOf 27)
    (h : DataW.trod enc Try.prog W base (fun _ => true) true fuel 27 (Value.agg cs).cells.toList = some x) : ∃ (t : Int) (un : Bool), cs = #[.int .u8 t, .bool un] ∧ 0 ≤ t ∧ t < 256 := by
  have c2 : Try.prog.cellsOf 27 = 2 := by kernel_rfl
  have cb : Try.prog.cellsOf 5 = 1 := by kernel_rfl
  have cB : Try.prog.cellsOf 4 = 1 := by kernel_rfl
  obtain ⟨u0, u1, rfl⟩ := array2 (hsz.trans c2)
  obtain ⟨xs, n, _, rfl, hl, hlen, hf⟩ := DataW.trod_struct Try.underlying27 h
  match xs, hlen with
  | [y0, y1], _ =>
    have t0 := hf 0 _ rfl
    have t1 := hf 1 _ rfl
    simp [Value.cells, cb, cB] at t0 t1
    obtain ⟨z0, e0, _, w0⟩ := DataW.trod_int Try.underlying5 t0
    obtain ⟨z1, e1, _⟩ := DataW.trod_bool Try.underlying4 t1
    simp at e0 e1
    subst e0 e1
    have q0 := bounds_u8 w0
    exact ⟨z0, z1, rfl, by omega, by omega⟩
theorem va_in {H : Type} {enc : TypeId × Value → H} {W : World} {base fuel : Nat} {cs : Array Value} {x : DataW H × List MemPlace} (hsz : cs.size = Try.prog.cellsOf 32)
    (h : DataW.trod enc Try.prog W base (fun _ => true) true fuel 32 (Value.agg cs).cells.toList = some x) : ∃ v : Va, cs = vaC v ∧ VaK v ∧ v.t.size ≤ Rows.uptoBulk x.1 := by
  have c12 : Try.prog.cellsOf 32 = 12 := by kernel_rfl
  have c8 : Try.prog.cellsOf 30 = 8 := by kernel_rfl
  have ci : Try.prog.cellsOf 3 = 1 := by kernel_rfl
  have cj : Try.prog.cellsOf 2 = 1 := by kernel_rfl
  have cu : Try.prog.cellsOf 28 = 1 := by kernel_rfl
  have ct : Try.prog.cellsOf 9 = 1 := by kernel_rfl
  have cB : Try.prog.cellsOf 4 = 1 := by kernel_rfl
  obtain ⟨u0, u1, u2, u3, v0, v1, v2, v3, v4, v5, v6, v7, rfl⟩ := array12 (hsz.trans c12)
  obtain ⟨xs, n, _, rfl, hl, hlen, hf⟩ := DataW.trod_struct Try.underlying32 h
  match xs, hlen with
  | [y0, y1, y2, y3, y4], _ =>
    have t0 := hf 0 _ rfl
    have t1 := hf 1 _ rfl
    have t2 := hf 2 _ rfl
    have t3 := hf 3 _ rfl
    have t4 := hf 4 _ rfl
    simp [Value.cells, ci, cj, cu, ct, c8] at t0 t1 t2 t3 t4
    obtain ⟨a0, f0, _, g0⟩ := DataW.trod_int Try.underlying3 t0
    obtain ⟨a1, f1, _, g1⟩ := DataW.trod_int Try.underlying2 t1
    obtain ⟨a2, f2, _, g2⟩ := DataW.trod_int Try.underlying28 t2
    obtain ⟨a3, f3, x3, g3⟩ := DataW.trod_string Try.underlying9 t3
    obtain ⟨xs4, _, _, rfl, _, hlen4, hf4⟩ := DataW.trod_struct Try.underlying30 t4
    match xs4, hlen4 with
    | [_, _, _, _, _, _, _, _], _ =>
      have s0 := hf4 0 _ rfl
      have s1 := hf4 1 _ rfl
      have s2 := hf4 2 _ rfl
      have s3 := hf4 3 _ rfl
      have s4 := hf4 4 _ rfl
      have s5 := hf4 5 _ rfl
      have s6 := hf4 6 _ rfl
      have s7 := hf4 7 _ rfl
      simp [Value.cells, ci, cB] at s0 s1 s2 s3 s4 s5 s6 s7
      obtain ⟨z0, e0, _⟩ := DataW.trod_bool Try.underlying4 s0
      obtain ⟨z1, e1, _, w1⟩ := DataW.trod_int Try.underlying3 s1
      obtain ⟨z2, e2, _, w2⟩ := DataW.trod_int Try.underlying3 s2
      obtain ⟨z3, e3, _, w3⟩ := DataW.trod_int Try.underlying3 s3
      obtain ⟨z4, e4, _, w4⟩ := DataW.trod_int Try.underlying3 s4
      obtain ⟨z5, e5, _, w5⟩ := DataW.trod_int Try.underlying3 s5
      obtain ⟨z6, e6, _, w6⟩ := DataW.trod_int Try.underlying3 s6
      obtain ⟨z7, e7, _, w7⟩ := DataW.trod_int Try.underlying3 s7
      simp at f0 f1 f2 f3 e0 e1 e2 e3 e4 e5 e6 e7
      subst f0 f1 f2 f3 e0 e1 e2 e3 e4 e5 e6 e7
      have q1 := bounds_i64 w1
      have q2 := bounds_i64 w2
      have q3 := bounds_i64 w3
      have q4 := bounds_i64 w4
      have q5 := bounds_i64 w5
      have q6 := bounds_i64 w6
      have q7 := bounds_i64 w7
      have r0 := bounds_i64 g0
      have r1 := bounds_i64 g1
      have r2 := bounds_u64 g2
      exact ⟨⟨a0, a1, a2, a3, ⟨z0, z1, z2, z3, z4, z5, z6, z7⟩⟩, rfl, ⟨⟨by simp only; omega, by simp only; omega⟩, ⟨by simp only; omega, by simp only; omega⟩, ⟨by simp only; omega, by simp only; omega⟩, ⟨⟨by simp only; omega, by simp only; omega⟩, ⟨by simp only; omega, by simp only; omega⟩, ⟨by simp only; omega, by simp only; omega⟩, ⟨by simp only; omega, by simp only; omega⟩, ⟨by simp only; omega, by simp only; omega⟩, ⟨by simp only; omega, by simp only; omega⟩, ⟨by simp only; omega, by simp only; omega⟩⟩⟩, by rw [x3]; simp only [List.map_cons, Rows.uptoBulk, Rows.uptoBulkAll, letters']; omega⟩
theorem array15 {α : Type} {cs : Array α} (h : cs.size = 15) : ∃ c0 c1 c2 c3 c4 c5 c6 c7 c8 c9 c10 c11 c12 c13 c14, cs = #[c0, c1, c2, c3, c4, c5, c6, c7, c8, c9, c10, c11, c12, c13, c14] := by
  obtain ⟨l⟩ := cs
  match l, h with
  | [c0, c1, c2, c3, c4, c5, c6, c7, c8, c9, c10, c11, c12, c13, c14], _ => exact ⟨c0, c1, c2, c3, c4, c5, c6, c7, c8, c9, c10, c11, c12, c13, c14, rfl⟩
theorem pa_in {H : Type} {enc : TypeId × Value → H} {W : World} {base fuel : Nat} {cs : Array Value} {x : DataW H × List MemPlace} (hsz : cs.size = Try.prog.cellsOf 34)
    (h : DataW.trod enc Try.prog W base (fun _ => true) true fuel 34 (Value.agg cs).cells.toList = some x) : ∃ p : Pa, cs = paC p ∧ (VaK p.v ∧ 0 ≤ p.t.t ∧ p.t.t < 256) ∧ p.v.t.size ≤ Rows.uptoBulk x.1 := by
  have c15 : Try.prog.cellsOf 34 = 15 := by kernel_rfl
  have c12 : Try.prog.cellsOf 32 = 12 := by kernel_rfl
  have c2 : Try.prog.cellsOf 27 = 2 := by kernel_rfl
  have cB : Try.prog.cellsOf 4 = 1 := by kernel_rfl
  obtain ⟨u0, u1, u2, u3, u4, u5, u6, u7, u8, u9, u10, u11, u12, u13, u14, rfl⟩ := array15 (hsz.trans c15)
  obtain ⟨xs, n, _, rfl, hl, hlen, hf⟩ := DataW.trod_struct Try.underlying34 h
  match xs, hlen with
  | [y0, y1, y2], _ =>
    have t0 := hf 0 _ rfl
    have t1 := hf 1 _ rfl
    have t2 := hf 2 _ rfl
    simp [Value.cells, c12, c2, cB] at t0 t1 t2
    obtain ⟨t, un, e0, h0, h1⟩ := ty_of (cs := #[u0, u1]) (by rw [c2]; rfl) (by simpa [Value.cells] using t0)
    obtain ⟨lo, e1, _⟩ := DataW.trod_bool Try.underlying4 t1
    obtain ⟨v, e2, hv, hs⟩ := va_in (cs := #[u3, u4, u5, u6, u7, u8, u9, u10, u11, u12, u13, u14]) (by rw [c12]; rfl) (by simpa [Value.cells] using t2)
    obtain ⟨x0, x1, x2, x3, ⟨a0, a1, a2, a3, a4, a5, a6, a7⟩⟩ := v
    simp [vaC] at e0 e1 e2
    obtain ⟨rfl, rfl⟩ := e0
    subst e1
    obtain ⟨rfl, rfl, rfl, rfl, rfl, rfl, rfl, rfl, rfl, rfl, rfl, rfl⟩ := e2
    exact ⟨⟨⟨t, un⟩, lo, ⟨x0, x1, x2, x3, ⟨a0, a1, a2, a3, a4, a5, a6, a7⟩⟩⟩, rfl, ⟨hv, h0, h1⟩, by simp only [List.map_cons, Rows.uptoBulk, Rows.uptoBulkAll]; simp only at hs; omega⟩
theorem pas_of {H : Type} {enc : TypeId × Value → H} {W : World} {base fuel : Nat} {a : Option Addr} {len cap : Nat} {x : DataW H × List MemPlace} (h : DataW.trod enc Try.prog W base (fun _ => true) true fuel 35 (Value.slice a len cap).cells.toList = some x) : ∃ l, Pas W a len cap l ∧ ∀ p ∈ l, (VaK p.v ∧ 0 ≤ p.t.t ∧ p.t.t < 256) ∧ p.v.t.size ≤ Rows.uptoBulk x.1 := by
  have c15 : Try.prog.cellsOf 34 = 15 := by kernel_rfl
  rcases Deep.open_slice Try.underlying35 h with ⟨hcs, _⟩ | ⟨ad, l, c, m, n, D, Pl, hcs, hb, hl, hm, hmm, hx, hel⟩
  · simp [Value.cells] at hcs
    obtain ⟨rfl, rfl, rfl⟩ := hcs
    exact ⟨[], Pas.nought W, by simp⟩
  · simp [Value.cells] at hcs
    obtain ⟨rfl, rfl, rfl⟩ := hcs
    simp only [if_true] at hmm
    subst hmm
    have each : ∀ i, i < len → ∃ v : Pa, (VaK v.v ∧ 0 ≤ v.t.t ∧ v.t.t < 256) ∧ v.v.t.size ≤ Rows.uptoBulk x.1 ∧ ∀ j, j < 15 → W.cell? (ad.add (i * 15 + j)) = (paC v)[j]? := by
      intro i hi
      obtain ⟨cs', h1, h2⟩ := hel i (by omega)
      rw [c15] at h1
      obtain ⟨_, hlen, hcell⟩ := World.cells?_some h1
      obtain ⟨v, e, hK, hs⟩ := pa_in (cs := cs'.toArray) (by rw [c15]; simpa using hlen) (by simpa [Value.cells] using h2)
      refine ⟨v, hK, ?_, fun j hj => ?_⟩
      · refine Nat.le_trans hs ?_
        rw [hx]
        have : Rows.uptoBulk (D i) ≤ Rows.uptoBulkAll ((List.range len).map D) := blk_in (List.mem_map.2 ⟨i, List.mem_range.2 hi, rfl⟩)
        simp only [Rows.uptoBulk]
        omega
      · have := hcell j (by omega)
        rw [Addr.add_add] at this
        rw [this, ← e]
        simp
    by_cases h0 : len = 0
    · subst h0
      unfold maxLen at hm
      exact ⟨[], ⟨rfl, hl, by omega, (fun e => by cases e), .inl rfl⟩, by simp⟩
    · obtain ⟨b, off, spot⟩ := ad
      have hspot : spot = none := by
        obtain ⟨p, _, _, k0⟩ := each 0 (by omega)
        have k1 := k0 0 (by decide)
        rw [pac_at p (by decide)] at k1
        simpa [Addr.add] using World.cell?_spot k1
      subst hspot
      refine ⟨(List.range len).map fun i => if hi : i < len then Classical.choose (each i hi) else pa0, ⟨?_, hl, by unfold maxLen at hm; omega, (fun e => by cases e), .inr ⟨b, off, rfl, fun i p hi => ?_⟩⟩, fun p hp => ?_⟩
      · simp
      · have hil : i < len := by have := (List.getElem?_eq_some_iff.1 hi).1; simpa using this
        rw [List.getElem?_map, List.getElem?_range hil] at hi
        simp only [Option.map_some, Option.some.injEq, dif_pos hil] at hi
        subst hi
        obtain ⟨_, _, g⟩ := Classical.choose_spec (each i hil)
        intro j hj
        have := g j hj
        rw [Addr.add_lit] at this
        rw [← this, Nat.add_assoc]
      · simp only [List.mem_map, List.mem_range] at hp
        obtain ⟨i, hi, rfl⟩ := hp
        rw [dif_pos hi]
        obtain ⟨g1, g2, _⟩ := Classical.choose_spec (each i hi)
        exact ⟨g1, g2⟩
theorem ts_of {H : Type} {enc : TypeId × Value → H} {W : World} {base fuel : Nat} {a : Option Addr} {len cap : Nat} {x : DataW H × List MemPlace} (h : DataW.trod enc Try.prog W base (fun _ => true) true fuel 43 (Value.slice a len cap).cells.toList = some x) : ∃ l, Tys W a len cap l ∧ ∀ p ∈ l, 0 ≤ p.t ∧ p.t < 256 := by
  have c2 : Try.prog.cellsOf 27 = 2 := by kernel_rfl
  rcases Deep.open_slice Try.underlying43 h with ⟨hcs, _⟩ | ⟨ad, l, c, m, n, D, Pl, hcs, hb, hl, hm, hmm, hx, hel⟩
  · simp [Value.cells] at hcs
    obtain ⟨rfl, rfl, rfl⟩ := hcs
    exact ⟨[], Tys.nought W, by simp⟩
  · simp [Value.cells] at hcs
    obtain ⟨rfl, rfl, rfl⟩ := hcs
    simp only [if_true] at hmm
    subst hmm
    have each : ∀ i, i < len → ∃ v : Ty, (0 ≤ v.t ∧ v.t < 256) ∧ ∀ j, j < 2 → W.cell? (ad.add (i * 2 + j)) = (tyC v)[j]? := by
      intro i hi
      obtain ⟨cs', h1, h2⟩ := hel i (by omega)
      rw [c2] at h1
      obtain ⟨_, hlen, hcell⟩ := World.cells?_some h1
      obtain ⟨t, un, e, hK⟩ := ty_of (cs := cs'.toArray) (by rw [c2]; simpa using hlen) (by simpa [Value.cells] using h2)
      refine ⟨⟨t, un⟩, hK, fun j hj => ?_⟩
      have := hcell j (by omega)
      rw [Addr.add_add] at this
      rw [this, show tyC ⟨t, un⟩ = cs'.toArray from e.symm]
      simp
    by_cases h0 : len = 0
    · subst h0
      unfold maxLen at hm
      exact ⟨[], ⟨rfl, hl, by omega, (fun e => by cases e), .inl rfl⟩, by simp⟩
    · obtain ⟨b, off, spot⟩ := ad
      have hspot : spot = none := by
        obtain ⟨p, _, k0⟩ := each 0 (by omega)
        have k1 := k0 0 (by decide)
        rw [tyc_at p (by decide)] at k1
        simpa [Addr.add] using World.cell?_spot k1
      subst hspot
      refine ⟨(List.range len).map fun i => if hi : i < len then Classical.choose (each i hi) else ty0, ⟨?_, hl, by unfold maxLen at hm; omega, (fun e => by cases e), .inr ⟨b, off, rfl, fun i p hi => ?_⟩⟩, fun p hp => ?_⟩
      · simp
      · have hil : i < len := by have := (List.getElem?_eq_some_iff.1 hi).1; simpa using this
        rw [List.getElem?_map, List.getElem?_range hil] at hi
        simp only [Option.map_some, Option.some.injEq, dif_pos hil] at hi
        subst hi
        obtain ⟨_, g⟩ := Classical.choose_spec (each i hil)
        intro j hj
        have := g j hj
        rw [Addr.add_lit] at this
        rw [← this, Nat.add_assoc]
      · simp only [List.mem_map, List.mem_range] at hp
        obtain ⟨i, hi, rfl⟩ := hp
        rw [dif_pos hi]
        obtain ⟨g1, _⟩ := Classical.choose_spec (each i hi)
        exact g1

end Go.Proofs.Ytfgghgoonfamkaa
