/-
  What triple and alike, methods of package deflate's finder, answer. They write nothing that was there. Conditions: the places lie within the bytes.
  What keep, drop and pass, methods of package deflate's finder, do: the places of three bytes grow by one; none is dropped, as there are at most 32,768 bytes.
  What piece, a method of package deflate's finder, answers: the piece at the place where the finder is. It writes nothing that was there. Conditions: at most 32,768 bytes.
  What size and Pieces, of package deflate, answer for any bytes: the pieces of these. They write nothing that was there. Conditions: at most 32,768 bytes.
-/
import Derived.Test.YtnoabdafmgmenaaGreatDoorMDef1
import Derived.BigRegion
import Derived.Test.YtnoabdafmgmenaaGreatDoorMMem
namespace Go.Proofs.YtnoabdafmgmenaaGreatDoor
open Go.RowKit
set_option linter.unusedVariables false
set_option linter.unusedSimpArgs false

theorem results_tri {fn : Func} {p q : Tmp} (h : fn.results = #[.cell p 157, .tmp q]) (tmps : Array Value) (w : World) (g : Nat) (v : Array Value) (hv : v.size = 3)
    (hp : tmps.getD p undef = .pointer (some ⟨g, 0, none⟩)) (hg : w.heap[g]? = some (.cells v 157 (0, 0))) :
    (results fn tmps).run Tryz.prog w = .ok (.tuple #[.agg v, tmps.getD q undef]) w := by
  have hp' : tmps[p]?.getD undef = .pointer (some ⟨g, 0, none⟩) := by simpa using hp
  have hl' := run_loadVar_row (P := Tryz.prog) w g _ 157 v (0, 0) _ hg Tryz.underlying157 rfl (by rw [hv]; kernel_rfl)
  simp [results, h, hp', asAddr, hl']

set_option maxHeartbeats 2000000 in
set_option maxRecDepth 20000 in
theorem triple_any (g : Nat) (w : World) (bo : Option Addr) (bn bc : Nat) (bs : List Int) (p : Nat) (c0 : w.cell? ⟨g, 0, none⟩ = some (.slice bo bn bc)) (hb : Bs w bo bn bc bs) (hn : bn ≤ 32768) (hp : p ≤ bn) :
    Calls Tryz.prog 113 #[.pointer (some ⟨g, 0, none⟩), .int .i64 (p : Int)] w fun e w' => e = .returned (triQ bs p) ∧ Below w.heap.size w w' := by
  have hlen := hb.len
  have hle := hb.le
  have hmx := hb.max
  have hg : g < w.heap.size := by
    unfold World.cell? at c0
    simp at c0
    cases h : w.heap[g]? with
    | none => simp [h] at c0
    | some o => exact (Array.getElem?_eq_some_iff.1 h).1
  by_cases h3 : p + 3 ≤ bn
  · have hq := hide (show triQ bs p = .tuple #[triV (bs[p]?.getD 0) (bs[p + 1]?.getD 0) (bs[p + 2]?.getD 0), .bool true] by unfold triQ; rw [if_pos (by omega)])
    obtain ⟨b0, o0, i0, k0⟩ := hb.idx (show p < bn by omega) (p : Int) rfl
    obtain ⟨b1, o1, i1, k1⟩ := hb.idx (show p + 1 < bn by omega) ((p : Int) + 1) (by omega)
    obtain ⟨b2, o2, i2, k2⟩ := hb.idx (show p + 2 < bn by omega) ((p : Int) + 2) (by omega)
    generalize bs[p]?.getD 0 = x0 at *
    generalize bs[p + 1]?.getD 0 = x1 at *
    generalize bs[p + 2]?.getD 0 = x2 at *
    have d0 := (cell_later (below_alloc w (.cells #[.int .u8 0, .int .u8 0, .int .u8 0] 157)) c0)
    have l0 := (cell_later (below_alloc w (.cells #[.int .u8 0, .int .u8 0, .int .u8 0] 157)) k0)
    have l1 := (cell_later (below_alloc w (.cells #[.int .u8 0, .int .u8 0, .int .u8 0] 157)) k1)
    have l2 := (cell_later (below_alloc w (.cells #[.int .u8 0, .int .u8 0, .int .u8 0] 157)) k2)
    have hlt : (3 : Int) ≤ (bn : Int) - (p : Int) := by omega
    have bl := hide (below_alloc w (.cells #[.int .u8 0, .int .u8 0, .int .u8 0] 157))
    clear hb k0 k1 k2 c0
    go_enter Tryz.func113, Tryz.ntmps113
    go_wp2_with fail
    go_region
    all_goals go_wp2_with fail
    all_goals refine bodyPost_ret (results_tri rfl _ _ w.heap.size #[.int .u8 x0, .int .u8 x1, .int .u8 x2] rfl rfl (heap_alloc_new w _)) rfl ?_
    all_goals rw [unhide hq]
    all_goals exact ⟨rfl, (below_alloc w _).trans ⟨rfl, rfl, rfl, Nat.le_refl _, fun _ _ => rfl⟩⟩
  · have hq := hide (show triQ bs p = .tuple #[triV 0 0 0, .bool false] by unfold triQ; rw [if_neg (by omega)])
    have d0 := (cell_later (below_alloc w (.cells #[.int .u8 0, .int .u8 0, .int .u8 0] 157)) c0)
    have hlt : (bn : Int) - (p : Int) < 3 := by omega
    go_enter Tryz.func113, Tryz.ntmps113
    go_wp2_with fail
    refine bodyPost_ret (results_tri rfl _ _ w.heap.size #[.int .u8 0, .int .u8 0, .int .u8 0] rfl rfl (heap_alloc_new w _)) rfl ?_
    rw [unhide hq]
    exact ⟨rfl, below_alloc w _⟩

theorem eqb_is (bs : List Int) (q A n : Nat) : eqb bs q A n = (bs[q + n]?.getD 0 == bs[A + n]?.getD 0) := by unfold eqb; rfl

set_option maxHeartbeats 2000000 in
set_option maxRecDepth 20000 in
theorem alike_any (g : Nat) (w : World) (bo : Option Addr) (bn bc : Nat) (bs : List Int) (A q s m : Nat) (c0 : w.cell? ⟨g, 0, none⟩ = some (.slice bo bn bc)) (c1 : w.cell? ⟨g, 1, none⟩ = some (.int .i64 (A : Int))) (hb : Bs w bo bn bc bs) (hn : bn ≤ 32768) (hq : q < A) (hA : A + m ≤ bn) (hs : s < m) :
    Calls Tryz.prog 114 #[.pointer (some ⟨g, 0, none⟩), .int .i64 (q : Int), .int .i64 (s : Int), .int .i64 (m : Int)] w fun e w' => e = .returned (.int .i64 (likeQ bs q A s m : Int)) ∧ ∃ k, w' = w.drewN k := by
  obtain ⟨b0, o0, i0, k0⟩ := hb.idx (show q + s < bn by omega) ((q : Int) + (s : Int)) (by omega)
  obtain ⟨b1, o1, i1, k1⟩ := hb.idx (show A + s < bn by omega) ((A : Int) + (s : Int)) (by omega)
  have HB := hide hb
  clear hb
  by_cases he : eqb bs q A s = true
  · have hr := hide (show likeQ bs q A s m = mtU (eqb bs q A) m 0 from if_pos he)
    have hne : (bs[q + s]?.getD 0 != bs[A + s]?.getD 0) = false := by rw [eqb_is] at he; simpa using he
    clear he
    generalize likeQ bs q A s m = R at *
    generalize bs[q + s]?.getD 0 = x0 at *
    generalize bs[A + s]?.getD 0 = x1 at *
    go_enter Tryz.func114, Tryz.ntmps114
    go_wp2_with fail
    go_quiet (fail)
    go_wp2_with fail
    clear i0 i1 k0 k1
    go_loopw [9] (fun i wr => ∃ k j : Nat, k ≤ m ∧ i = .int .i64 (k : Int) ∧ R = mtU (eqb bs q A) (m - k) k ∧ wr = w.drewN j) (fun i _ => m - (intOf i).toNat)
    case atStart => exact ⟨0, _, by omega, rfl, unhide hr, rfl⟩
    case round =>
      obtain ⟨k, j, hk, rfl, hR, rfl⟩ := hrel
      have HR := hide hR
      clear hR hr
      by_cases hlt : k < m
      · have hlt' : (k : Int) < (m : Int) := by omega
        obtain ⟨b0, o0, i0, k0⟩ := (unhide HB).idx (show q + k < bn by omega) ((q : Int) + (k : Int)) (by omega)
        obtain ⟨b1, o1, i1, k1⟩ := (unhide HB).idx (show A + k < bn by omega) ((A : Int) + (k : Int)) (by omega)
        obtain ⟨f, hf⟩ : ∃ f, m - k = f + 1 := ⟨m - k - 1, by omega⟩
        by_cases he : eqb bs q A k = true
        · have hnx := hide (show R = mtU (eqb bs q A) (m - (k + 1)) (k + 1) by rw [unhide HR, hf, show m - (k + 1) = f by omega]; simp only [mtU]; rw [if_pos he])
          have heq : (bs[q + k]?.getD 0 == bs[A + k]?.getD 0) = true := by rw [eqb_is] at he; exact he
          clear he hf
          generalize bs[q + k]?.getD 0 = y0 at *
          generalize bs[A + k]?.getD 0 = y1 at *
          go_wp2_with fail
          go_quiet (fail)
          go_wp2_with fail
          go_roundw
          case rel => exact ⟨k + 1, _, by omega, by go_num, unhide hnx, rfl⟩
          case measure => simp [intOf]; omega
        · have hnx := hide (show R = k by rw [unhide HR, hf]; simp only [mtU]; rw [if_neg he])
          have heq : (bs[q + k]?.getD 0 == bs[A + k]?.getD 0) = false := by rw [eqb_is] at he; simpa using he
          clear he hf
          generalize bs[q + k]?.getD 0 = y0 at *
          generalize bs[A + k]?.getD 0 = y1 at *
          go_wp2_with fail
          go_quiet (fail)
          go_wp2_with fail
          go_ret
          rw [unhide hnx]
          exact ⟨rfl, _, World.drewN_drewN _ _ _⟩
      · have hd : decide ((k : Int) < (m : Int)) = false := by simp; omega
        have hnx := hide (show R = k by rw [unhide HR, show m - k = 0 by omega]; rfl)
        have HD := hide hd
        clear hd
        go_wp2_with fail
        have hd := unhide HD
        go_quiet (fail)
        go_wp2_with fail
        go_ret
        rw [unhide hnx]
        exact ⟨rfl, _, World.drewN_drewN _ _ _⟩
  · have hr := hide (show likeQ bs q A s m = 0 from if_neg he)
    have hne : (bs[q + s]?.getD 0 != bs[A + s]?.getD 0) = true := by rw [eqb_is] at he; simpa using he
    clear he
    generalize bs[q + s]?.getD 0 = x0 at *
    generalize bs[A + s]?.getD 0 = x1 at *
    go_enter Tryz.func114, Tryz.ntmps114
    go_wp2_with fail
    go_quiet (fail)
    go_wp2_with fail
    go_ret
    rw [unhide hr]
    exact ⟨rfl, _, rfl⟩
end Go.Proofs.YtnoabdafmgmenaaGreatDoor

namespace Go.Proofs.YtnoabdafmgmenaaGreatDoor
open Go.RowKit Go.Maps
set_option linter.unusedVariables false
set_option linter.unusedSimpArgs false

section
variable {E : Fv} {No : Nat → Prop} {g B base : Nat} {w : World} {A M : Nat}

theorem groups_mono {w : World} {k : TypeId} {base : Nat} {e : TypeId} {q : IntKind} {b n n' : Nat} {D : DataW Unit} (h : w.ownsGroups Tryz.prog k base e q b n D) (hn : n ≤ n') : w.ownsGroups Tryz.prog k base e q b n' D := by
  obtain ⟨es, clock, hb, F, hs, hD, hbb, hlen, hap⟩ := h
  exact ⟨es, clock, hb, F, by omega, hD, hbb, fun x hx zs ho => by have := hlen x hx zs ho; omega, hap⟩
/-- There are no three bytes at the place M. -/
theorem Grp.skip (h : Grp E B base w M) (hM : ¬ M + 3 ≤ E.bs.length) : Grp E B base w (M + 1) := by
  obtain ⟨D, ho, hr⟩ := h
  refine ⟨D, groups_mono ho (by omega), fun a b c kl hk => ?_⟩
  rw [hr a b c kl hk, plc_succ]
  have : hasT E.bs a b c M = false := by simp [hasT, hM]
  rw [if_neg (by simp [this]), List.append_nil]

/-- 'f.places[t] = append(f.places[t], A)': the entry, and the store at it. -/
theorem Fn.entry (h : Fn E No g B base w A A) (h3 : A + 3 ≤ E.bn) {a b c : Int} (ha : a = E.bs[A]?.getD 0) (hb : b = E.bs[A + 1]?.getD 0) (hc : c = E.bs[A + 2]?.getD 0) :
    ∃ v zs sv m, (Instr.mapEntry 136 (.map (some B)) (.agg #[.int .u8 a, .int .u8 b, .int .u8 c])).run Tryz.prog w = .ok (.tuple #[v, sv]) m ∧ zs.length ≤ 32768 ∧ w.grownBy m (some B) ∧ m.heap.size = w.heap.size ∧ base ≤ w.heap.size ∧ m.ownsInts base 3 .i64 v zs ∧
      ∀ (w1 : World) (v' : Value), m.grownBy w1 v.ownBlock → w1.ownsInts base 3 .i64 v' (zs ++ [(A : Int)]) → (v'.ownBlock = v.ownBlock ∨ ∃ q, v'.ownBlock = some q ∧ m.heap.size ≤ q) →
        ∃ w2, (Instr.entryStore 136 (.map (some B)) sv v').run Tryz.prog w1 = .ok () w2 ∧ Fn E No g B base w2 A (A + 1) ∧ Pf No g B base w w2 := by
  obtain ⟨D, ho, hr⟩ := h.own
  have hby := h.bs.byt
  have hbl := h.bl
  have hbn := h.bn
  obtain ⟨kl, hkl⟩ := triKey (a := a) (b := b) (c := c) (by rw [ha]; exact hby.at A) (by rw [hb]; exact hby.at (A + 1)) (by rw [hc]; exact hby.at (A + 2))
  obtain ⟨v, zs, st, m, hme, hat, hzl, hgm, hms, hmo, hsv, hback⟩ := groups_entry triLaw Tryz.underlying136 zeroInts ho (by unfold maxLen; omega) hkl
  have hzs : zs = nI (plc E.bs a b c A) := rowD_is hmo ((hr a b c kl hkl).symm.trans hat)
  have hT : hasT E.bs a b c A = true := by simp [hasT, hbl, h3, ha, hb, hc]
  have hnx : nI (plc E.bs a b c (A + 1)) = zs ++ [(A : Int)] := by rw [plc_succ, if_pos hT, nI_app, hzs]; rfl
  have hM : IsMap D := by obtain ⟨es, clock, _, _, _, rfl, _⟩ := ho; exact ⟨_, rfl⟩
  refine ⟨v, zs, goInt st, m, hme, by omega, hgm, hms, h.bw, hmo, ?_⟩
  intro w1 v' hg hown' hloc
  obtain ⟨w2, hrun, hG, hg2, hsh⟩ := hback w1 v' (zs ++ [(A : Int)]) hg hown' (by simp; omega) hloc
  have same : ∀ k, k < w.heap.size → k ≠ B → (k < base ∨ No k) → w2.heap[k]? = w.heap[k]? := by
    intro k hk hkB hkn
    have h1 : k < m.heap.size := by omega
    have h2 := Nat.lt_of_lt_of_le h1 hg.size
    rw [hg2.block k h2 (fun e => hkB (Option.some.inj e)), hg.block k h1 (fun e => ?_), hgm.block k hk (fun e => hkB (Option.some.inj e))]
    rcases hkn with q | q
    · have := (hmo.1.lt k e.symm).1
      omega
    · exact hsv No h.sh k e.symm q
  have pf : Pf No g B base w w2 := ⟨hg2.os.trans (hg.os.trans hgm.os), hg2.tape.trans (hg.tape.trans hgm.tape), hg2.output.trans (hg.output.trans hgm.output), by have := hg.size; have := hg2.size; omega, fun k hk _ h2 h3 => same k hk h2 h3⟩
  refine ⟨w2, hrun, ⟨?_, ?_, ?_, h.ng, fun k hk => Nat.lt_of_lt_of_le (h.lt k hk) pf.size, h.gB, fun w3 f => h.b w3 ((pf.below h.lo.1 h.lo.2.1 h.lo.2.2 h.los).trans f), h.lo, Nat.le_trans h.bw pf.size, h.bn, h.bl, h.A, by omega⟩, pf⟩
  · rw [same g h.glt h.gB (.inr h.ng)]
    exact h.st
  · refine ⟨_, hG, fun a' b' c' kl' hk' => ?_⟩
    by_cases hkk : kl' = kl
    · subst hkk
      obtain ⟨rfl, rfl, rfl⟩ := triV_inj (triLaw.inj hk' hkl)
      rw [atKey_put_same hM (triKeyed.key hkl), hnx]
      exact rowD_put hown' (by simp)
    · rw [atKey_put_other hkk, hr a' b' c' kl' hk', plc_succ]
      have : ¬ hasT E.bs a' b' c' A = true := fun q => by
        unfold hasT at q
        simp at q
        obtain ⟨_, q1, q2, q3⟩ := q
        refine hkk ?_
        rw [← q1, ← q2, ← q3, ← ha, ← hb, ← hc, hkl] at hk'
        exact (Option.some.inj hk').symm
      rw [if_neg this, List.append_nil]
  · refine hsh No h.sh fun q hq hN => ?_
    rcases hloc with e | ⟨q', e, hge⟩
    · exact hsv No h.sh q (by rw [← e]; exact hq) hN
    · rw [e] at hq
      cases hq
      have := h.lt q hN
      omega

/-- 'append(v, x)' of ints at a step of a region that draws its order. -/
theorem step_iappV {ops : Array Oper} {o : Oper} {a : Act} {w : World} {K : Act → World → Prop} {Q : Exit → Act → World → Prop} {G : Prop} (hgd : o.guard = none) (s x : Operand)
    (ho : o.op = .call { callee := .builtin .append, args := #[s, x], argTypes := #[96, 96] })
    (base : Nat) (v : Value) (zs : List Int) (hs : a.eval s = v) (hm : w.ownsInts base 3 .i64 v zs)
    (ad : Addr) (X : Int) (hx : a.eval x = .slice (some ad) 1 1) (hb : Is w (some ad) 1 1 [X]) (hbound : zs.length ≤ 1000000) (hB : base ≤ w.heap.size)
    (h : ∀ v' w1, w1.ownsInts base 3 .i64 v' (zs ++ [X]) → w.grownBy w1 v.ownBlock → (v'.ownBlock = v.ownBlock ∨ v'.ownBlock = some w.heap.size) → K (a.put o.dst v') w1) :
    if Region.wanted o (yielded ops a.tmps) = true then Oper.wp Tryz.prog o a w K Q else G := by
  have hw : Region.wanted o (yielded ops a.tmps) = true := by simp [Region.wanted, hgd]
  rw [if_pos hw]
  obtain ⟨i0, hi, hz0, hz1, hz2⟩ := info_parts Tryz.infoInt
  obtain ⟨v', w', hr, hown, hgrow, _, hsrc⟩ := run_append_own_at (P := Tryz.prog) w base 96 o.type 3 i0 (.int .i64 0) 1 8 Tryz.underlying96 hi hz0 hz1 hz2 rfl (by decide) _ _ _ hm.1 ad 1 1 [.int .i64 X] rfl (by simpa using hb.news) (ints_oneCell .i64 [X]) (by unfold maxLen; omega) (by omega) hB
  have hfit := hb.fit X (by simp)
  unfold Oper.wp execOp
  simp only [ho, resolve, invoke, builtin, Sem.run_bind, Sem.run_pure, Result.andThen_ok, List.map_toArray, List.map_cons, List.map_nil, hs, hx, hr]
  exact h v' w' (hm.appended hown (WalkArith.wf_i64 hfit)) hgrow hsrc

theorem Fn.drew (h : Fn E No g B base w A M) : Fn E No g B base w.drew A M := h.later ⟨rfl, rfl, rfl, Nat.le_refl _, fun _ _ => rfl⟩
theorem Pf.drew {w w' : World} (h : Pf No g B base w w') : Pf No g B base w w'.drew := ⟨h.os, h.tape, h.output, h.size, h.block⟩

set_option maxHeartbeats 4000000 in
set_option maxRecDepth 20000 in
theorem keep_any (w : World) (h : Fn E No g B base w A A) (hA : A < E.bn) :
    Calls Tryz.prog 115 #[.pointer (some ⟨g, 0, none⟩), .int .i64 (A : Int)] w fun e w' => e = .returned (.tuple #[]) ∧ Fn E No g B base w' A (A + 1) ∧ Pf No g B base w w' := by
  have tc := hide (triple_any g w E.bo E.bn E.bc E.bs A h.c0 h.bs h.bn h.A)
  have hbn := h.bn
  have H := hide h
  by_cases h3 : A + 3 ≤ E.bn
  · have hq : triQ E.bs A = .tuple #[triV (E.bs[A]?.getD 0) (E.bs[A + 1]?.getD 0) (E.bs[A + 2]?.getD 0), .bool true] := by unfold triQ; rw [h.bl, if_pos h3]
    rw [hq] at tc
    obtain ⟨x0, e0⟩ : ∃ x, x = E.bs[A]?.getD 0 := ⟨_, rfl⟩
    obtain ⟨x1, e1⟩ : ∃ x, x = E.bs[A + 1]?.getD 0 := ⟨_, rfl⟩
    obtain ⟨x2, e2⟩ : ∃ x, x = E.bs[A + 2]?.getD 0 := ⟨_, rfl⟩
    rw [← e0, ← e1, ← e2] at tc
    have E0 := hide (And.intro e0 (And.intro e1 e2))
    unfold triV at tc
    clear hq e0 e1 e2 h
    go_enter Tryz.func115, Tryz.ntmps115
    go_wp2_with fail
    refine (unhide tc).mono ?_
    rintro e w1 ⟨rfl, b1⟩
    have z1 := b1.size
    go_wp2_with fail
    obtain ⟨w2, hw2⟩ : ∃ w2, w2 = w1.alloc (Obj.cells #[.int .u8 x0, .int .u8 x1, .int .u8 x2] 157) := ⟨_, rfl⟩
    rw [← hw2]
    have b2 : Below w1.heap.size w1 w2 := by rw [hw2]; exact below_alloc w1 _
    have k0 : w2.cell? ⟨w1.heap.size, 0, none⟩ = some (.int .u8 x0) := by rw [hw2]; exact cell_top w1 _ _ 0 _ rfl
    have k1 : w2.cell? ⟨w1.heap.size, 1, none⟩ = some (.int .u8 x1) := by rw [hw2]; exact cell_top w1 _ _ 1 _ rfl
    have k2 : w2.cell? ⟨w1.heap.size, 2, none⟩ = some (.int .u8 x2) := by rw [hw2]; exact cell_top w1 _ _ 2 _ rfl
    clear hw2
    have h2 := ((unhide H).later b1).later b2
    have c2 := h2.c2
    have hgl := h2.glt
    have b3 := below_alloc w2 (.cells #[.int .i64 (A : Int)] 3)
    have h4 := (h2.later b3).drew
    have hBl : B < w2.heap.size := h2.own.lt
    have l0 := cell_later b3 k0
    have l1 := cell_later b3 k1
    have l2 := cell_later b3 k2
    have c2' := cell_later b3 c2
    obtain ⟨v, zs, sv, m, hme, hzl, hgm, hms, hbw, hmo, hst⟩ := h4.entry h3 (unhide E0).1 (unhide E0).2.1 (unhide E0).2.2
    have ione : Is m (some ⟨w2.heap.size, 0, none⟩) 1 1 [(A : Int)] := by
      have i1 := Is.one w2 (A : Int) (by omega) (by omega)
      refine ⟨rfl, Nat.le_refl _, by omega, (fun e => by cases e), i1.fit, .inr ⟨w2.heap.size, 0, rfl, fun i hi => ?_⟩⟩
      rcases i1.at' with q | ⟨b', o', e', c'⟩
      · omega
      · simp only [Option.some.injEq, Addr.mk.injEq, and_true] at e'
        obtain ⟨rfl, rfl⟩ := e'
        rw [← c' i hi]
        exact World.cell?_of_block (a := ⟨w2.heap.size, 0 + i, none⟩) (hgm.block w2.heap.size (by simp) (fun q => by cases q; omega))
    have pf2 := hide (Pf.of (No := No) (g := g) (B := B) (base := base) (b1.trans (b2.mono z1)))
    have pf3 := hide (Pf.of (No := No) (g := g) (B := B) (base := base) b3).drew
    have IO := hide ione
    have HMO := hide hmo
    have HST := hide hst
    have hm1 : base ≤ m.heap.size := by rw [hms]; exact hbw
    have hm2 := hide hms
    clear h2 h4 b3 ione hmo hst hgm hms hbw b1 b2 z1
    go_region_law (refine step_iappV rfl (.tmp 18) (.tmp 20) rfl base v zs (by simp [Act.eval, Act.put]) (unhide HMO) ⟨w2.heap.size, 0, none⟩ (A : Int) (by simp [Act.eval, Act.put]) (unhide IO) (by omega) hm1 ?_; intro v3 w3 o3 g3 l3; obtain ⟨w4, hes, F4, P4⟩ := (unhide HST) w3 v3 g3 o3 (l3.imp id (fun q => ⟨_, q, Nat.le_refl _⟩)))
    all_goals have F4' := hide F4
    all_goals have P4' := hide P4
    all_goals clear F4 P4 o3 g3 l3
    all_goals go_wp2_with fail
    all_goals go_end0
    all_goals exact ⟨rfl, unhide F4', ((unhide pf2).trans (unhide pf3)).trans (unhide P4')⟩
  · have hq : triQ E.bs A = .tuple #[triV 0 0 0, .bool false] := by unfold triQ; rw [h.bl, if_neg h3]
    rw [hq] at tc
    unfold triV at tc
    clear hq h
    go_enter Tryz.func115, Tryz.ntmps115
    go_wp2_with fail
    refine (unhide tc).mono ?_
    rintro e w1 ⟨rfl, b1⟩
    go_wp2_with fail
    go_end0
    have bb := b1.trans ((below_alloc w1 (.cells #[.int .u8 0, .int .u8 0, .int .u8 0] 157)).mono b1.size)
    have h2 := (unhide H).later bb
    exact ⟨rfl, ⟨h2.st, h2.own.skip (by rw [h2.bl]; exact h3), h2.sh, h2.ng, h2.lt, h2.gB, h2.b, h2.lo, h2.bw, h2.bn, h2.bl, h2.A, by omega⟩, Pf.of bb⟩

set_option maxHeartbeats 1000000 in
theorem drop_any (w : World) (g : Nat) (x : Int) (hx : x < 0) :
    Calls Tryz.prog 116 #[.pointer (some ⟨g, 0, none⟩), .int .i64 x] w fun e w' => e = .returned (.tuple #[]) ∧ w' = w := by
  go_enter Tryz.func116, Tryz.ntmps116
  go_wp2_with fail
  refine bodyPost_ret (results_none rfl _ _ _) rfl ?_
  exact ⟨rfl, rfl⟩

set_option maxHeartbeats 2000000 in
theorem pass_any (w : World) (n : Nat) (h : Fn E No g B base w A A) (hn : A + n ≤ E.bn) :
    Calls Tryz.prog 92 #[.pointer (some ⟨g, 0, none⟩), .int .i64 (n : Int)] w fun e w' => e = .returned (.tuple #[]) ∧ Fn E No g B base w' (A + n) (A + n) ∧ Pf No g B base w w' := by
  have hbn := h.bn
  have H := hide h
  clear h
  go_enter Tryz.func92, Tryz.ntmps92
  go_wp2_with fail
  go_loopw [5] (fun i wr => ∃ k : Nat, k ≤ n ∧ i = .int .i64 (k : Int) ∧ Fn E No g B base wr (A + k) (A + k) ∧ Pf No g B base w wr) (fun i _ => n - (intOf i).toNat)
  case atStart => exact ⟨0, by omega, rfl, unhide H, Pf.refl⟩
  case round =>
    obtain ⟨k, hk, rfl, hf, hpf⟩ := hrel
    by_cases hlt : k < n
    · have hlt' : (k : Int) < (n : Int) := by omega
      have c1 := hf.c1
      have kc := hide (keep_any wr hf (by omega))
      have HPF := hide hpf
      clear hf hpf
      obtain ⟨K, hK⟩ : ∃ K : Nat, K = A + k := ⟨_, rfl⟩
      rw [← hK] at kc c1
      have HK := hide hK
      clear hK
      have hKn : K + 1 ≤ E.bn := by have := unhide HK; omega
      go_wp2_with fail
      refine (unhide kc).mono ?_
      rintro e w1 ⟨rfl, f1, p1⟩
      have d1 := f1.c1
      have fr := f1.free 1
      have e1 := f1.putA (K + 1) ((K : Int) + 1) (by omega) (by omega)
      have d2 := e1.1.c1
      have E1 := hide e1
      have P1 := hide p1
      clear e1 f1 p1
      go_wp2_with fail
      refine same_world (drop_any _ g _ (by omega)) ?_
      go_wp2_with fail
      go_roundw
      case rel => exact ⟨k + 1, by omega, by go_num, by rw [show A + (k + 1) = K + 1 by have := unhide HK; omega]; exact (unhide E1).1, (unhide HPF).trans ((unhide P1).trans (unhide E1).2)⟩
      case measure => simp [intOf]; omega
    · have hkn : k = n := by omega
      subst hkn
      go_wp2_with fail
      go_end0
      exact ⟨rfl, hf, hpf⟩
end
end Go.Proofs.YtnoabdafmgmenaaGreatDoor

namespace Go.Proofs.YtnoabdafmgmenaaGreatDoor
open Go.RowKit Go.Maps Go.MapKept
open Go.WideElems (Fit rd rg pl rd_val)
set_option linter.unusedVariables false
set_option linter.unusedSimpArgs false

/-- 'f.places[t]': the value is the same as long as the map is. -/
theorem groups_look {w : World} {base : Nat} {B n : Nat} {D : DataW Unit} (h : w.ownsGroups Tryz.prog 157 base 3 .i64 B n D) {key : Value} {kl : Lit} (hkey : keyOf Tryz.prog 157 key = some kl) :
    ∃ v zs, (∀ w' : World, w'.heap[B]? = w.heap[B]? → (Instr.lookup 136 (.map (some B)) key false).run Tryz.prog w' = .ok v w') ∧ D.atKey kl .nil = rowDatum .i64 v zs ∧ w.ownsInts base 3 .i64 v zs := by
  obtain ⟨es, clock, hb, F, hs, rfl, hbb, hlen, hap⟩ := h
  rcases Maps.fit_look false triKeyed Tryz.underlying136 (zeroInts w) hb F hkey with ⟨_, hno, hat⟩ | ⟨e0, y, hm0, h3, _, hR, hat, _⟩
  · refine ⟨.slice none 0 0, [], fun w' hw' => ?_, hat _, World.ownsInts_nil _ _ _ _⟩
    rcases Maps.fit_look false triKeyed Tryz.underlying136 (zeroInts w') (hw'.trans hb) F hkey with ⟨hrun, _, _⟩ | ⟨e1, _, hm1, h31, _⟩
    · exact hrun
    · exact absurd h31 (hno e1 hm1)
  · obtain ⟨zs, ho, rfl⟩ := rowElem_inv hR
    refine ⟨e0.val, zs, fun w' hw' => ?_, hat _, ho⟩
    rcases Maps.fit_look false triKeyed Tryz.underlying136 (zeroInts w') (hw'.trans hb) F hkey with ⟨_, hno, _⟩ | ⟨e1, _, hm1, h31, hrun, _⟩
    · exact absurd h3 (hno e0 hm0)
    · have : e1 = e0 := by
        obtain ⟨i, hi, ex⟩ := List.getElem_of_mem hm0
        obtain ⟨i', hi', ex'⟩ := List.getElem_of_mem hm1
        by_cases hij : i' = i
        · subst hij; rw [← ex, ← ex']
        · exfalso
          exact WideElems.other_key F (show es.toList[i]? = some e0 by rw [List.getElem?_eq_getElem hi, ex]) (show es.toList[i']? = some e1 by rw [List.getElem?_eq_getElem hi', ex']) hij (by rw [h31, h3])
      rw [this] at hrun
      exact hrun

theorem ints_is {w : World} {base : Nat} {v : Value} {zs : List Int} (h : w.ownsInts base 3 .i64 v zs) : ∃ ao c, v = .slice ao zs.length c ∧ Is w ao zs.length c zs := by
  have hfit : I64 zs := fun x hx => bounds_i64 (h.2 x hx)
  rcases h.1.2 with ⟨hv, h0⟩ | ⟨g, cap, cur, hv, hg⟩
  · exact ⟨none, 0, by rw [hv, h0], by have := List.eq_nil_of_length_eq_zero h0; subst this; exact Is.nought w⟩
  · subst hv
    exact ⟨some ⟨g, 0, none⟩, cap, rfl, IMine.is (B := base) ⟨rfl, h.1, hfit⟩⟩

section
variable {E : Fv} {No : Nat → Prop} {g B base : Nat} {w : World} {A M : Nat}

theorem like_gt (bs : List Int) (q A n : Nat) (hn : n < mst bs A) : (n < likeQ bs q A n (mst bs A) ↔ n < mt bs A q) ∧ (n < mt bs A q → likeQ bs q A n (mst bs A) = mt bs A q) := by
  unfold likeQ
  by_cases he : eqb bs q A n = true
  · rw [if_pos he]
    exact ⟨Iff.rfl, fun _ => rfl⟩
  · rw [if_neg he]
    have : ¬ n < mt bs A q := fun h => he (by have := mt_same bs A q h; simpa [eqb] using this)
    exact ⟨⟨fun h => by omega, fun h => absurd h this⟩, fun h => absurd h this⟩

/-- What the places of the three bytes at A say is the best copy. -/
theorem pick_places (bs : List Int) (A : Nat) (h3 : A + 3 ≤ bs.length) : pcOf bs A (pick (mt bs A) (plc bs (bs[A]?.getD 0) (bs[A + 1]?.getD 0) (bs[A + 2]?.getD 0) A) (0, 0)) = pce bs A := by
  have hm : 3 ≤ mst bs A := by unfold mst; omega
  have hP : ∀ q, q < A → (hasT bs (bs[A]?.getD 0) (bs[A + 1]?.getD 0) (bs[A + 2]?.getD 0) q = true ↔ 3 ≤ mt bs A q) := by
    intro q hq
    constructor
    · intro h
      unfold hasT at h
      simp at h
      refine mt_more bs A q 3 hm fun j hj => ?_
      have : j = 0 ∨ j = 1 ∨ j = 2 := by omega
      rcases this with rfl | rfl | rfl
      · simpa using h.2.1
      · simpa using h.2.2.1
      · simpa using h.2.2.2
    · intro h
      have e0 := mt_same bs A q (j := 0) (by omega)
      have e1 := mt_same bs A q (j := 1) (by omega)
      have e2 := mt_same bs A q (j := 2) (by omega)
      unfold hasT
      rw [Nat.add_zero, Nat.add_zero] at e0
      simp [e0, e1, e2]
      omega
  have key := pick_filter (mt bs A) (hasT bs (bs[A]?.getD 0) (bs[A + 1]?.getD 0) (bs[A + 2]?.getD 0)) A (0, 0) (0, 0) hP (.inr ⟨rfl, by simp⟩)
  unfold plc pce bst
  rcases key with ⟨k1, k2⟩ | ⟨k1, k2⟩
  · rw [if_pos k2, k1]
  · rw [if_neg (by omega), k1]
theorem pce_short (bs : List Int) (A : Nat) (h3 : ¬ A + 3 ≤ bs.length) : pce bs A = ⟨0, 0, bs[A]?.getD 0⟩ := by
  refine (pce_byte bs A fun h => ?_).1
  obtain ⟨n, q, _, _, h1, _, h2, _⟩ := pce_copy bs A h
  omega
theorem pcOf_l (bs : List Int) (A : Nat) (r : Nat × Nat) : (pcOf bs A r).l = (r.1 : Int) := by
  unfold pcOf
  split
  · rename_i h; rw [h]; rfl
  · rfl
theorem pcOf_new (bs : List Int) (A n q : Nat) (h : n ≠ 0) : pcOf bs A (n, q) = ⟨(n : Int), (A : Int) - (q : Int), 0⟩ := if_neg h

set_option maxHeartbeats 4000000 in
set_option maxRecDepth 20000 in
theorem piece_any (w : World) (h : Fn E No g B base w A A) (hA : A < E.bn) :
    Calls Tryz.prog 91 #[.pointer (some ⟨g, 0, none⟩)] w fun e w' => e = .returned (.agg (pv (pce E.bs A))) ∧ Below w.heap.size w w' := by
  have hbn := h.bn
  have hbl := h.bl
  have hle := h.bs.le
  have hmx := h.bs.max
  have hgl := h.glt
  have H := hide h
  obtain ⟨R, hR⟩ : ∃ R, R = pce E.bs A := ⟨_, rfl⟩
  rw [← hR]
  have HR := hide hR
  clear hR
  obtain ⟨bb, oo, hix, hcx⟩ := h.bs.idx (show A < E.bn by omega) (A : Int) rfl
  have b0 := below_alloc w (.cells (pv ⟨0, 0, 0⟩) 132)
  have c0 := h.c0
  have c1 := h.c1
  obtain ⟨V, hV⟩ : ∃ V, V = E.bs[A]?.getD 0 := ⟨_, rfl⟩
  rw [← hV] at hcx
  have HV := hide hV
  clear h hV
  go_enter Tryz.func91, Tryz.ntmps91
  go_wp2_with (with_reducible show wpList Tryz.prog _ _ (Oper.mk _ (Op.alloc 132) _ _ _ none :: _) _ _; refine wpList_pcAlloc rfl rfl ?_; intro w1 p1 b1 s1; have c0' := cell_later b1 c0; have c1' := cell_later b1 c1; have hcx' := cell_later b1 hcx)
  go_frame
  have b2 := below_alloc w1 (.cells (pv ⟨0, 0, 0⟩) 132)
  have c0'' := cell_later b2 c0'
  have c1'' := cell_later b2 c1'
  have hcx'' := cell_later b2 hcx'
  simp only [pv] at c0'' c1'' hcx''
  go_region
  obtain ⟨w2, hw2⟩ : ∃ w2, w2 = (w1.alloc (Obj.cells #[.int .i64 0, .int .i64 0, .int .u8 V] 132)).drew := ⟨_, rfl⟩
  rw [← hw2]
  have b12 : Below w1.heap.size w1 w2 := by rw [hw2]; exact (below_alloc w1 _).trans ⟨rfl, rfl, rfl, Nat.le_refl _, fun _ _ => rfl⟩
  have p2 : Px w2 (w.heap.size + 1) ⟨0, 0, V⟩ := by rw [hw2, ← s1]; exact heap_alloc_new w1 _
  have q2 : Px w2 w.heap.size ⟨0, 0, 0⟩ := p1.later b12
  have bw2 : Below w.heap.size w w2 := b1.trans (b12.mono (by omega))
  have h2 := (unhide H).later bw2
  have c1 := h2.c1
  have tc := hide (triple_any g w2 E.bo E.bn E.bc E.bs A h2.c0 h2.bs h2.bn h2.A)
  have H2 := hide h2
  clear hw2 b12 p1 b1 s1 b2 b0 c0 c0' c0'' c1' c1'' hcx hcx' hcx'' hix h2
  by_cases h3 : A + 3 ≤ E.bn
  · have hq : triQ E.bs A = .tuple #[triV (E.bs[A]?.getD 0) (E.bs[A + 1]?.getD 0) (E.bs[A + 2]?.getD 0), .bool true] := by unfold triQ; rw [hbl, if_pos h3]
    rw [hq] at tc
    have hpk := hide (pick_places E.bs A (by omega))
    have hP := hide (show ∀ q ∈ plc E.bs (E.bs[A]?.getD 0) (E.bs[A + 1]?.getD 0) (E.bs[A + 2]?.getD 0) A, q < A from fun q hq => (plc_lt hq).1)
    have hk := hide (triKey ((unhide H).bs.byt.at A) ((unhide H).bs.byt.at (A + 1)) ((unhide H).bs.byt.at (A + 2)))
    have hpz := hide (show pcOf E.bs A (0, 0) = ⟨0, 0, V⟩ by rw [unhide HV]; rfl)
    unfold triV at tc hk
    generalize E.bs[A]?.getD 0 = x0 at *
    generalize E.bs[A + 1]?.getD 0 = x1 at *
    generalize E.bs[A + 2]?.getD 0 = x2 at *
    clear hq
    go_wp2_with fail
    refine (unhide tc).mono ?_
    rintro e w3 ⟨rfl, b3⟩
    go_wp2_with fail
    obtain ⟨w4, hw4⟩ : ∃ w4, w4 = w3.alloc (Obj.cells #[.int .u8 x0, .int .u8 x1, .int .u8 x2] 157) := ⟨_, rfl⟩
    rw [← hw4]
    have b34 : Below w3.heap.size w3 w4 := by rw [hw4]; exact below_alloc w3 _
    have k0 : w4.cell? ⟨w3.heap.size, 0, none⟩ = some (.int .u8 x0) := by rw [hw4]; exact cell_top w3 _ _ 0 _ rfl
    have k1 : w4.cell? ⟨w3.heap.size, 1, none⟩ = some (.int .u8 x1) := by rw [hw4]; exact cell_top w3 _ _ 1 _ rfl
    have k2 : w4.cell? ⟨w3.heap.size, 2, none⟩ = some (.int .u8 x2) := by rw [hw4]; exact cell_top w3 _ _ 2 _ rfl
    have b24 : Below w2.heap.size w2 w4 := b3.trans (b34.mono b3.size)
    have p4 := p2.later b24
    have q4 := q2.later b24
    have h4 := (unhide H2).later b24
    have bw4 : Below w.heap.size w w4 := bw2.trans (b24.mono bw2.size)
    clear hw4 b34 b3 p2 q2 b24 bw2 c1
    have c2 := h4.c2
    have c0 := h4.c0
    have c1 := h4.c1
    obtain ⟨kl, hkl⟩ := unhide hk
    obtain ⟨D, hoD, hrD⟩ := (unhide H).own
    obtain ⟨v, zs, hlk, hat, hoi⟩ := groups_look hoD hkl
    have hzs : zs = nI (plc E.bs x0 x1 x2 A) := rowD_is hoi ((hrD x0 x1 x2 kl hkl).symm.trans hat)
    have hlook := fun j => hlk (w4.drewN j) (bw4.block B (unhide H).own.lt)
    obtain ⟨ao, c, rfl, his⟩ := ints_is hoi
    obtain ⟨P, hPl⟩ : ∃ P, P = plc E.bs x0 x1 x2 A := ⟨_, rfl⟩
    rw [← hPl] at hzs hpk hP
    have HZ := hide hzs
    have hzl : zs.length ≤ A := by rw [hzs, nI_len, hPl]; exact plc_len _ _ _ _ _
    have hzP := hide (show P.length = zs.length by rw [hzs, nI_len])
    have hic := his.le
    have him := his.max
    have IS := hide his
    have H4 := hide h4
    have BW4 := hide bw4
    have P4 := hide p4
    have Q4 := hide q4
    clear hrD hat hoi hoD hkl hk h4 bw4 p4 q4 hzs his H2 tc hPl hlk
    go_quiet (fail)
    go_wp2_with fail
    go_region
    obtain ⟨m, hm⟩ : ∃ m, m = mst E.bs A := ⟨_, rfl⟩
    have hmb : m ≤ 258 ∧ A + m ≤ E.bn := by rw [hm]; unfold mst; omega
    rw [show (if (E.bn : Int) - (A : Int) < 258 then (E.bn : Int) - (A : Int) else 258) = (m : Int) by rw [hm]; unfold mst; split <;> omega]
    have HM := hide hm
    obtain ⟨w5, hw5⟩ : ∃ w5, w5 = w4.drewN (nq + 1) := ⟨_, rfl⟩
    rw [← hw5]
    have bw5 : Below w.heap.size w w5 := (unhide BW4).trans (by rw [hw5]; exact ⟨rfl, rfl, rfl, Nat.le_refl _, fun _ _ => rfl⟩)
    have p5 : Px w5 (w.heap.size + 1) (pcOf E.bs A (0, 0)) := by rw [hw5, unhide hpz]; exact unhide P4
    have q5 : Px w5 w.heap.size ⟨0, 0, 0⟩ := by rw [hw5]; exact unhide Q4
    have PK := hide (show pcOf E.bs A (pick (mt E.bs A) (P.take zs.length) (0, 0)) = R by rw [unhide HR]; rw [← unhide hzP, List.take_length]; exact unhide hpk)
    clear hm hw5 BW4 P4 Q4 hpz hpk k0 k1 k2 c0 c1 c2 hlook H4
    go_wp2_with fail
    go_loopw [8] (fun i wr => ∃ (k : Nat) (b' : Nat × Nat), k ≤ zs.length ∧ i = .int .i64 ((k : Int) - 1) ∧ pcOf E.bs A (pick (mt E.bs A) (P.take k) b') = R ∧ b'.1 ≤ m ∧ Px wr (w.heap.size + 1) (pcOf E.bs A b') ∧ Px wr w.heap.size ⟨0, 0, 0⟩ ∧ Below w.heap.size w wr) (fun i _ => (intOf i + 1).toNat)
    case atStart => exact ⟨zs.length, (0, 0), Nat.le_refl _, rfl, unhide PK, by simp, p5, q5, bw5⟩
    case round =>
      clear p5 q5 bw5 PK
      obtain ⟨k, b', hk, rfl, hpk, hbm, px, qx, bwr⟩ := hrel
      have l0 := px.c0
      rw [pcOf_l] at l0
      have PX := hide px
      have QX := hide qx
      have BW := hide bwr
      by_cases hgo : 1 ≤ k ∧ b'.1 < m
      · obtain ⟨K, rfl⟩ : ∃ K, k = K + 1 := ⟨k - 1, by omega⟩
        rw [show (((K + 1 : Nat) : Int) - 1) = (K : Int) by omega]
        have hKl : K < zs.length := by omega
        have fn := (unhide H).later bwr
        have d0 := fn.c0
        have d1 := fn.c1
        have FB := hide fn.bs
        obtain ⟨q, hq⟩ : ∃ q, P[K]? = some q := ⟨_, List.getElem?_eq_getElem (show K < P.length by rw [unhide hzP]; exact hKl)⟩
        have hqA : q < A := unhide hP q (List.mem_of_getElem? hq)
        have hzq : zs[K]?.getD 0 = (q : Int) := by rw [unhide HZ]; simp [nI, hq]
        obtain ⟨ib, io, hix, hcx⟩ := ((unhide IS).later bwr).idx hKl (K : Int) rfl
        rw [hzq] at hcx
        have ac := hide (fun j => alike_any g (wr.drewN j) E.bo E.bn E.bc E.bs A q b'.1 m d0 d1 ((unhide FB).later ⟨rfl, rfl, rfl, Nat.le_refl _, fun _ _ => rfl⟩) hbn hqA hmb.2 hgo.2)
        have hlk := like_gt E.bs q A b'.1 (by rw [← unhide HM]; exact hgo.2)
        rw [← unhide HM] at hlk
        have htk : pick (mt E.bs A) (P.take (K + 1)) b' = pick (mt E.bs A) (P.take K) (g1 (mt E.bs A) q b') := by
          rw [List.take_add_one, hq]
          exact pick_snoc _ _ _ _
        rw [htk] at hpk
        have hmt := mt_le E.bs A q
        rw [← unhide HM] at hmt
        clear px qx bwr fn htk hzq hq
        by_cases hgt : b'.1 < mt E.bs A q
        · have e1 := hlk.2 hgt
          have e2 : g1 (mt E.bs A) q b' = (mt E.bs A q, q) := if_pos hgt
          rw [e1] at ac
          rw [e2] at hpk
          have HPK := hide hpk
          obtain ⟨N, hN⟩ : ∃ N, N = mt E.bs A q := ⟨_, rfl⟩
          rw [← hN] at ac HPK hgt hmt
          obtain ⟨L, hL⟩ : ∃ L, L = b'.1 := ⟨_, rfl⟩
          rw [← hL] at ac l0 hgt hgo
          have hgt' : (L : Int) < (N : Int) := by omega
          have hlm : (L : Int) < (m : Int) := by omega
          have hK0 : (0 : Int) ≤ (K : Int) := by omega
          clear hlk e1 e2 hpk hN hL hbm
          go_wp2_with fail
          go_quiet (first | (go_at_call 114; refine Calls.quiet_of (unhide ac _)))
          go_wp2_with fail
          obtain ⟨wq, hwq⟩ : ∃ wq, wq = wr.drewN nq := ⟨_, rfl⟩
          rw [← hwq]
          have bq : Below wr.heap.size wr wq := by rw [hwq]; exact ⟨rfl, rfl, rfl, Nat.le_refl _, fun _ _ => rfl⟩
          have pq := (unhide PX).later bq
          have qq := (unhide QX).later bq
          have bwq := (unhide BW).trans (bq.mono (unhide BW).size)
          have dq1 := ((unhide H).later bwq).c1
          have hcq := cell_later bq hcx
          have f0 := pq.free 0
          have f1 := pq.free 1
          have f2 := pq.free 2
          have x0 := pq.c0
          have x1 := pq.c1
          have x2 := pq.c2
          have put := hide (pq.put (pcOf E.bs A (N, q)))
          rw [pcOf_new E.bs A N q (by omega)] at put
          have QQ := hide qq
          have BQ := hide bwq
          clear hwq bq pq qq bwq PX QX BW l0 d0 d1 hcx ac FB
          go_region
          all_goals go_wp2_with fail
          all_goals go_roundw
          case rel =>
            have hqw : w.heap.size ≠ w.heap.size + 1 := by omega
            have g9 := (unhide put).2.drew
            exact ⟨K, (N, q), by omega, by go_num, unhide HPK, by omega, by rw [pcOf_new E.bs A N q (by omega)]; exact (unhide put).1, (unhide QQ).gb g9 hqw, (unhide BQ).trans ⟨g9.os, g9.tape, g9.output, g9.size, fun j hj => g9.block j (by have := (unhide BQ).size; omega) (by omega)⟩⟩
          case measure => simp [intOf]
        · have e1 : ¬ b'.1 < likeQ E.bs q A b'.1 m := fun h => hgt (hlk.1.1 h)
          have e2 : g1 (mt E.bs A) q b' = b' := if_neg hgt
          rw [e2] at hpk
          have HPK := hide hpk
          obtain ⟨N, hN⟩ : ∃ N, N = likeQ E.bs q A b'.1 m := ⟨_, rfl⟩
          rw [← hN] at ac e1
          obtain ⟨L, hL⟩ : ∃ L, L = b'.1 := ⟨_, rfl⟩
          rw [← hL] at ac l0 e1 hgo
          have hgt' : ¬ (L : Int) < (N : Int) := by omega
          have hlm : (L : Int) < (m : Int) := by omega
          have hK0 : (0 : Int) ≤ (K : Int) := by omega
          clear hlk e1 e2 hpk hN hL hgt
          go_wp2_with fail
          go_quiet (first | (go_at_call 114; refine Calls.quiet_of (unhide ac _)))
          go_wp2_with fail
          go_roundw
          case rel => exact ⟨K, b', by omega, by go_num, unhide HPK, hbm, (unhide PX).later ⟨rfl, rfl, rfl, Nat.le_refl _, fun _ _ => rfl⟩, (unhide QX).later ⟨rfl, rfl, rfl, Nat.le_refl _, fun _ _ => rfl⟩, (unhide BW).trans ⟨rfl, rfl, rfl, Nat.le_refl _, fun _ _ => rfl⟩⟩
          case measure => simp [intOf]
      · have hfin : R = pcOf E.bs A b' := by
          rw [← hpk]
          by_cases hk0 : k = 0
          · rw [hk0]; rfl
          · rw [pick_full (m := m) (by omega) _ (fun x hx => by rw [unhide HM]; exact mt_le E.bs A x)]
        have HF := hide hfin
        clear hpk px qx bwr hfin
        by_cases hk0 : k = 0
        · subst hk0
          go_wp2_with (first
            | (with_reducible show wpList Tryz.prog _ _ (Oper.mk _ (Op.load 132 _) _ _ _ none :: _) _ _; refine wpList_pcLoad rfl (.tmp 3) rfl (w.heap.size + 1) rfl _ (unhide PX) ?_)
            | (with_reducible show wpList Tryz.prog _ _ (Oper.mk _ (Op.store 132 _ _) _ _ _ none :: _) _ _; refine wpList_pcStore rfl (.tmp 2) (.tmp 87) rfl w.heap.size (pcOf E.bs A b') ⟨0, 0, 0⟩ rfl rfl (unhide QX) ?_; intro w9 p9 g9 s9))
          try go_frame
          go_wp2_with fail
          refine bodyPost_ret (results_pc rfl _ _ w.heap.size _ rfl p9) rfl ?_
          rw [unhide HF]
          exact ⟨rfl, (unhide BW).trans ⟨g9.os, g9.tape, g9.output, g9.size, fun k hk => g9.block k (by have := (unhide BW).size; omega) (by omega)⟩⟩
        · have hlm : ¬ (b'.1 : Int) < (m : Int) := by omega
          have hk1 : (0 : Int) ≤ (k : Int) - 1 := by omega
          clear hgo
          go_wp2_with (first
            | (with_reducible show wpList Tryz.prog _ _ (Oper.mk _ (Op.load 132 _) _ _ _ none :: _) _ _; refine wpList_pcLoad rfl (.tmp 3) rfl (w.heap.size + 1) rfl _ (unhide PX) ?_)
            | (with_reducible show wpList Tryz.prog _ _ (Oper.mk _ (Op.store 132 _ _) _ _ _ none :: _) _ _; refine wpList_pcStore rfl (.tmp 2) (.tmp 87) rfl w.heap.size (pcOf E.bs A b') ⟨0, 0, 0⟩ rfl rfl (unhide QX) ?_; intro w9 p9 g9 s9))
          try go_frame
          go_wp2_with fail
          refine bodyPost_ret (results_pc rfl _ _ w.heap.size _ rfl p9) rfl ?_
          rw [unhide HF]
          exact ⟨rfl, (unhide BW).trans ⟨g9.os, g9.tape, g9.output, g9.size, fun k hk => g9.block k (by have := (unhide BW).size; omega) (by omega)⟩⟩
  · have hq : triQ E.bs A = .tuple #[triV 0 0 0, .bool false] := by unfold triQ; rw [hbl, if_neg h3]
    rw [hq] at tc
    unfold triV at tc
    have hr := hide (show R = ⟨0, 0, V⟩ by rw [unhide HR, unhide HV]; exact pce_short E.bs A (by omega))
    clear hq
    go_wp2_with fail
    refine (unhide tc).mono ?_
    rintro e w3 ⟨rfl, b3⟩
    have b4 := below_alloc w3 (.cells #[.int .u8 0, .int .u8 0, .int .u8 0] 157)
    have p4 := (p2.later b3).later b4
    have q4 := (q2.later b3).later b4
    have b24 := hide (bw2.trans ((b3.trans (b4.mono b3.size)).mono bw2.size))
    have P4 := hide p4
    have Q4 := hide q4
    clear p4 q4 p2 q2 b3 b4 bw2
    go_wp2_with (first
      | (with_reducible show wpList Tryz.prog _ _ (Oper.mk _ (Op.load 132 _) _ _ _ none :: _) _ _; refine wpList_pcLoad rfl (.tmp 3) rfl (w.heap.size + 1) rfl _ (unhide P4) ?_)
      | (with_reducible show wpList Tryz.prog _ _ (Oper.mk _ (Op.store 132 _ _) _ _ _ none :: _) _ _; refine wpList_pcStore rfl (.tmp 2) (.tmp 32) rfl w.heap.size ⟨0, 0, V⟩ ⟨0, 0, 0⟩ rfl rfl (unhide Q4) ?_; intro w5 p5 g5 s5))
    go_frame
    go_wp2_with fail
    refine bodyPost_ret (results_pc rfl _ _ w.heap.size ⟨0, 0, V⟩ rfl p5) rfl ?_
    rw [unhide hr]
    exact ⟨rfl, (unhide b24).trans ⟨g5.os, g5.tape, g5.output, g5.size, fun k hk => g5.block k (by have := (unhide b24).size; omega) (by omega)⟩⟩
end
end Go.Proofs.YtnoabdafmgmenaaGreatDoor

namespace Go.Proofs.YtnoabdafmgmenaaGreatDoor
open Go.RowKit Go.Maps
set_option linter.unusedVariables false
set_option linter.unusedSimpArgs false

set_option maxHeartbeats 1000000 in
theorem size_any (w : World) (l d b : Int) :
    Calls Tryz.prog 93 #[.agg #[.int .i64 l, .int .i64 d, .int .u8 b]] w fun e w' => e = .returned (.int .i64 (sz ⟨l, d, b⟩ : Int)) ∧ Below w.heap.size w w' := by
  by_cases hl : 1 < l
  · have hs := hide (show (sz ⟨l, d, b⟩ : Int) = l by unfold sz; simp only; rw [if_neg (by omega)]; omega)
    go_enter Tryz.func93, Tryz.ntmps93
    go_wp2_with fail
    go_ret
    rw [unhide hs]
    exact ⟨rfl, below_alloc w _⟩
  · have hs := hide (show (sz ⟨l, d, b⟩ : Int) = 1 by unfold sz; simp only; split <;> omega)
    go_enter Tryz.func93, Tryz.ntmps93
    go_wp2_with fail
    go_ret
    rw [unhide hs]
    exact ⟨rfl, below_alloc w _⟩

/-- The finder, and the row that pieces are laid in. -/
def noF (g : Nat) (ao : Option Addr) (k : Nat) : Prop := k = g ∨ ob ao k

section
variable {E : Fv} {g B base : Nat} {w w' : World} {A M : Nat} {ao ao1 : Option Addr}

theorem Fn.app {n c : Nat} (h : Fn E (noF g ao) g B base w A M) (hg : w.grownBy w' (Value.slice ao n c).ownBlock) (hog : ¬ ob ao g) (hoB : ¬ ob ao B) (hlo : ∀ k, ob ao k → E.lo ≤ k) (hs : ∀ k, ob ao1 k → ob ao k ∨ w.heap.size ≤ k) (hl : ∀ k, ob ao1 k → k < w'.heap.size) : Fn E (noF g ao1) g B base w' A M := by
  have hob : ∀ j, (Value.slice ao n c).ownBlock = some j → ob ao j := fun j hj => by
    cases ao with
    | none => simp [Value.ownBlock] at hj
    | some z => exact ⟨z, rfl, by simpa [Value.ownBlock] using hj⟩
  have hoff := h.sh.rowsOff (row := (Value.slice ao n c).ownBlock) (fun j hj => .inr (hob j hj))
  have hB : some B ≠ (Value.slice ao n c).ownBlock := fun e => hoB (hob B e.symm)
  have hbl : Below E.lo w w' := ⟨hg.os, hg.tape, hg.output, hg.size, fun k hk => hg.block k (by have := h.los; omega) (fun e => by have := hlo k (hob k e.symm); omega)⟩
  have sh1 : w.Shuns B (noF g ao1) := by
    obtain ⟨D, ho, _⟩ := h.own
    refine h.sh.reno ho fun k hk => ?_
    rcases hk with hk | hk
    · exact .inl (.inl hk)
    · rcases hs k hk with q | q
      · exact .inl (.inr q)
      · exact .inr q
  refine ⟨?_, ?_, sh1.kept hg h.own.lt hB, .inl rfl, fun k hk => ?_, h.gB, fun w1 f => h.b w1 (hbl.trans f), h.lo, Nat.le_trans h.bw hg.size, h.bn, h.bl, h.A, h.M⟩
  · rw [hg.block g h.glt (fun e => hog (hob g e.symm))]
    exact h.st
  · obtain ⟨D, ho, hr⟩ := h.own
    exact ⟨D, ho.kept hg hB hoff, hr⟩
  · rcases hk with hk | hk
    · rw [hk]; exact Nat.lt_of_lt_of_le h.glt hg.size
    · exact hl k hk
end

theorem pce_ok (bs : List Int) (A : Nat) (hb : Byt bs) (hA : A < bs.length) (hn : bs.length ≤ 32768) : Pok (pce bs A) := by
  by_cases h : 3 ≤ (bst bs A).1
  · obtain ⟨n, q, _, e, h1, h2, h3, h4, _⟩ := pce_copy bs A h
    rw [e]
    exact ⟨by simp only; omega, by simp only; omega, by simp only; omega, by simp only; omega, by simp, by simp⟩
  · rw [(pce_byte bs A h).1]
    have := hb.at A
    exact ⟨by simp, by simp, by simp, by simp, by simp; omega, by simp; omega⟩

/-- Where the finder is. -/
def atF (g : Nat) (w : World) : Nat := match w.cell? ⟨g, 1, none⟩ with | some (.int _ a) => a.toNat | _ => 0
theorem Fn.atF {E : Fv} {No : Nat → Prop} {g B base : Nat} {w : World} {A M : Nat} (h : Fn E No g B base w A M) : atF g w = A := by unfold Proofs.YtnoabdafmgmenaaGreatDoor.atF; rw [h.c1]; simp

/-- What holds at the loop's head. -/
def RelP (E : Fv) (w : World) (R : List Pc) (v : Value) (wr : World) : Prop :=
  ∃ (A f : Nat) (ao : Option Addr) (n c : Nat) (l : List Pc), v = .slice ao n c ∧ l ++ pcs E.bs f A = R ∧ E.bn < f + A ∧ n ≤ A ∧ PMine (w.heap.size + 2) wr ao n c l ∧ Fn E (noF (w.heap.size + 1) ao) (w.heap.size + 1) w.heap.size (w.heap.size + 1) wr A A ∧ Below w.heap.size w wr

set_option maxHeartbeats 2000000 in
set_option maxRecDepth 20000 in
theorem pieces_any (w : World) (bo : Option Addr) (bn bc : Nat) (bs : List Int) (hb : Bs w bo bn bc bs) (hn : bn ≤ 32768) :
    Calls Tryz.prog 65 #[.slice bo bn bc] w fun e w' => ∃ ao n c, e = .returned (.slice ao n c) ∧ PMine w.heap.size w' ao n c (pieces bs) ∧ Below w.heap.size w w' := by
  have hlen := hb.len
  have hle := hb.le
  have hmx := hb.max
  have HB := hide hb
  obtain ⟨R, hR⟩ : ∃ R, R = pieces bs := ⟨_, rfl⟩
  rw [← hR]
  have HR := hide hR
  obtain ⟨E, hE⟩ : ∃ E : Fv, E = ⟨w.heap.size, bo, bn, bc, bs⟩ := ⟨_, rfl⟩
  have hE1 : E.bn = bn := by rw [hE]
  have hE2 : E.bs = bs := by rw [hE]
  have HE := hide (And.intro hE1 hE2)
  have st : Fn E (noF (w.heap.size + 1) none) (w.heap.size + 1) w.heap.size (w.heap.size + 1) ((w.alloc (.map #[] 0)).alloc (.cells #[.slice bo bn bc, .int .i64 0, .map (some w.heap.size)] 138)) 0 0 := by
    subst hE
    have b1 := below_alloc w (.map #[] 0)
    have b2 := below_alloc (w.alloc (.map #[] 0)) (.cells #[.slice bo bn bc, .int .i64 0, .map (some w.heap.size)] 138)
    have s1 : (w.alloc (.map #[] 0)).heap.size = w.heap.size + 1 := by simp
    refine ⟨?_, ?_, ?_, .inl rfl, fun k hk => ?_, by omega, fun w1 f => hb.later ((b1.trans (b2.mono (by omega))).trans f), ⟨by simp, Nat.le_refl _, by simp⟩, by simp, hn, hlen, Nat.zero_le _, Nat.zero_le _⟩
    · rw [← s1]; exact heap_alloc_new _ _
    · refine Grp.later (w := w.alloc (.map #[] 0)) ⟨.map [], World.ownsGroups_made w Tryz.prog 157 3 .i64, fun a b c kl _ => ?_⟩ b2
      rfl
    · exact (World.Shuns_made w _).kept (grown_of b2) (by simp) (by simp)
    · rcases hk with rfl | ⟨a, ha, _⟩
      · simp
      · cases ha
  have ST := hide st
  have hmm := @run_makeMap Tryz.prog
  clear hb st hE hE1 hE2 hR
  go_enter Tryz.func65, Tryz.ntmps65
  go_wp2_with fail
  go_loopw [3] (fun v wr => RelP E w R v wr) (fun _ wr => bn - atF (w.heap.size + 1) wr)
  case atStart =>
    refine ⟨0, bn + 1, none, 0, 0, [], rfl, ?_, by rw [(unhide HE).1]; omega, Nat.le_refl _, PMine.nought _ _, unhide ST, (below_alloc w _).trans ((below_alloc (w.alloc (.map #[] 0)) _).mono (by simp))⟩
    rw [unhide HR, (unhide HE).2, ← hlen]
    rfl
  case round =>
    clear ST
    obtain ⟨A, f, ao, n, c, l, rfl, hl, hf, hnA, hm, fn, bw⟩ := hrel
    have c1 := fn.c1
    have hma := hide fn.atF
    have hAn := fn.A
    rw [(unhide HE).1] at hAn hf
    have hno : ∀ k, ob ao k → w.heap.size + 2 ≤ k ∧ k < wr.heap.size := fun k hk => hm.ob hk
    have HL := hide hl
    by_cases hlt : A < bn
    · have hlt' : (A : Int) < (bn : Int) := by omega
      obtain ⟨f', rfl⟩ : ∃ f', f = f' + 1 := ⟨f - 1, by omega⟩
      have hpos := hide (pcs_on (bs := E.bs) (A := A) (by rw [fn.bl, (unhide HE).1]; exact hlt) f')
      have pc := hide (piece_any wr fn (by rw [(unhide HE).1]; exact hlt))
      have hok := hide (pce_ok E.bs A fn.bs.byt (by rw [fn.bl, (unhide HE).1]; exact hlt) (by rw [fn.bl]; exact fn.bn))
      have hsz := pce_sz E.bs A (by rw [fn.bl, (unhide HE).1]; exact hlt)
      rw [fn.bl, (unhide HE).1] at hsz
      obtain ⟨P, hP⟩ : ∃ P, P = pce E.bs A := ⟨_, rfl⟩
      rw [← hP] at pc hpos hok hsz
      obtain ⟨pl, pd, pb⟩ := P
      simp only [pv] at pc
      have FN := hide fn
      have HM := hide hm
      have BW := hide bw
      have HNO := hide hno
      clear hP hl fn hm bw hno
      obtain ⟨S, hS⟩ : ∃ S, S = sz ⟨pl, pd, pb⟩ := ⟨_, rfl⟩
      rw [← hS] at hsz hpos
      have HS := hide hS
      clear hS
      go_wp2_with fail
      refine (unhide pc).mono ?_
      rintro e w1 ⟨rfl, b1⟩
      have z1 := b1.size
      have bb1 := below_alloc w1 (.cells #[.int .i64 pl, .int .i64 pd, .int .u8 pb] 132)
      have bb2 := below_alloc (w1.alloc (.cells #[.int .i64 pl, .int .i64 pd, .int .u8 pb] 132)) (.cells #[.int .i64 pl, .int .i64 pd, .int .u8 pb] 132)
      have x2 := hide (heap_alloc_new (w1.alloc (.cells #[.int .i64 pl, .int .i64 pd, .int .u8 pb] 132)) (.cells #[.int .i64 pl, .int .i64 pd, .int .u8 pb] 132))
      have s2 : (w1.alloc (.cells #[.int .i64 pl, .int .i64 pd, .int .u8 pb] 132)).heap.size = w1.heap.size + 1 := by simp
      rw [s2] at x2
      have b2 : Below wr.heap.size wr ((w1.alloc (.cells #[.int .i64 pl, .int .i64 pd, .int .u8 pb] 132)).alloc (.cells #[.int .i64 pl, .int .i64 pd, .int .u8 pb] 132)) := (b1.trans (bb1.mono z1)).trans (bb2.mono (by omega))
      have hm2 := hide ((unhide HM).later b2)
      have fn2 := hide ((unhide FN).later b2)
      have q2 := hide (show Px _ (w1.heap.size + 1) ⟨pl, pd, pb⟩ from unhide x2)
      have bw2 := hide ((unhide BW).trans (b2.mono (unhide BW).size))
      have zw := (unhide BW).size
      have k0 : w1.heap.size < ((w1.alloc (.cells #[.int .i64 pl, .int .i64 pd, .int .u8 pb] 132)).alloc (.cells #[.int .i64 pl, .int .i64 pd, .int .u8 pb] 132)).heap.size := by simp; omega
      have pvar := hide (show Px ((w1.alloc (.cells #[.int .i64 pl, .int .i64 pd, .int .u8 pb] 132)).alloc (.cells #[.int .i64 pl, .int .i64 pd, .int .u8 pb] 132)) w1.heap.size ⟨pl, pd, pb⟩ from (px_new w1 ⟨pl, pd, pb⟩).later bb2)
      have hgw := (unhide FN).glt
      clear bb1 bb2 b1 b2 x2
      go_wp2_with (at_builtin; refine wpList_papp rfl (.tmp 19) (.tmp 21) rfl (w.heap.size + 2) ao n c l rfl (unhide hm2) (w1.heap.size + 1) ⟨pl, pd, pb⟩ (unhide hok) rfl (unhide q2) (by omega) (by simp; omega) ?_; intro ao1 cc1 w3 hm3 hg3 hs3; have pvar3 : Px w3 w1.heap.size ⟨pl, pd, pb⟩ := (by unfold Px; rw [grown_at hg3 k0 (fun q => by have := (unhide HNO w1.heap.size q).2; omega)]; exact unhide pvar); have d0 := pvar3.c0; have d1 := pvar3.c1; have d2 := pvar3.c2; clear pvar3)
      have fn3 : Fn E (noF (w.heap.size + 1) ao1) (w.heap.size + 1) w.heap.size (w.heap.size + 1) w3 A A := (unhide fn2).app hg3 (fun q => by have := (unhide HNO _ q).1; omega) (fun q => by have := (unhide HNO _ q).1; omega) (fun k q => by have := (unhide HNO _ q).1; have := (unhide FN).lo.2.1; omega) hs3 (fun k q => (hm3.ob q).2)
      have bw3 : Below w.heap.size w w3 := (unhide bw2).trans ⟨hg3.os, hg3.tape, hg3.output, hg3.size, fun k hk => grown_at hg3 (by have := (unhide bw2).size; omega) (fun q => by have := (unhide HNO _ q).1; omega)⟩
      have sc := hide (size_any w3 pl pd pb)
      rw [← unhide HS] at sc
      have FN3 := hide fn3
      have HM3 := hide hm3
      have BW3 := hide bw3
      clear fn3 hm3 bw3 hg3 hs3 d0 d1 d2
      refine (unhide sc).mono ?_
      rintro e w4 ⟨rfl, b4⟩
      have fn4 := (unhide FN3).later b4
      have hm4 := hide ((unhide HM3).later b4)
      have bw4 := hide ((unhide BW3).trans (b4.mono (unhide BW3).size))
      have ps := hide (pass_any w4 S fn4 (by rw [(unhide HE).1]; omega))
      clear fn4 b4
      go_wp2_with fail
      refine (unhide ps).mono ?_
      rintro e w5 ⟨rfl, f5, p5⟩
      have hm5 := hide ((unhide hm4).keep fun k hk => p5.block k ((unhide hm4).ob hk).2 (by have := ((unhide hm4).ob hk).1; omega) (by have := ((unhide hm4).ob hk).1; omega) (.inr (.inr hk)))
      have bw5 := hide ((unhide bw4).trans (p5.below (by omega) (Nat.le_refl _) (by omega) (unhide bw4).size))
      have F5 := hide f5
      have hma5 := hide f5.atF
      clear f5 p5
      go_wp2_with fail
      go_roundw
      case rel =>
        refine ⟨A + S, f', ao1, n + 1, cc1, l ++ [⟨pl, pd, pb⟩], rfl, ?_, by rw [(unhide HE).1]; omega, by omega, unhide hm5, unhide F5, unhide bw5⟩
        rw [← unhide HL, unhide hpos]
        simp
      case measure =>
        rw [unhide hma, unhide hma5]
        omega
    · have hlt' : ¬ (A : Int) < (bn : Int) := by omega
      have hfin := hide (show R = l by rw [← unhide HL, pcs_end (by rw [fn.bl, (unhide HE).1]; exact hlt), List.append_nil])
      have HM := hide hm
      clear hl fn hm hno
      go_wp2_with fail
      go_ret
      rw [unhide hfin]
      exact ⟨ao, n, c, rfl, (unhide HM).mono (by omega), bw⟩
end Go.Proofs.YtnoabdafmgmenaaGreatDoor
