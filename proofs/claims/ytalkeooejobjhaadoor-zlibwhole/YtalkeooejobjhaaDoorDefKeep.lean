/-
  What keep, drop and pass, methods of package deflate's finder, do: the places of three bytes grow by one; none is dropped, as there are at most 32,768 bytes.
-/
import Derived.Test.YtalkeooejobjhaaDoorDefLike
namespace Go.Proofs.YtalkeooejobjhaaDoor
open Go.RowKit Go.Maps
set_option linter.unusedVariables false
set_option linter.unusedSimpArgs false

section
variable {E : Fv} {No : Nat → Prop} {g B base : Nat} {w : World} {A M : Nat}

theorem groups_mono {w : World} {k : TypeId} {base : Nat} {e : TypeId} {q : IntKind} {b n n' : Nat} {D : DataW Unit} (h : w.ownsGroups Tryd.prog k base e q b n D) (hn : n ≤ n') : w.ownsGroups Tryd.prog k base e q b n' D := by
  obtain ⟨es, clock, hb, F, hs, hD, hbb, hlen, hap⟩ := h
  exact ⟨es, clock, hb, F, by omega, hD, hbb, fun x hx zs ho => by have := hlen x hx zs ho; omega, hap⟩
/-- There are no three bytes at the place M. -/
theorem Grp.skip (h : Grp E B base w M) (hM : ¬ M + 3 ≤ E.bs.length) : Grp E B base w (M + 1) := by
  obtain ⟨D, ho, hr⟩ := h
  refine ⟨D, groups_mono ho (by omega), fun a b c kl hk => ?_⟩
  rw [hr a b c kl hk, plc_succ]
  have : hasT E.bs a b c M = false := by simp [hasT, hM]
  rw [if_neg (by simp [this]), List.append_nil]

/-- 'f.places[t] = append(f.places[t], A)': the entry, and the store at it. -/
theorem Fn.entry (h : Fn E No g B base w A A) (h3 : A + 3 ≤ E.bn) {a b c : Int} (ha : a = E.bs[A]?.getD 0) (hb : b = E.bs[A + 1]?.getD 0) (hc : c = E.bs[A + 2]?.getD 0) :
    ∃ v zs sv m, (Instr.mapEntry 76 (.map (some B)) (.agg #[.int .u8 a, .int .u8 b, .int .u8 c])).run Tryd.prog w = .ok (.tuple #[v, sv]) m ∧ zs.length ≤ 32768 ∧ w.grownBy m (some B) ∧ m.heap.size = w.heap.size ∧ base ≤ w.heap.size ∧ m.ownsInts base 3 .i64 v zs ∧
      ∀ (w1 : World) (v' : Value), m.grownBy w1 v.ownBlock → w1.ownsInts base 3 .i64 v' (zs ++ [(A : Int)]) → (v'.ownBlock = v.ownBlock ∨ ∃ q, v'.ownBlock = some q ∧ m.heap.size ≤ q) →
        ∃ w2, (Instr.entryStore 76 (.map (some B)) sv v').run Tryd.prog w1 = .ok () w2 ∧ Fn E No g B base w2 A (A + 1) ∧ Pf No g B base w w2 := by
  obtain ⟨D, ho, hr⟩ := h.own
  have hby := h.bs.byt
  have hbl := h.bl
  have hbn := h.bn
  obtain ⟨kl, hkl⟩ := triKey (a := a) (b := b) (c := c) (by rw [ha]; exact hby.at A) (by rw [hb]; exact hby.at (A + 1)) (by rw [hc]; exact hby.at (A + 2))
  obtain ⟨v, zs, st, m, hme, hat, hzl, hgm, hms, hmo, hsv, hback⟩ := groups_entry triLaw Tryd.underlying76 zeroInts ho (by unfold maxLen; omega) hkl
  have hzs : zs = nI (plc E.bs a b c A) := rowD_is hmo ((hr a b c kl hkl).symm.trans hat)
  have hT : hasT E.bs a b c A = true := by simp [hasT, hbl, h3, ha, hb, hc]
  have hnx : nI (plc E.bs a b c (A + 1)) = zs ++ [(A : Int)] := by rw [plc_succ, if_pos hT, nI_app, hzs]; rfl
  have hM : IsMap D := by obtain ⟨es, clock, _, _, _, rfl, _⟩ := ho; exact ⟨_, rfl⟩
  refine ⟨v, zs, goInt st, m, hme, by omega, hgm, hms, h.bw, hmo, ?_⟩
  intro w1 v' hg hown' hloc
  obtain ⟨w2, hrun, hG, hg2, hsh⟩ := hback w1 v' (zs ++ [(A : Int)]) hg hown' (by simp; omega) hloc
  have same : ∀ k, k < w.heap.size → k ≠ B → (k < base ∨ No k) → w2.heap[k]? = w.heap[k]? := by
    intro k hk hkB hkn
    have h1 : k < m.heap.size := by omega
    have h2 := Nat.lt_of_lt_of_le h1 hg.size
    rw [hg2.block k h2 (fun e => hkB (Option.some.inj e)), hg.block k h1 (fun e => ?_), hgm.block k hk (fun e => hkB (Option.some.inj e))]
    rcases hkn with q | q
    · have := (hmo.1.lt k e.symm).1
      omega
    · exact hsv No h.sh k e.symm q
  have pf : Pf No g B base w w2 := ⟨hg2.os.trans (hg.os.trans hgm.os), hg2.tape.trans (hg.tape.trans hgm.tape), hg2.output.trans (hg.output.trans hgm.output), by have := hg.size; have := hg2.size; omega, fun k hk _ h2 h3 => same k hk h2 h3⟩
  refine ⟨w2, hrun, ⟨?_, ?_, ?_, h.ng, fun k hk => Nat.lt_of_lt_of_le (h.lt k hk) pf.size, h.gB, fun w3 f => h.b w3 ((pf.below h.lo.1 h.lo.2.1 h.lo.2.2 h.los).trans f), h.lo, Nat.le_trans h.bw pf.size, h.bn, h.bl, h.A, by omega⟩, pf⟩
  · rw [same g h.glt h.gB (.inr h.ng)]
    exact h.st
  · refine ⟨_, hG, fun a' b' c' kl' hk' => ?_⟩
    by_cases hkk : kl' = kl
    · subst hkk
      obtain ⟨rfl, rfl, rfl⟩ := triV_inj (triLaw.inj hk' hkl)
      rw [atKey_put_same hM (triKeyed.key hkl), hnx]
      exact rowD_put hown' (by simp)
    · rw [atKey_put_other hkk, hr a' b' c' kl' hk', plc_succ]
      have : ¬ hasT E.bs a' b' c' A = true := fun q => by
        unfold hasT at q
        simp at q
        obtain ⟨_, q1, q2, q3⟩ := q
        refine hkk ?_
        rw [← q1, ← q2, ← q3, ← ha, ← hb, ← hc, hkl] at hk'
        exact (Option.some.inj hk').symm
      rw [if_neg this, List.append_nil]
  · refine hsh No h.sh fun q hq hN => ?_
    rcases hloc with e | ⟨q', e, hge⟩
    · exact hsv No h.sh q (by rw [← e]; exact hq) hN
    · rw [e] at hq
      cases hq
      have := h.lt q hN
      omega

/-- 'append(v, x)' of ints at a step of a region that draws its order. -/
theorem step_iappV {ops : Array Oper} {o : Oper} {a : Act} {w : World} {K : Act → World → Prop} {Q : Exit → Act → World → Prop} {G : Prop} (hgd : o.guard = none) (s x : Operand)
    (ho : o.op = .call { callee := .builtin .append, args := #[s, x], argTypes := #[57, 57] })
    (base : Nat) (v : Value) (zs : List Int) (hs : a.eval s = v) (hm : w.ownsInts base 3 .i64 v zs)
    (ad : Addr) (X : Int) (hx : a.eval x = .slice (some ad) 1 1) (hb : Is w (some ad) 1 1 [X]) (hbound : zs.length ≤ 1000000) (hB : base ≤ w.heap.size)
    (h : ∀ v' w1, w1.ownsInts base 3 .i64 v' (zs ++ [X]) → w.grownBy w1 v.ownBlock → (v'.ownBlock = v.ownBlock ∨ v'.ownBlock = some w.heap.size) → K (a.put o.dst v') w1) :
    if Region.wanted o (yielded ops a.tmps) = true then Oper.wp Tryd.prog o a w K Q else G := by
  have hw : Region.wanted o (yielded ops a.tmps) = true := by simp [Region.wanted, hgd]
  rw [if_pos hw]
  obtain ⟨i0, hi, hz0, hz1, hz2⟩ := info_parts Tryd.infoInt
  obtain ⟨v', w', hr, hown, hgrow, _, hsrc⟩ := run_append_own_at (P := Tryd.prog) w base 57 o.type 3 i0 (.int .i64 0) 1 8 Tryd.underlying57 hi hz0 hz1 hz2 rfl (by decide) _ _ _ hm.1 ad 1 1 [.int .i64 X] rfl (by simpa using hb.news) (ints_oneCell .i64 [X]) (by unfold maxLen; omega) (by omega) hB
  have hfit := hb.fit X (by simp)
  unfold Oper.wp execOp
  simp only [ho, resolve, invoke, builtin, Sem.run_bind, Sem.run_pure, Result.andThen_ok, List.map_toArray, List.map_cons, List.map_nil, hs, hx, hr]
  exact h v' w' (hm.appended hown (WalkArith.wf_i64 hfit)) hgrow hsrc

theorem Fn.drew (h : Fn E No g B base w A M) : Fn E No g B base w.drew A M := h.later ⟨rfl, rfl, rfl, Nat.le_refl _, fun _ _ => rfl⟩
theorem Pf.drew {w w' : World} (h : Pf No g B base w w') : Pf No g B base w w'.drew := ⟨h.os, h.tape, h.output, h.size, h.block⟩

set_option maxHeartbeats 4000000 in
set_option maxRecDepth 20000 in
theorem keep_any (w : World) (h : Fn E No g B base w A A) (hA : A < E.bn) :
    Calls Tryd.prog 62 #[.pointer (some ⟨g, 0, none⟩), .int .i64 (A : Int)] w fun e w' => e = .returned (.tuple #[]) ∧ Fn E No g B base w' A (A + 1) ∧ Pf No g B base w w' := by
  have tc := hide (triple_any g w E.bo E.bn E.bc E.bs A h.c0 h.bs h.bn h.A)
  have hbn := h.bn
  have H := hide h
  by_cases h3 : A + 3 ≤ E.bn
  · have hq : triQ E.bs A = .tuple #[triV (E.bs[A]?.getD 0) (E.bs[A + 1]?.getD 0) (E.bs[A + 2]?.getD 0), .bool true] := by unfold triQ; rw [h.bl, if_pos h3]
    rw [hq] at tc
    obtain ⟨x0, e0⟩ : ∃ x, x = E.bs[A]?.getD 0 := ⟨_, rfl⟩
    obtain ⟨x1, e1⟩ : ∃ x, x = E.bs[A + 1]?.getD 0 := ⟨_, rfl⟩
    obtain ⟨x2, e2⟩ : ∃ x, x = E.bs[A + 2]?.getD 0 := ⟨_, rfl⟩
    rw [← e0, ← e1, ← e2] at tc
    have E0 := hide (And.intro e0 (And.intro e1 e2))
    unfold triV at tc
    clear hq e0 e1 e2 h
    go_enter Tryd.func62, Tryd.ntmps62
    go_wp2_with fail
    refine (unhide tc).mono ?_
    rintro e w1 ⟨rfl, b1⟩
    have z1 := b1.size
    go_wp2_with fail
    obtain ⟨w2, hw2⟩ : ∃ w2, w2 = w1.alloc (Obj.cells #[.int .u8 x0, .int .u8 x1, .int .u8 x2] 101) := ⟨_, rfl⟩
    rw [← hw2]
    have b2 : Below w1.heap.size w1 w2 := by rw [hw2]; exact below_alloc w1 _
    have k0 : w2.cell? ⟨w1.heap.size, 0, none⟩ = some (.int .u8 x0) := by rw [hw2]; exact cell_top w1 _ _ 0 _ rfl
    have k1 : w2.cell? ⟨w1.heap.size, 1, none⟩ = some (.int .u8 x1) := by rw [hw2]; exact cell_top w1 _ _ 1 _ rfl
    have k2 : w2.cell? ⟨w1.heap.size, 2, none⟩ = some (.int .u8 x2) := by rw [hw2]; exact cell_top w1 _ _ 2 _ rfl
    clear hw2
    have h2 := ((unhide H).later b1).later b2
    have c2 := h2.c2
    have hgl := h2.glt
    have b3 := below_alloc w2 (.cells #[.int .i64 (A : Int)] 3)
    have h4 := (h2.later b3).drew
    have hBl : B < w2.heap.size := h2.own.lt
    have l0 := cell_later b3 k0
    have l1 := cell_later b3 k1
    have l2 := cell_later b3 k2
    have c2' := cell_later b3 c2
    obtain ⟨v, zs, sv, m, hme, hzl, hgm, hms, hbw, hmo, hst⟩ := h4.entry h3 (unhide E0).1 (unhide E0).2.1 (unhide E0).2.2
    have ione : Is m (some ⟨w2.heap.size, 0, none⟩) 1 1 [(A : Int)] := by
      have i1 := Is.one w2 (A : Int) (by omega) (by omega)
      refine ⟨rfl, Nat.le_refl _, by omega, (fun e => by cases e), i1.fit, .inr ⟨w2.heap.size, 0, rfl, fun i hi => ?_⟩⟩
      rcases i1.at' with q | ⟨b', o', e', c'⟩
      · omega
      · simp only [Option.some.injEq, Addr.mk.injEq, and_true] at e'
        obtain ⟨rfl, rfl⟩ := e'
        rw [← c' i hi]
        exact World.cell?_of_block (a := ⟨w2.heap.size, 0 + i, none⟩) (hgm.block w2.heap.size (by simp) (fun q => by cases q; omega))
    have pf2 := hide (Pf.of (No := No) (g := g) (B := B) (base := base) (b1.trans (b2.mono z1)))
    have pf3 := hide (Pf.of (No := No) (g := g) (B := B) (base := base) b3).drew
    have IO := hide ione
    have HMO := hide hmo
    have HST := hide hst
    have hm1 : base ≤ m.heap.size := by rw [hms]; exact hbw
    have hm2 := hide hms
    clear h2 h4 b3 ione hmo hst hgm hms hbw b1 b2 z1
    go_region_law (refine step_iappV rfl (.tmp 18) (.tmp 20) rfl base v zs (by simp [Act.eval, Act.put]) (unhide HMO) ⟨w2.heap.size, 0, none⟩ (A : Int) (by simp [Act.eval, Act.put]) (unhide IO) (by omega) hm1 ?_; intro v3 w3 o3 g3 l3; obtain ⟨w4, hes, F4, P4⟩ := (unhide HST) w3 v3 g3 o3 (l3.imp id (fun q => ⟨_, q, Nat.le_refl _⟩)))
    all_goals have F4' := hide F4
    all_goals have P4' := hide P4
    all_goals clear F4 P4 o3 g3 l3
    all_goals go_wp2_with fail
    all_goals go_end0
    all_goals exact ⟨rfl, unhide F4', ((unhide pf2).trans (unhide pf3)).trans (unhide P4')⟩
  · have hq : triQ E.bs A = .tuple #[triV 0 0 0, .bool false] := by unfold triQ; rw [h.bl, if_neg h3]
    rw [hq] at tc
    unfold triV at tc
    clear hq h
    go_enter Tryd.func62, Tryd.ntmps62
    go_wp2_with fail
    refine (unhide tc).mono ?_
    rintro e w1 ⟨rfl, b1⟩
    go_wp2_with fail
    go_end0
    have bb := b1.trans ((below_alloc w1 (.cells #[.int .u8 0, .int .u8 0, .int .u8 0] 101)).mono b1.size)
    have h2 := (unhide H).later bb
    exact ⟨rfl, ⟨h2.st, h2.own.skip (by rw [h2.bl]; exact h3), h2.sh, h2.ng, h2.lt, h2.gB, h2.b, h2.lo, h2.bw, h2.bn, h2.bl, h2.A, by omega⟩, Pf.of bb⟩

set_option maxHeartbeats 1000000 in
theorem drop_any (w : World) (g : Nat) (x : Int) (hx : x < 0) :
    Calls Tryd.prog 63 #[.pointer (some ⟨g, 0, none⟩), .int .i64 x] w fun e w' => e = .returned (.tuple #[]) ∧ w' = w := by
  go_enter Tryd.func63, Tryd.ntmps63
  go_wp2_with fail
  refine bodyPost_ret (results_none rfl _ _ _) rfl ?_
  exact ⟨rfl, rfl⟩

set_option maxHeartbeats 2000000 in
theorem pass_any (w : World) (n : Nat) (h : Fn E No g B base w A A) (hn : A + n ≤ E.bn) :
    Calls Tryd.prog 40 #[.pointer (some ⟨g, 0, none⟩), .int .i64 (n : Int)] w fun e w' => e = .returned (.tuple #[]) ∧ Fn E No g B base w' (A + n) (A + n) ∧ Pf No g B base w w' := by
  have hbn := h.bn
  have H := hide h
  clear h
  go_enter Tryd.func40, Tryd.ntmps40
  go_wp2_with fail
  go_loopw [5] (fun i wr => ∃ k : Nat, k ≤ n ∧ i = .int .i64 (k : Int) ∧ Fn E No g B base wr (A + k) (A + k) ∧ Pf No g B base w wr) (fun i _ => n - (intOf i).toNat)
  case atStart => exact ⟨0, by omega, rfl, unhide H, Pf.refl⟩
  case round =>
    obtain ⟨k, hk, rfl, hf, hpf⟩ := hrel
    by_cases hlt : k < n
    · have hlt' : (k : Int) < (n : Int) := by omega
      have c1 := hf.c1
      have kc := hide (keep_any wr hf (by omega))
      have HPF := hide hpf
      clear hf hpf
      obtain ⟨K, hK⟩ : ∃ K : Nat, K = A + k := ⟨_, rfl⟩
      rw [← hK] at kc c1
      have HK := hide hK
      clear hK
      have hKn : K + 1 ≤ E.bn := by have := unhide HK; omega
      go_wp2_with fail
      refine (unhide kc).mono ?_
      rintro e w1 ⟨rfl, f1, p1⟩
      have d1 := f1.c1
      have fr := f1.free 1
      have e1 := f1.putA (K + 1) ((K : Int) + 1) (by omega) (by omega)
      have d2 := e1.1.c1
      have E1 := hide e1
      have P1 := hide p1
      clear e1 f1 p1
      go_wp2_with fail
      refine same_world (drop_any _ g _ (by omega)) ?_
      go_wp2_with fail
      go_roundw
      case rel => exact ⟨k + 1, by omega, by go_num, by rw [show A + (k + 1) = K + 1 by have := unhide HK; omega]; exact (unhide E1).1, (unhide HPF).trans ((unhide P1).trans (unhide E1).2)⟩
      case measure => simp [intOf]; omega
    · have hkn : k = n := by omega
      subst hkn
      go_wp2_with fail
      go_end0
      exact ⟨rfl, hf, hpf⟩
end
end Go.Proofs.YtalkeooejobjhaaDoor
