/-
  What distance, of package inflate, does to a stream. Conditions: the state's own bounds.
-/
import Derived.Test.YtdpkemnklfnipaaDoorInfTell
import Derived.Deep.MidRow
import Derived.Deep.RegionLaw
namespace Go.Proofs.YtdpkemnklfnipaaDoor
open Go.RowKit
set_option linter.unusedVariables false
set_option linter.unusedSimpArgs false

theorem dst_bd : ∀ i, i < 30 → 1 ≤ dstB[i]?.getD 0 ∧ dstB[i]?.getD 0 ≤ 24577 ∧ dstX[i]?.getD 0 ≤ 13 := by decide
theorem len_bd : ∀ i, i < 29 → lenB[i]?.getD 0 ≤ 258 ∧ lenX[i]?.getD 0 ≤ 5 := by decide

section
variable {E : Env} {g : Nat} {w0 : World} {oo : Option Addr} {oc : Nat} {s : PS} {ov : Bool}

set_option maxHeartbeats 1000000 in
set_option maxRecDepth 20000 in
theorem distance_any (w : World) (ao : Option Addr) (n c : Nat) (D : List Int) (hL : Is w ao n c D) (h : St E g w oo oc s ov) :
    Calls Tryd.prog 26 #[.pointer (some ⟨g, 0, none⟩), .slice ao n c] w fun e w' => e = .returned (.int .i64 (dstS D E.bs s).1) ∧ St E g w' oo oc (dstS D E.bs s).2 ov ∧ Gb g w w' := by
  have sc := hide (symbol_any w ao n c D hL h)
  have bd := symS_bd D E.bs s
  have b2 := symS_320 D E.bs s
  have hr := hide (show dstS D E.bs s = dsyS E.bs (symS D E.bs s).1 (symS D E.bs s).2 from rfl)
  clear h hL
  generalize (symS D E.bs s).1 = X at *
  generalize (symS D E.bs s).2 = t at *
  obtain ⟨i, rfl⟩ : ∃ i : Nat, X = (i : Int) := ⟨X.toNat, by omega⟩
  by_cases h30 : i < 30
  · have hr2 := hide (show dsyS E.bs (i : Int) t = wthS E.bs (dstB[i]?.getD 0) (dstX[i]?.getD 0) t by unfold dsyS; rw [if_pos (by omega)]; simp)
    have db := dst_bd i h30
    obtain ⟨B, hB⟩ : ∃ B, B = dstB[i]?.getD 0 := ⟨_, rfl⟩
    obtain ⟨K, hK⟩ : ∃ K, K = dstX[i]?.getD 0 := ⟨_, rfl⟩
    rw [← hB, ← hK] at hr2 db
    have HB := hide hB
    have HK := hide hK
    clear hB hK
    have i1 : 0 ≤ (i : Int) ∧ (i : Int) < 30 := by omega
    go_enter Tryd.func26, Tryd.ntmps26
    go_wp2_with fail
    refine (unhide sc).mono ?_
    rintro e w1 ⟨rfl, s1, g1⟩
    have v1 := s1.vars.dstB i h30
    have v2 := s1.vars.dstX i h30
    rw [← unhide HB] at v1
    rw [← unhide HK] at v2
    have rl : ∀ wx : World, wx.heap = w1.heap → (Instr.loadAt 54 (.pointer (some ⟨1, i * 2, none⟩))).run Tryd.prog wx = .ok (.agg #[.int .i64 (B : Int), .int .i64 (K : Int)]) wx := by
      intro wx hx
      refine run_loadAt_mid wx 1 (i * 2) 54 [.int .i64 (B : Int), .int .i64 (K : Int)] _ ?_ Tryd.underlying54 rfl (by kernel_rfl)
      intro j u hj
      have e : ∀ a : Addr, wx.cell? a = w1.cell? a := fun a => by unfold World.cell?; rw [hx]
      match j, hj with
      | 0, hj => rw [e, ← Option.some.inj hj]; exact v1
      | 1, hj => rw [e, ← Option.some.inj hj]; exact v2
    have rl1 := rl w1.drew rfl
    have wc := hide (within_any w1.drew B K (by omega) (by omega) s1.drew)
    clear s1 rl
    go_wp2_with fail
    go_region_with (go_at_call 24; refine (unhide wc).mono ?_; rintro e w2 ⟨rfl, s2, g2⟩)
    all_goals have S2 := hide s2
    all_goals clear s2
    all_goals go_wp2_with fail
    all_goals go_ret
    all_goals rw [unhide hr, unhide hr2]
    all_goals exact ⟨rfl, unhide S2, (g1.drew).trans g2⟩
  · have hr2 := hide (show dsyS E.bs (i : Int) t = (0, stopS 5 t) by unfold dsyS; rw [if_neg (by omega)])
    have i1 : (30 : Int) ≤ (i : Int) := by omega
    go_enter Tryd.func26, Tryd.ntmps26
    go_wp2_with fail
    refine (unhide sc).mono ?_
    rintro e w1 ⟨rfl, s1, g1⟩
    have tc := hide (stop_any w1 5 (by omega) (by omega) s1)
    clear s1
    go_wp2_with fail
    refine (unhide tc).mono ?_
    rintro e w2 ⟨rfl, s2, g2⟩
    go_wp2_with fail
    go_ret
    rw [unhide hr, unhide hr2]
    exact ⟨rfl, s2, g1.trans g2⟩

/-- 'append(out, xs...)' at a step of a region that draws its order. -/
theorem step_appF {ops : Array Oper} {o : Oper} {a : Act} {w : World} {K : Act → World → Prop} {Q : Exit → Act → World → Prop} {G : Prop} (hgd : o.guard = none) (s x : Operand)
    (ho : o.op = .call { callee := .builtin .append, args := #[s, x], argTypes := #[22, 22] })
    (B : Nat) (ao : Option Addr) (n c : Nat) (bs : List Int) (hs : a.eval s = .slice ao n c) (hm : Mine B w ao n c bs)
    (ad : Addr) (m c' : Nat) (cs : List Int) (hx : a.eval x = .slice (some ad) m c') (hb : Bs w (some ad) m c' cs) (hbound : n + m ≤ 140737488355328) (hB : B ≤ w.heap.size)
    (h : ∀ ao1 c1 w1, Mine B w1 ao1 (n + m) c1 (bs ++ cs) → w.grownBy w1 (Value.slice ao n c).ownBlock → (∀ k, ob ao1 k → ob ao k ∨ w.heap.size ≤ k) → K (a.put o.dst (.slice ao1 (n + m) c1)) w1) :
    if Region.wanted o (yielded ops a.tmps) = true then Oper.wp Tryd.prog o a w K Q else G := by
  have hw : Region.wanted o (yielded ops a.tmps) = true := by simp [Region.wanted, hgd]
  rw [if_pos hw]
  obtain ⟨i0, hi, hz0, hz1, hz2⟩ := info_parts Tryd.infoByte
  have hlen := hm.len
  have hlen' := hb.len
  obtain ⟨v', w', hr, hown, hgrow, _, hsrc⟩ := run_append_own_at (P := Tryd.prog) w B 22 o.type 5 i0 (.int .u8 0) 1 1 Tryd.underlying22 hi hz0 hz1 hz2 rfl (by decide) _ _ _ hm.own ad m c' (cs.map (Value.int .u8)) (by simp [hlen']) hb.news (ints_oneCell _ _) (by unfold maxLen; omega) (by omega) hB
  rw [← List.map_append] at hown
  have hex : ∃ ao1 c1, v' = .slice ao1 (n + m) c1 := by
    rcases hown.2 with ⟨hv, h0⟩ | ⟨g, cap, cur, hv, _⟩
    · exact ⟨.none, 0, by rw [hv, h0]⟩
    · exact ⟨_, _, hv⟩
  obtain ⟨ao1, c1, hv⟩ := hex
  subst hv
  unfold Oper.wp execOp
  simp only [ho, resolve, invoke, builtin, Sem.run_bind, Sem.run_pure, Result.andThen_ok, List.map_toArray, List.map_cons, List.map_nil, hs, hx, hr]
  refine h ao1 c1 w' ⟨by simp [hlen, hlen'], hown, hm.byt.app hb.byt⟩ hgrow fun k hk => ?_
  obtain ⟨q, rfl, rfl⟩ := hk
  rcases hsrc with hq | hq
  · left
    cases ao with
    | none => simp [Value.ownBlock] at hq
    | some z => exact ⟨z, rfl, by simpa [Value.ownBlock] using hq.symm⟩
  · right
    simp [Value.ownBlock] at hq
    omega
end
end Go.Proofs.YtdpkemnklfnipaaDoor
