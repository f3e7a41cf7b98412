/-
  What Blocks, of package inflate, answers for any bytes. It writes nothing that was there. Conditions: at most a million bytes, a limit from 0 to a million; the tables hold what the program's text says.
-/
import Derived.Test.YtdpkemnklfnipaaDoorInfChain
namespace Go.Proofs.YtdpkemnklfnipaaDoor
open Go.RowKit
set_option linter.unusedVariables false
set_option linter.unusedSimpArgs false

theorem Tryd.infoBlk : (Tryd.prog.info? 35).map (fun i => (i.zero, i.size, i.bytes)) = some (some (.agg bz), 4, 32) := by kernel_rfl

def flat (l : List Blk) : List Value := l.flatMap fun x => (bv x).toList
theorem flat_len : ∀ l : List Blk, (flat l).length = l.length * 4
  | [] => rfl
  | x :: l => by
    have h := flat_len l
    have e : flat (x :: l) = (bv x).toList ++ flat l := rfl
    rw [e, List.length_append, h, show ((bv x).toList).length = 4 from rfl, List.length_cons]
    omega
theorem flat_app (l : List Blk) (x : Blk) : flat (l ++ [x]) = flat l ++ (bv x).toList := by simp [flat]
theorem flat_at : ∀ (l : List Blk) (i j : Nat) (x : Blk), l[i]? = some x → j < 4 → (flat l)[i * 4 + j]? = (bv x)[j]?
  | [], i, j, x, h, hj => by simp at h
  | y :: l, 0, j, x, h, hj => by
    simp at h
    subst h
    simp only [flat, List.flatMap_cons, Nat.zero_mul, Nat.zero_add]
    rw [List.getElem?_append_left (by simpa [bv] using hj)]
    simp
  | y :: l, i + 1, j, x, h, hj => by
    simp at h
    have ih := flat_at l i j x h hj
    simp only [flat, List.flatMap_cons] at ih ⊢
    have hs : ((bv y).toList).length = 4 := rfl
    rw [List.getElem?_append_right (by rw [hs]; omega), hs, show (i + 1) * 4 + j - 4 = i * 4 + j by omega]
    exact ih

/-- The blocks l in a row of the call's own, from block B on. -/
structure BMine (B : Nat) (w : World) (ao : Option Addr) (n c : Nat) (l : List Blk) : Prop where
  len : l.length = n
  own : w.ownsRow B 35 4 (.slice ao n c) n (flat l)
theorem BMine.nought (B : Nat) (w : World) : BMine B w .none 0 0 [] := ⟨rfl, World.ownsRow_nil _ _ _ _⟩
theorem BMine.ob {B : Nat} {w : World} {ao : Option Addr} {n c : Nat} {l : List Blk} (h : BMine B w ao n c l) {k : Nat} (hk : ob ao k) : B ≤ k ∧ k < w.heap.size := by
  obtain ⟨a, rfl, rfl⟩ := hk
  rcases h.own.2 with ⟨hv, _⟩ | ⟨g, cap, cur, hv, hg, hh, _⟩
  · simp at hv
  · simp only [Value.slice.injEq, Option.some.injEq] at hv
    obtain ⟨rfl, _⟩ := hv
    exact ⟨hg, (Array.getElem?_eq_some_iff.1 hh).1⟩
theorem BMine.keep {B : Nat} {w w' : World} {ao : Option Addr} {n c : Nat} {l : List Blk} (h : BMine B w ao n c l) (hk : ∀ k, Proofs.YtdpkemnklfnipaaDoor.ob ao k → w'.heap[k]? = w.heap[k]?) : BMine B w' ao n c l := by
  refine ⟨h.len, ⟨h.own.1, ?_⟩⟩
  rcases h.own.2 with hv | ⟨g, cap, cur, hv, hg, hh, r⟩
  · exact .inl hv
  · simp only [Value.slice.injEq] at hv
    obtain ⟨rfl, _, rfl⟩ := hv
    exact .inr ⟨g, _, cur, rfl, hg, by rw [hk g ⟨_, rfl, rfl⟩]; exact hh, r⟩
theorem BMine.mono {B B' : Nat} {w : World} {ao : Option Addr} {n c : Nat} {l : List Blk} (h : BMine B w ao n c l) (hB : B' ≤ B) : BMine B' w ao n c l := by
  refine ⟨h.len, ⟨h.own.1, ?_⟩⟩
  rcases h.own.2 with hv | ⟨g, cap, cur, hv, hg, r⟩
  · exact .inl hv
  · exact .inr ⟨g, cap, cur, hv, by omega, r⟩
theorem BMine.later {B : Nat} {w w' : World} {ao : Option Addr} {n c : Nat} {l : List Blk} (h : BMine B w ao n c l) (hb : Below w.heap.size w w') : BMine B w' ao n c l :=
  h.keep fun k hk => hb.block k (h.ob hk).2

/-- 'append(blocks, x)', blocks of the call's own. -/
theorem wpList_bapp {ops : Array Oper} {rest : List Oper} {o : Oper} {a : Act} {w : World} {Q : Exit → Act → World → Prop} (hgd : o.guard = none) (s x : Operand)
    (ho : o.op = .call { callee := .builtin .append, args := #[s, x], argTypes := #[31, 31] })
    (B : Nat) (ao : Option Addr) (n c : Nat) (l : List Blk) (hs : a.eval s = .slice ao n c) (hm : BMine B w ao n c l)
    (q : Nat) (y : Blk) (hx : a.eval x = .slice (some ⟨q, 0, none⟩) 1 1) (hb : Bx w q (bv y)) (hbound : n ≤ 1000000000) (hB : B ≤ w.heap.size)
    (h : ∀ ao1 c1 w1, BMine B w1 ao1 (n + 1) c1 (l ++ [y]) → w.grownBy w1 (Value.slice ao n c).ownBlock → (∀ k, ob ao1 k → ob ao k ∨ w.heap.size ≤ k) → wpList Tryd.prog ops Q rest (a.put o.dst (.slice ao1 (n + 1) c1)) w1) :
    wpList Tryd.prog ops Q (o :: rest) a w := by
  obtain ⟨i0, hi, hz0, hz1, hz2⟩ := info_parts Tryd.infoBlk
  have hlen := hm.len
  have hnews : ∀ j u, (bv y).toList[j]? = some u → w.cell? ((⟨q, 0, none⟩ : Addr).add j) = some u := by
    intro j u hu
    rw [Addr.add_lit, cell_of_row w q _ _ _ _ hb]
    simpa using hu
  have hone : ∀ u ∈ (bv y).toList, u.oneCell' = true := by
    intro u hu
    simp [bv] at hu
    rcases hu with rfl | rfl | rfl | rfl <;> rfl
  refine wpList_append_own_at w hgd s x 31 ho B 35 i0 (.agg bz) 4 32 Tryd.underlying31 hi hz0 hz1 hz2 rfl (by decide) _ _ _ hs hm.own ⟨q, 0, none⟩ 1 1 (bv y).toList hx rfl hnews hone (by unfold maxLen; omega) (by omega) hB ?_
  intro v' w' hown hgrow _ hsrc
  rw [← flat_app] at hown
  have hex : ∃ ao1 c1, v' = .slice ao1 (n + 1) c1 := by
    rcases hown.2 with ⟨hv, h0⟩ | ⟨g, cap, cur, hv, _⟩
    · omega
    · exact ⟨_, _, hv⟩
  obtain ⟨ao1, c1, hv⟩ := hex
  subst hv
  refine h ao1 c1 w' ⟨by simp [hlen], hown⟩ hgrow fun k hk => ?_
  obtain ⟨z, rfl, rfl⟩ := hk
  rcases hsrc with hq | hq
  · left
    cases ao with
    | none => simp [Value.ownBlock] at hq
    | some z => exact ⟨z, rfl, by simpa [Value.ownBlock] using hq.symm⟩
  · right
    simp [Value.ownBlock] at hq
    omega
theorem grown_at {w w1 : World} {ao : Option Addr} {n c k : Nat} (hgr : w.grownBy w1 (Value.slice ao n c).ownBlock) (hk : k < w.heap.size) (ho : ¬ ob ao k) : w1.heap[k]? = w.heap[k]? :=
  hgr.block k hk fun e => by
    cases ao with
    | none => simp [Value.ownBlock] at e
    | some z => exact ho ⟨z, rfl, by simpa [Value.ownBlock] using e.symm⟩

section
variable {E : Env} {g : Nat} {w0 : World} {oo : Option Addr} {oc : Nat} {s : PS} {ov : Bool}
theorem St.kept (h : St E g w0 oo oc s ov) {w' : World} (hb : Below g w0 w') (hg : w'.heap[g]? = w0.heap[g]?) (ho : ∀ k, ob oo k → w'.heap[k]? = w0.heap[k]?) : St E g w' oo oc s ov := by
  refine ⟨by rw [hg]; exact h.st, ?_, fun w1 f => h.b w1 (hb.trans f), h.v.later h.g3 hb, h.g3, h.fit⟩
  refine ⟨h.out.len, ⟨h.out.own.1, ?_⟩, h.out.byt⟩
  rcases h.out.own.2 with hv | ⟨p, cap, cur, hv, hp, hh, r⟩
  · exact .inl hv
  · simp only [Value.slice.injEq] at hv
    obtain ⟨rfl, _, rfl⟩ := hv
    exact .inr ⟨p, _, cur, rfl, hp, by rw [ho p ⟨_, rfl, rfl⟩]; exact hh, r⟩
/-- What holds at the loop's head. -/
def RelB (E : Env) (F : Nat) (w : World) (R : List Blk × PS) (v : Value) (wr : World) : Prop :=
  ∃ (t : PS) (f : Nat) (ov : Bool) (l : List Blk) (oo : Option Addr) (oc : Nat) (ao : Option Addr) (c : Nat), v = .slice ao l.length c ∧ allS F E.bs E.m f ov l t = R ∧ l.length + f ≤ F ∧ (t.e = 0 → 8 * E.bn + 1 ≤ f + t.p) ∧ St E w.heap.size wr oo oc t ov ∧ BMine (w.heap.size + 1) wr ao l.length c l ∧ (∀ k, ob ao k → ¬ ob oo k) ∧ Below w.heap.size w wr
end

def OutK (w : World) (r : List Blk × Int) (e : Ending) (w' : World) : Prop :=
  ∃ ao n c, e = .returned (.tuple #[.slice ao n c, .int .i64 r.2]) ∧ BMine w.heap.size w' ao n c r.1 ∧ Below w.heap.size w w'

set_option maxHeartbeats 2000000 in
theorem blocks_any (F : Nat) (w : World) (bo : Option Addr) (bn bc : Nat) (bs : List Int) (m : Int) (hb : Bs w bo bn bc bs) (hv : Vars w) (hn : bn ≤ 1000000) (m0 : 0 ≤ m) (m1 : m ≤ 1000000) (hF : 8 * bn + 1 ≤ F) (hF2 : F ≤ 1000000000) :
    Calls Tryd.prog 10 #[.slice bo bn bc, .int .i64 m] w fun e w' => OutK w (blkR (infS F bs m)) e w' := by
  have bc_ := hide (begun_any w bo bn bc bs m hb hv hn m0 m1)
  clear hb hv
  generalize hE : (⟨bo, bn, bc, bs, m⟩ : Env) = E at bc_
  have hE1 : E.bs = bs := by rw [← hE]
  have hE2 : E.m = m := by rw [← hE]
  have hE3 : E.bn = bn := by rw [← hE]
  generalize hR : infS F bs m = R
  have HR := hide (show allS F E.bs E.m F false [] ⟨0, 0, []⟩ = R by rw [hE1, hE2]; exact hR)
  rw [← hE3] at hF
  clear hE1 hE2 hR
  have HE := hide hE
  clear hE hE3
  go_enter Tryd.func10, Tryd.ntmps10
  go_wp2_with fail
  refine (unhide bc_).mono ?_
  rintro e w1 ⟨rfl, s1, b1⟩
  have S1 := hide s1
  clear s1
  go_wp2_with fail
  go_loopw [6] (fun v wr => RelB E F w R v wr) (fun _ wr => msI w.heap.size (8 * E.bn) wr)
  case atStart => exact ⟨⟨0, 0, []⟩, F, false, [], .none, 0, .none, 0, rfl, unhide HR, by simp, fun _ => by simp; omega, unhide S1, BMine.nought _ _, (fun k hk => by obtain ⟨a, h, _⟩ := hk; cases h), b1⟩
  case round =>
    obtain ⟨t, f, ov, l, oo, oc, ao, c, rfl, ha, hlf, hf, st, bm, hsep, bl⟩ := hrel
    have gc := hide (goesOn_any wr st)
    have c2 := st.c2
    have hp := st.fit.p
    have ST := hide st
    have HA := hide ha
    have BM := hide bm
    have HS := hide hsep
    clear ha st bm hsep
    by_cases hg : ov = false ∧ t.e = 0
    · have hms := hide (msI_on (unhide ST) hg.1 hg.2)
      have hfa := hf hg.2
      obtain ⟨f', hf'⟩ : ∃ f', f = f' + 1 := ⟨f - 1, by omega⟩
      subst hf'
      have hnx := hide (show allS F E.bs E.m f' (blkV F E.bs E.m t).last (l ++ [blkV F E.bs E.m t]) (blkS F E.bs E.m t) = R by rw [← unhide HA, allS_on hg.1 hg.2])
      have bk := hide (block_any F wr hF (unhide ST))
      have hd : decide (ov = false ∧ t.e = 0) = true := by simpa using hg
      rw [hd] at gc
      have up := hide (fun q => (blk_p (F := F) (b := E.bs) (m := E.m) (s := t) q).2.2.2.1)
      clear hd hf hg
      generalize blkV F E.bs E.m t = x at *
      generalize blkS F E.bs E.m t = t' at *
      have hbv : bv x = #[.int .i64 x.kind, .bool x.last, .int .i64 (x.at_ : Int), .int .i64 x.out] := rfl
      rw [hbv] at bk
      go_wp2_with fail
      refine same_world (unhide gc) ?_
      go_wp2_with fail
      refine (unhide bk).mono ?_
      rintro e w2 ⟨rfl, oo2, oc2, s2, f2⟩
      have hgl := s2.lt
      have BM2 := hide ((unhide BM).keep (fun k hk => f2.block k ((unhide BM).ob hk).2 (by have := ((unhide BM).ob hk).1; omega) (unhide HS k hk)))
      have sep2 := hide (fun k (hk : ob ao k) => (show ¬ ob oo2 k from fun q => by
        rcases f2.src k q with q1 | q1
        · exact unhide HS k hk q1
        · have := ((unhide BM).ob hk).2; omega))
      have B2 := hide (bl.trans ((unhide ST).below f2))
      have S2 := hide s2
      clear s2 f2 hbv
      go_wp2_with (at_builtin; refine wpList_bapp rfl (.tmp 13) (.tmp 16) rfl (w.heap.size + 1) ao _ c l rfl ((unhide BM2).later (below_alloc w2 _)) w2.heap.size x rfl (heap_alloc_new w2 _) (by omega) (by simp; omega) ?_; intro ao3 c3 w3 m3 hgr hsrc)
      have hal : Below w2.heap.size w2 (w2.alloc (.cells #[.int .i64 x.kind, .bool x.last, .int .i64 (x.at_ : Int), .int .i64 x.out] 35)) := below_alloc w2 _
      have sa := (unhide S2).later hal
      have sz : (w2.alloc (.cells #[.int .i64 x.kind, .bool x.last, .int .i64 (x.at_ : Int), .int .i64 x.out] 35)).heap.size = w2.heap.size + 1 := by simp
      have hk3 : ∀ k, k < w2.heap.size → ¬ ob ao k → w3.heap[k]? = (w2.alloc (.cells #[.int .i64 x.kind, .bool x.last, .int .i64 (x.at_ : Int), .int .i64 x.out] 35)).heap[k]? := fun k hk ho => grown_at hgr (by omega) ho
      have hao : ∀ k, k ≤ w.heap.size → ¬ ob ao k := fun k hk q => by have := ((unhide BM2).ob q).1; omega
      have b3 : Below w.heap.size (w2.alloc (.cells #[.int .i64 x.kind, .bool x.last, .int .i64 (x.at_ : Int), .int .i64 x.out] 35)) w3 :=
        ⟨hgr.os, hgr.tape, hgr.output, hgr.size, fun k hk => hk3 k (by omega) (hao k (by omega))⟩
      have s3 : St E w.heap.size w3 oo2 oc2 t' x.last := sa.kept b3 (hk3 _ hgl (hao _ (Nat.le_refl _))) (fun k hk => hk3 k ((unhide S2).out.ob hk).2 (fun q => unhide sep2 k q hk))
      refine ⟨⟨t', f', x.last, l ++ [x], oo2, oc2, ao3, c3, by simp, unhide hnx, by simp; omega, fun q => by have := unhide up q; omega, s3, by simpa using m3, fun k hk q => ?_, (unhide B2).trans ((hal.mono (by omega)).trans b3)⟩, ?_⟩
      · rcases hsrc k hk with h1 | h1
        · exact unhide sep2 k h1 q
        · have := ((unhide S2).out.ob q).2
          omega
      · rw [unhide hms]
        exact msI_lt s3 hp (fun q => by have := unhide up q; omega)
    · have hd : decide (ov = false ∧ t.e = 0) = false := by simpa using hg
      rw [hd] at gc
      have hR := hide (show R = (l, t) by rw [← unhide HA]; exact allS_end hg f)
      clear hd hg hf
      by_cases he : t.e = 0
      · have he' : (t.e != 0) = false := by simpa using he
        have hfin := hide (show blkR R = (l, 0) by rw [unhide hR]; exact if_pos he)
        go_wp2_with fail
        refine same_world (unhide gc) ?_
        go_wp2_with fail
        go_ret2
        rw [unhide hfin]
        exact ⟨ao, _, c, rfl, (unhide BM).mono (by omega), bl⟩
      · have he' : (t.e != 0) = true := by simpa using he
        have hfin := hide (show blkR R = ([], t.e) by rw [unhide hR]; exact if_neg he)
        go_wp2_with fail
        refine same_world (unhide gc) ?_
        go_wp2_with fail
        go_quiet (fail)
        go_wp2_with fail
        go_ret2
        rw [unhide hfin]
        exact ⟨.none, 0, 0, rfl, BMine.nought _ _, bl.trans ⟨rfl, rfl, rfl, Nat.le_refl _, fun _ _ => rfl⟩⟩

end Go.Proofs.YtdpkemnklfnipaaDoor
