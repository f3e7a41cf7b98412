/-
  What Chunks of the statements' helpers returns: pieces of the bytes, one behind the other, to the last. Conditions: the slices can be read; at most a million bytes, at most 10,000 cuts.
-/
import Derived.Test.YtbolaljlhmakeaaGreatDoorBss
import Derived.Test.YtbolaljlhmakeaaGreatDoorPickA
import Derived.Test.YtbolaljlhmakeaaGreatDoorMMem
namespace Go.Proofs.YtbolaljlhmakeaaGreatDoor
open Go.RowKit
set_option linter.unusedVariables false
set_option linter.unusedSimpArgs false

/-- Bytes cut into pieces of these lengths. -/
def pcsK : List Int → List Nat → List (List Int)
  | _, [] => []
  | b, k :: r => b.take k :: pcsK (b.drop k) r
theorem pcsK_len : ∀ (ks : List Nat) (b : List Int), (pcsK b ks).length = ks.length
  | [], b => rfl
  | k :: r, b => by simp [pcsK, pcsK_len r]
theorem pcsK_at : ∀ (ks : List Nat) (b : List Int) (i : Nat) (k : Nat), ks[i]? = some k → (pcsK b ks)[i]? = some ((b.drop (ks.take i).sum).take k)
  | [], b, i, k, h => by simp at h
  | x :: r, b, 0, k, h => by simp at h; subst h; simp [pcsK]
  | x :: r, b, i + 1, k, h => by
    simp at h
    have := pcsK_at r (b.drop x) i k h
    simp only [pcsK, List.getElem?_cons_succ, this, List.take_succ_cons, List.sum_cons, List.drop_drop]

theorem Tryz.infoBs : (Tryz.prog.info? 31).map (fun i => (i.zero, i.size, i.bytes)) = some (some (.slice none 0 0), 1, 24) := by kernel_rfl
/-- A row of slices of the call's own, from block B on. -/
structure SMine (B : Nat) (w : World) (ao : Option Addr) (n c : Nat) (vs : List Value) : Prop where
  len : vs.length = n
  own : w.ownsRow B 31 1 (.slice ao n c) n vs
  one : ∀ v ∈ vs, v.oneCell' = true
theorem SMine.nought (B : Nat) (w : World) : SMine B w .none 0 0 [] := ⟨rfl, World.ownsRow_nil _ _ _ _, by simp⟩
theorem SMine.later {B : Nat} {w w' : World} {ao : Option Addr} {n c : Nat} {vs : List Value} (h : SMine B w ao n c vs) (hb : Below w.heap.size w w') : SMine B w' ao n c vs := by
  refine ⟨h.len, ⟨h.own.1, ?_⟩, h.one⟩
  rcases h.own.2 with hv | ⟨g, cap, cur, hv, hg, hh, r⟩
  · exact .inl hv
  · exact .inr ⟨g, cap, cur, hv, hg, by rw [hb.block g (Array.getElem?_eq_some_iff.1 hh).1]; exact hh, r⟩
/-- 'append(out, s)', out of the call's own. -/
theorem wpList_sapp {ops : Array Oper} {rest : List Oper} {o : Oper} {a : Act} {w : World} {Q : Exit → Act → World → Prop} (hgd : o.guard = none) (s x : Operand)
    (ho : o.op = .call { callee := .builtin .append, args := #[s, x], argTypes := #[45, 45] })
    (B : Nat) (ao : Option Addr) (n c : Nat) (vs : List Value) (hs : a.eval s = .slice ao n c) (hm : SMine B w ao n c vs)
    (q : Nat) (v : Value) (hv1 : v.oneCell' = true) (hx : a.eval x = .slice (some ⟨q, 0, none⟩) 1 1) (hc : w.cell? ⟨q, 0, none⟩ = some v) (hbound : n ≤ 1000000) (hB : B ≤ w.heap.size)
    (h : ∀ ao1 c1 w1, SMine B w1 ao1 (n + 1) c1 (vs ++ [v]) → Below B w w1 → wpList Tryz.prog ops Q rest (a.put o.dst (.slice ao1 (n + 1) c1)) w1) :
    wpList Tryz.prog ops Q (o :: rest) a w := by
  obtain ⟨i0, hi, hz0, hz1, hz2⟩ := info_parts Tryz.infoBs
  have hlen := hm.len
  refine wpList_append_own w hgd s x 45 ho B 31 i0 (.slice none 0 0) 1 24 Tryz.underlying45 hi hz0 hz1 hz2 rfl (by decide) _ _ _ hs hm.own ⟨q, 0, none⟩ 1 1 [v] hx rfl (fun j u hu => ?_) (fun u hu => by simp at hu; subst hu; exact hv1) (by unfold maxLen; omega) (by omega) hB ?_
  · have : j = 0 := by have := (List.getElem?_eq_some_iff.1 hu).1; simpa using this
    subst this
    simp at hu
    subst hu
    rw [Addr.add_lit]
    exact hc
  · intro v' w' hown hgrow _
    have hbel : Below B w w' := (Below.refl B w).grown hgrow hB (fun k hk => (hm.own.lt k hk).1)
    have hex : ∃ ao1 c1, v' = .slice ao1 (n + 1) c1 := by
      rcases hown.2 with ⟨hv, h0⟩ | ⟨g, cap, cur, hv, _⟩
      · omega
      · exact ⟨_, _, hv⟩
    obtain ⟨ao1, c1, hv⟩ := hex
    subst hv
    refine h ao1 c1 w' ⟨by simp [hlen], hown, fun u hu => ?_⟩ hbel
    rcases List.mem_append.1 hu with hu | hu
    · exact hm.one u hu
    · simp at hu; subst hu; exact hv1
/-- Such a row, read: each slice holds its bytes. -/
theorem SMine.bsl {B : Nat} {w : World} {ao : Option Addr} {n c : Nat} {vs : List Value} (h : SMine B w ao n c vs) (xs : List (List Int)) (hl : xs.length = n) (hx : ∀ (i : Nat) (x : List Int), xs[i]? = some x → ∃ (ai : Option Addr) (ci : Nat), vs[i]? = some (Value.slice ai x.length ci) ∧ Bs w ai x.length ci x) : Bsl w ao n c xs := by
  have hvl := h.len
  rcases h.own.2 with ⟨hv, h0⟩ | ⟨g, cap, cur, hv, hg, hh, hle, hmax, hsz, htake⟩
  · simp only [Value.slice.injEq] at hv
    obtain ⟨rfl, rfl, rfl⟩ := hv
    exact ⟨hl, Nat.le_refl _, by omega, fun i x hi => by have := (List.getElem?_eq_some_iff.1 hi).1; omega⟩
  · simp only [Value.slice.injEq] at hv
    obtain ⟨rfl, _, rfl⟩ := hv
    refine ⟨hl, hle, by unfold maxLen at hmax; omega, fun i x hi => ?_⟩
    obtain ⟨ai, ci, hvi, hB⟩ := hx i x hi
    have hin : i < n := by rw [← hl]; exact (List.getElem?_eq_some_iff.1 hi).1
    have hc := h.own.cells (g := g) rfl i _ hvi
    rw [Addr.add_lit, Nat.zero_add] at hc
    refine ⟨g, i, ai, ci, fun wx => ?_, hc, hB⟩
    rw [run_indexAt_slice wx 45 _ n c .i64 (i : Int) Tryz.elemBB]
    simp [Tryz.sizeBB, hin, Addr.add_lit, Result.andThen]

/-- The pieces so far: of these lengths, in these slices. -/
def CutK (w : World) (bo : Option Addr) (bs : List Int) (ks : List Nat) (vs : List Value) : Prop := ∀ (j k : Nat), ks[j]? = some k → ∃ aj cj, vs[j]? = some (.slice aj k cj) ∧ (∀ x, ob aj x → ob bo x) ∧ ∀ w', Below w.heap.size w w' → Bs w' aj k cj ((bs.drop (ks.take j).sum).take k)
theorem CutK.push {w : World} {bo : Option Addr} {bs : List Int} {ks : List Nat} {vs : List Value} (h : CutK w bo bs ks vs) (hl : ks.length = vs.length) {k : Nat} {ak : Option Addr} {ck : Nat} (hob : ∀ x, ob ak x → ob bo x) (hk : ∀ w', Below w.heap.size w w' → Bs w' ak k ck ((bs.drop ks.sum).take k)) : CutK w bo bs (ks ++ [k]) (vs ++ [.slice ak k ck]) := by
  intro j m hj
  rcases Nat.lt_or_ge j ks.length with q | q
  · rw [List.getElem?_append_left q] at hj
    obtain ⟨aj, cj, h1, h3, h2⟩ := h j m hj
    refine ⟨aj, cj, by rw [List.getElem?_append_left (by omega)]; exact h1, h3, ?_⟩
    rw [List.take_append_of_le_length (by omega)]
    exact h2
  · rw [List.getElem?_append_right q] at hj
    have h0 : j - ks.length = 0 := by have := (List.getElem?_eq_some_iff.1 hj).1; simp at this; omega
    rw [h0] at hj
    simp at hj
    subst hj
    have hje : j = ks.length := by omega
    subst hje
    refine ⟨ak, ck, by rw [hl]; simp, hob, ?_⟩
    rw [List.take_left]
    exact hk

/-- Behind Chunks. -/
def OutCk (w : World) (bo : Option Addr) (bs : List Int) (e : Ending) (w' : World) : Prop := ∃ oo on oc ks vs, e = .returned (.slice oo on oc) ∧ ks.sum = bs.length ∧ on ≤ 20000 ∧ ks.length = on ∧ CutK w bo bs ks vs ∧ SMine w.heap.size w' oo on oc vs ∧ Below w.heap.size w w'
/-- The chunks can be read in every later world in which just one block, that is none of theirs, has changed. -/
theorem chunks_read {w w' w2 : World} {g : Nat} {bo : Option Addr} {bs : List Int} {oo : Option Addr} {on oc : Nat} {ks : List Nat} {vs : List Value} (hl : ks.length = on) (hC : CutK w bo bs ks vs) (hS : SMine w.heap.size w' oo on oc vs) (hW : Below w.heap.size w w') (G : Gb g w' w2) (hg : g < w.heap.size) (hb : ¬ ob bo g) : Bsl w2 oo on oc (pcsK bs ks) := by
  have hS2 : SMine w.heap.size w2 oo on oc vs := by
    refine ⟨hS.len, ⟨hS.own.1, ?_⟩, hS.one⟩
    rcases hS.own.2 with hv | ⟨h, cap, cur, hv, hh, hc, r⟩
    · exact .inl hv
    · exact .inr ⟨h, cap, cur, hv, hh, by rw [G.block h (Array.getElem?_eq_some_iff.1 hc).1 (by omega)]; exact hc, r⟩
  refine hS2.bsl _ (by rw [pcsK_len, hl]) (fun j x hj => ?_)
  have hil : j < ks.length := by rw [← pcsK_len ks bs]; exact (List.getElem?_eq_some_iff.1 hj).1
  have hk : ks[j]? = some (ks[j]) := List.getElem?_eq_getElem hil
  rw [pcsK_at _ _ _ _ hk] at hj
  simp only [Option.some.injEq] at hj
  subst hj
  obtain ⟨aj, cj, h1, h3, h2⟩ := hC j _ hk
  have hB := h2 w' hW
  have hlen := hB.len
  rw [hlen]
  exact ⟨aj, cj, h1, hB.keepB fun k q hl => G.block k hl (fun e => hb (h3 g (e ▸ q)))⟩

set_option maxHeartbeats 2000000 in
theorem chunks_any (bo : Option Addr) (n c : Nat) (bs : List Int) (co : Option Addr) (cn cc : Nat) (cs : List Int) (w : World) (hb : Bs w bo n c bs) (hc : Is w co cn cc cs) (hn : n ≤ 1000000) (hcn : cn ≤ 10000) :
    Calls Tryz.prog 20 #[.slice bo n c, .slice co cn cc] w fun e w' => OutCk w bo bs e w' := by
  have hlen := hb.len
  have hle := hb.le
  have hmx := hb.max
  have cle := hc.le
  have cmx := hc.max
  have HB := hide (fun w' (q : Below w.heap.size w w') => hb.later q)
  have HC := hide (fun w' (q : Below w.heap.size w w') => hc.later q)
  have HL := hide hlen
  have cp := hide (fun x w => pick_any x 8 w (by omega) (by omega))
  clear hb hc hlen
  go_enter Tryz.func20, Tryz.ntmps20
  go_wp2_with fail
  go_loopw [0, 5, 6] (fun bv ov iv ws => ∃ (i a : Nat) (ao : Option Addr) (ac : Nat) (oo : Option Addr) (oc : Nat) (ks : List Nat) (vs : List Value), i ≤ cn ∧ a ≤ n ∧ iv = .int .i64 (i : Int) ∧ bv = .slice ao (n - a) ac ∧ ov = .slice oo vs.length oc ∧ vs.length = i ∧ ks.length = vs.length ∧ ks.sum = a ∧ (∀ w', Below w.heap.size w w' → Bs w' ao (n - a) ac (bs.drop a)) ∧ (∀ x, ob ao x → ob bo x) ∧ CutK w bo bs ks vs ∧ SMine w.heap.size ws oo vs.length oc vs ∧ Below w.heap.size w ws) (fun _ _ iv _ => cn - (intOf iv).toNat)
  case atStart => exact ⟨0, 0, bo, c, none, 0, [], [], by omega, by omega, rfl, rfl, rfl, rfl, rfl, rfl, unhide HB, (fun x h => h), (fun j k h => by simp at h), SMine.nought _ _, Below.refl _ _⟩
  case round =>
    obtain ⟨i, a, ao, ac, oo, oc, ks, vs, hi, ha, rfl, rfl, rfl, hvl, hkl, hsum, hBs, hOb, hCut, hS, hW⟩ := hrel
    have HOb := hide hOb
    have hz := hW.size
    have ble := (hBs w (Below.refl _ _)).le
    have bmx := (hBs w (Below.refl _ _)).max
    have HB2 := hide hBs
    have HCut := hide hCut
    have HS := hide hS
    have HW := hide hW
    have HKL := hide hkl
    have HSUM := hide hsum
    obtain ⟨m, hm⟩ : ∃ m, n - a = m := ⟨_, rfl⟩
    rw [hm] at HB2 ble ⊢
    have hmn : m ≤ 1000000 := by omega
    have HMM := hide hm
    by_cases ai : i < cn
    · by_cases am : 0 < m
      · obtain ⟨cb, co', hix, hce⟩ := (unhide HC wr (unhide HW)).idx ai (i : Int) rfl
        have ai' : (i : Int) < (cn : Int) := by omega
        generalize cs[i]?.getD 0 = x at *
        rw [hvl] at HS ⊢
        clear hBs hOb hCut hS hW hkl hsum hm
        go_wp2_with fail
        refine (unhide cp _ _).mono ?_
        rintro e wx ⟨⟨kk, rfl, q0, q1⟩, hwx⟩
        have hwx' := hwx.symm
        subst hwx'
        clear hwx
        obtain ⟨K, hK⟩ : ∃ K : Nat, (if (m : Int) < kk then (m : Int) else kk) = (K : Int) := ⟨(if (m : Int) < kk then (m : Int) else kk).toNat, by split <;> omega⟩
        have hK2 : (if kk < (m : Int) then kk else (m : Int)) = (K : Int) := by rw [← hK]; split <;> split <;> omega
        have hKm : K ≤ m := by have := hK; split at this <;> omega
        have cut1 := run_cut_h ao m ac K (by omega) (K : Int) rfl
        have cut2 := run_cut_l ao m ac K hKm (K : Int) rfl
        have hq := hide (fun w' hw => (unhide HB2 w' hw).cut (Nat.zero_le K) hKm)
        have hr := hide (fun w' hw => (unhide HB2 w' hw).cut hKm (Nat.le_refl _))
        simp only [Nat.sub_zero, List.drop_zero] at cut1 hq
        rw [show ((bs.drop a).drop K).take (m - K) = bs.drop (a + K) by rw [List.drop_drop]; exact List.take_of_length_le (by rw [List.length_drop, unhide HL]; have := unhide HMM; omega)] at hr
        have HO1 := hide (show ∀ x, ob (cutAt ao ac 0) x → ob bo x from fun x h => unhide HOb x (ob_cut h))
        have HO2 := hide (show ∀ x, ob (cutAt ao ac K) x → ob bo x from fun x h => unhide HOb x (ob_cut h))
        generalize cutAt ao ac 0 = ao1 at *
        generalize cutAt ao ac K = ao2 at *
        generalize ac - K = ac2 at *
        have hpush := hide ((unhide HCut).push (unhide HKL) (k := K) (ak := ao1) (ck := ac) (unhide HO1) (fun w' hw => by rw [unhide HSUM]; exact unhide hq w' hw))
        have cell2 : (wr.alloc (.cells #[.slice ao1 K ac] 31)).cell? ⟨wr.heap.size, 0, none⟩ = some (.slice ao1 K ac) := cell_top wr _ _ 0 _ rfl
        have BL := hide (below_alloc wr (.cells #[.slice ao1 K ac] 31))
        have HCL := hide cell2
        clear cell2
        go_wp2_with (first
          | (at_builtin; refine wpList_sapp rfl (.tmp 27) (.tmp 31) rfl w.heap.size oo i oc vs rfl ((unhide HS).later (unhide BL)) wr.heap.size (.slice ao1 K ac) rfl rfl (unhide HCL) (by omega) (by simp; omega) ?_; intro o2 c2 w2 m2 b2; have M2 := hide m2; have B2 := hide ((unhide HW).trans (((unhide BL).mono hz).trans b2)); clear m2 b2))
        go_roundw
        case rel =>
          refine ⟨i + 1, a + K, ao2, ac2, o2, c2, ks ++ [K], vs ++ [.slice ao1 K ac], by omega, by have := unhide HMM; omega, by go_num, by rw [show n - (a + K) = m - K by have := unhide HMM; omega], by rw [List.length_append, hvl]; rfl, by rw [List.length_append, hvl]; rfl, by rw [List.length_append, List.length_append, unhide HKL]; rfl, by rw [List.sum_append, unhide HSUM]; simp, ?_, unhide HO2, unhide hpush, by rw [List.length_append, hvl]; exact unhide M2, unhide B2⟩
          rw [show n - (a + K) = m - K by have := unhide HMM; omega]
          exact unhide hr
        case measure => simp [intOf]; omega
      · have hm0 : m = 0 := by omega
        clear hBs hOb hCut hS hW hkl hsum hm am
        subst hm0
        have ai' : (i : Int) < (cn : Int) := by omega
        have cell2 : (wr.alloc (.cells #[.slice ao 0 ac] 31)).cell? ⟨wr.heap.size, 0, none⟩ = some (.slice ao 0 ac) := cell_top wr _ _ 0 _ rfl
        have BL := hide (below_alloc wr (.cells #[.slice ao 0 ac] 31))
        have HCL := hide cell2
        clear cell2
        rw [hvl] at HS ⊢
        have HVL := hide hvl
        clear hvl
        go_wp2_with (first
          | (at_builtin; refine wpList_sapp rfl (.tmp 36) (.tmp 38) rfl w.heap.size oo i oc vs rfl ((unhide HS).later (unhide BL)) wr.heap.size (.slice ao 0 ac) rfl rfl (unhide HCL) (by omega) (by simp; omega) ?_; intro o2 c2 w2 m2 b2; have M2 := hide m2; have B2 := hide ((unhide HW).trans (((unhide BL).mono hz).trans b2)); clear m2 b2))
        go_ret
        have hpush := (unhide HCut).push (unhide HKL) (k := 0) (ak := ao) (ck := ac) (unhide HOb) (fun w' hw => by
          have := unhide HB2 w' hw
          rw [unhide HSUM]
          rwa [List.take_of_length_le (by rw [List.length_drop, unhide HL]; have := unhide HMM; omega)])
        refine ⟨o2, i + 1, c2, ks ++ [0], vs ++ [.slice ao 0 ac], rfl, ?_, by omega, ?_, hpush, unhide M2, unhide B2⟩
        · rw [List.sum_append, unhide HSUM]; simp; have := unhide HMM; have := unhide HL; omega
        · rw [List.length_append, unhide HKL, unhide HVL]; rfl
    · have ai' : ¬ (i : Int) < (cn : Int) := by omega
      clear hBs hOb hCut hS hW hkl hsum hm
      have cell2 : (wr.alloc (.cells #[.slice ao m ac] 31)).cell? ⟨wr.heap.size, 0, none⟩ = some (.slice ao m ac) := cell_top wr _ _ 0 _ rfl
      have BL := hide (below_alloc wr (.cells #[.slice ao m ac] 31))
      have HCL := hide cell2
      clear cell2
      rw [hvl] at HS ⊢
      have HVL := hide hvl
      clear hvl
      go_wp2_with (first
        | (at_builtin; refine wpList_sapp rfl (.tmp 36) (.tmp 38) rfl w.heap.size oo i oc vs rfl ((unhide HS).later (unhide BL)) wr.heap.size (.slice ao m ac) rfl rfl (unhide HCL) (by omega) (by simp; omega) ?_; intro o2 c2 w2 m2 b2; have M2 := hide m2; have B2 := hide ((unhide HW).trans (((unhide BL).mono hz).trans b2)); clear m2 b2))
      go_ret
      have hpush := (unhide HCut).push (unhide HKL) (k := m) (ak := ao) (ck := ac) (unhide HOb) (fun w' hw => by
        have := unhide HB2 w' hw
        rw [unhide HSUM]
        rwa [List.take_of_length_le (by rw [List.length_drop, unhide HL]; have := unhide HMM; omega)])
      refine ⟨o2, i + 1, c2, ks ++ [m], vs ++ [.slice ao m ac], rfl, ?_, by omega, ?_, hpush, unhide M2, unhide B2⟩
      · rw [List.sum_append, unhide HSUM]; simp; have := unhide HMM; have := unhide HL; omega
      · rw [List.length_append, unhide HKL, unhide HVL]; rfl

end Go.Proofs.YtbolaljlhmakeaaGreatDoor
