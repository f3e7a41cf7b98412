/-
  What mayBeNulls of package row returns: whether the bits are those of a row of such types. It writes nothing that was there. Conditions: the slices can be read; as many bytes as the types want; at most 4,096 types.
  What readNulls of package row returns: the bits of a binary row, and what is left behind them. It writes nothing that was there. Conditions: the slices can be read; at most 100,000 bytes; at most 4,096 types.
-/
import Derived.Test.YtkcblnojgonblaaGreatDoorRwCut
import Derived.BigQuiet
namespace Go.Proofs.YtkcblnojgonblaaGreatDoor
open Go.RowKit
set_option linter.unusedVariables false
set_option linter.unusedSimpArgs false

/-- The bits of the columns alone. -/
def ownB (nl : List Int) (m : Nat) (j : Nat) : Bool := decide (2 ≤ j) && (decide (j < m + 2) && bit nl j)
/-- Is there a column of TypeNull without its bit among the first j? -/
def noNull (nl : List Int) (ts : List Ty) (j : Nat) : Bool := (List.range j).all fun i => bit nl (i + 2) || (match ts[i]? with | some p => p.t != 6 | none => true)
/-- May the bits be? -/
def mbN (nl : List Int) (ts : List Ty) : Bool := noNull nl ts ts.length && (List.range (8 * nl.length)).all fun j => !bit nl j || (decide (2 ≤ j) && decide (j < ts.length + 2))
theorem noNull_next {nl : List Int} {ts : List Ty} {j : Nat} {p : Ty} (h : ts[j]? = some p) : noNull nl ts (j + 1) = (noNull nl ts j && (bit nl (j + 2) || p.t != 6)) := by
  unfold noNull
  rw [List.range_succ, List.all_append]
  simp [h]
theorem noNull_up {nl : List Int} {ts : List Ty} {j m : Nat} (h : noNull nl ts j = false) (hj : j ≤ m) : noNull nl ts m = false := by
  unfold noNull at h ⊢
  rw [List.all_eq_false] at h ⊢
  obtain ⟨i, hi, hq⟩ := h
  exact ⟨i, List.mem_range.2 (by have := List.mem_range.1 hi; omega), hq⟩
theorem own_eq {nl ow : List Int} {ts : List Ty} (hn : Byt nl) (ho : Byt ow) (hl : ow.length = nl.length) (hb : ∀ j, bit ow j = ownB nl ts.length j) : decide (ow = nl) = (List.range (8 * nl.length)).all fun j => !bit nl j || (decide (2 ≤ j) && decide (j < ts.length + 2)) := by
  by_cases h : ow = nl
  · rw [decide_eq_true h]
    symm
    rw [List.all_eq_true]
    intro j _
    have := hb j
    rw [h] at this
    unfold ownB at this
    cases hc : bit nl j
    · rfl
    · rw [hc] at this
      simp at this
      simp [this]
  · rw [decide_eq_false h]
    symm
    rw [List.all_eq_false]
    apply Classical.byContradiction
    intro hx
    apply h
    refine bit_ext ho hn hl (fun j hj => ?_)
    rw [hb j]
    unfold ownB
    cases hc : bit nl j
    · simp
    · have : ¬ ¬ (!bit nl j || (decide (2 ≤ j) && decide (j < ts.length + 2))) = true := fun q => hx ⟨j, List.mem_range.2 (by rw [← hl]; exact hj), q⟩
      have := Classical.not_not.1 this
      rw [hc] at this
      simp at this
      simp [this]
theorem own_next {nl : List Int} {j q : Nat} : ownB nl (j + 1) q = (ownB nl j q || (bit nl (j + 2) && decide (q = j + 2))) := by
  unfold ownB
  by_cases hq : q = j + 2
  · subst hq
    simp
  · by_cases h1 : q < j + 2
    · have h2 : q < j + 1 + 2 := by omega
      simp [h1, h2, hq]
    · have h2 : ¬ q < j + 1 + 2 := by omega
      simp [h1, h2, hq]

theorem rowEqual_any (ao : Option Addr) (n c : Nat) (cs : List Int) (bo : Option Addr) (m d : Nat) (bs : List Int) (w : World) (h : Bs w ao n c cs) (k : Bs w bo m d bs) :
    Calls Tryz.prog 68 #[.slice ao n c, .slice bo m d] w fun e w' => e = .returned (.bool (decide (cs = bs))) ∧ w' = w := by
  have h1 := h.str
  have h2 := k.str
  have he := hide (str_eq h.byt k.byt)
  clear h k
  go_enter Tryz.func68, Tryz.ntmps68
  go_wp2
  go_ret
  rw [← unhide he]
  exact ⟨rfl, rfl⟩

set_option maxHeartbeats 4000000 in
set_option maxRecDepth 100000 in
theorem mayBeNulls_any (ao : Option Addr) (n c : Nat) (nl : List Int) (tyo : Option Addr) (m tc : Nat) (ts : List Ty) (w : World) (h : Bs w ao n c nl) (ht : Tys w tyo m tc ts) (hn : n = (m + 9) / 8) (hm : m ≤ 4096) :
    Calls Tryz.prog 52 #[.slice ao n c, .slice tyo m tc] w fun e w' => e = .returned (.bool (mbN nl ts)) ∧ Below w.heap.size w w' := by
  have hnl := h.len
  have hml := ht.len
  have hle := h.le
  have hmx := h.max
  have htl := ht.le
  have htx := ht.max
  have HN := hide h
  have HT := hide ht
  have HNN := hide hn
  have hn2 : n ≤ 1000 := by omega
  obtain ⟨RES, hRES⟩ : ∃ z, z = mbN nl ts := ⟨_, rfl⟩
  rw [← hRES]
  have HR := hide (show RES = (noNull nl ts m && (List.range (8 * nl.length)).all fun j => !bit nl j || (decide (2 ≤ j) && decide (j < ts.length + 2))) by rw [hRES]; unfold mbN; rw [hml])
  clear hRES h ht hn
  go_enter Tryz.func52, Tryz.ntmps52
  go_wp2_with (at_make; refine wpList_mkFull rfl _ _ rfl _ _ _ _ n rfl rfl rfl rfl (Nat.le_trans hn2 (by decide)) ?_; intro w1 m1 b1 z1; have M1 := hide m1; have B1 := hide b1; have Z1 := hide z1; clear m1 b1 z1)
  go_loopw [13] (fun iv ws => ∃ (j : Nat) (ow : List Int), j ≤ m ∧ iv = .int .i64 (j : Int) ∧ Mine w.heap.size ws (some ⟨w.heap.size, 0, none⟩) n n ow ∧ (∀ q, bit ow q = ownB nl j q) ∧ noNull nl ts j = true ∧ Below w.heap.size w ws ∧ w.heap.size + 1 ≤ ws.heap.size) (fun iv _ => m - (intOf iv).toNat)
  case atStart =>
    refine ⟨0, _, by omega, rfl, unhide M1, (fun q => ?_), rfl, unhide B1, unhide Z1⟩
    rw [bit_zero]
    unfold ownB
    by_cases h2 : 2 ≤ q
    · have : ¬ q < 0 + 2 := by omega
      simp [this]
    · simp [h2]
  case round =>
    clear M1 B1 Z1
    obtain ⟨j, ow, hj, rfl, hM, hbit, h0, hB, hz⟩ := hrel
    have HM := hide hM
    have HB := hide hB
    have HBT := hide hbit
    clear hM hB hbit
    by_cases hlt : j < m
    · obtain ⟨p, hp⟩ : ∃ p, ts[j]? = some p := ⟨_, List.getElem?_eq_getElem (by omega)⟩
      have hlj : ((j : Nat) : Int) < (m : Int) := by omega
      obtain ⟨tb, tq, hiy, hty⟩ := ((unhide HT).later (unhide HB)).idx hp (j : Int) rfl
      have HTY := hide hty
      have SV := hide (tyc_info p)
      have OV := hide (tyc_one p)
      have HNX := hide (noNull_next (nl := nl) hp)
      have hq8 : (j + 2) / 8 < n := by rw [unhide HNN]; omega
      have cH := hide (fun wx (hx : Below w.heap.size w wx) => hasNull_any ao n c nl j wx ((unhide HN).later hx) hq8 (by omega))
      have cS := hide (fun wx (hx : Mine w.heap.size wx (some ⟨w.heap.size, 0, none⟩) n n ow) => setNull_any w.heap.size w.heap.size n n ow j wx hx hq8 (by omega))
      have HON := hide (fun q => own_next (nl := nl) (j := j) (q := q))
      clear hty hp
      generalize bit nl (j + 2) = BT at *
      obtain ⟨pt, pu⟩ := p
      have SV : Hid ((Tryz.prog.info? 23).map (·.size) = some (#[.int .u8 pt, .bool pu] : Array Value).size) := SV
      have OV : Hid ((#[.int .u8 pt, .bool pu] : Array Value).all (·.oneCell') = true) := OV
      cases BT
      · by_cases h6 : pt = 6
        · subst h6
          have HR' := hide (show RES = false by
            rw [unhide HR, noNull_up (j := j + 1) (by rw [unhide HNX, h0]; simp) (by omega)]
            rfl)
          clear HR HNX HON cS
          go_wp2_with (first | (with_reducible show wpList Tryz.prog _ _ (Oper.mk _ (Op.load 23 _) _ _ _ none :: _) _ _; refine wpList_ldT rfl (.tmp 16) rfl tb tq rfl ⟨6, pu⟩ (unhide HTY) ?_) | (with_reducible show wpList Tryz.prog _ _ (Oper.mk _ (Op.store 23 _ _) _ _ _ none :: _) _ _; refine wpList_stN rfl _ (.tmp 7) (.tmp 17) rfl #[.int .u8 6, .bool pu] (by simp [Act.eval, Act.put]) rfl (unhide SV) rfl (unhide OV) ?_; intro w2 r2 b2 l2; have B2 := hide ((unhide HB).trans (b2.mono (by omega))); have k0 := vrow_cell r2 (j := 0) (v := .int .u8 6) rfl; clear r2 b2 l2) | (go_at_call 24; refine same_world (unhide cH _ (unhide B2)) ?_))
          go_ret
          rw [unhide HR']
          exact ⟨rfl, unhide B2⟩
        · have g6 : (pt == 6) = false := by simpa using h6
          clear cS HR
          go_wp2_with (first | (with_reducible show wpList Tryz.prog _ _ (Oper.mk _ (Op.load 23 _) _ _ _ none :: _) _ _; refine wpList_ldT rfl (.tmp 16) rfl tb tq rfl ⟨pt, pu⟩ (unhide HTY) ?_) | (with_reducible show wpList Tryz.prog _ _ (Oper.mk _ (Op.store 23 _ _) _ _ _ none :: _) _ _; refine wpList_stN rfl _ (.tmp 7) (.tmp 17) rfl #[.int .u8 pt, .bool pu] (by simp [Act.eval, Act.put]) rfl (unhide SV) rfl (unhide OV) ?_; intro w2 r2 b2 l2; have B2 := hide ((unhide HB).trans (b2.mono (by omega))); have M2 := hide ((unhide HM).later b2); have z2 := b2.size; have k0 := vrow_cell r2 (j := 0) (v := .int .u8 pt) rfl; clear r2 b2 l2) | (go_at_call 24; refine same_world (unhide cH _ (unhide B2)) ?_))
          go_roundw
          case rel => exact ⟨j + 1, ow, by omega, by go_num, unhide M2, (fun q => by rw [unhide HBT q, unhide HON q]; simp), (by rw [unhide HNX, h0]; simp [h6]), unhide B2, by omega⟩
          case measure => simp [intOf]; omega
      · clear HR
        go_wp2_with (first | (with_reducible show wpList Tryz.prog _ _ (Oper.mk _ (Op.load 23 _) _ _ _ none :: _) _ _; refine wpList_ldT rfl (.tmp 16) rfl tb tq rfl ⟨pt, pu⟩ (unhide HTY) ?_) | (with_reducible show wpList Tryz.prog _ _ (Oper.mk _ (Op.store 23 _ _) _ _ _ none :: _) _ _; refine wpList_stN rfl _ (.tmp 7) (.tmp 17) rfl #[.int .u8 pt, .bool pu] (by simp [Act.eval, Act.put]) rfl (unhide SV) rfl (unhide OV) ?_; intro w2 r2 b2 l2; have B2 := hide ((unhide HB).trans (b2.mono (by omega))); have M2 := hide ((unhide HM).later b2); have z2 := b2.size; clear r2 b2 l2) | (go_at_call 24; refine same_world (unhide cH _ (unhide B2)) ?_) | (go_at_call 47; (with_reducible refine (unhide cS _ (unhide M2)).mono ?_); rintro e w3 ⟨rfl, ow', m3, bt3, g3⟩; have M3 := hide m3; have BT3 := hide bt3; have B3 := hide (below_gb' (unhide B2) g3 (by omega)); have z3 := g3.size; clear m3 bt3 g3))
        go_roundw
        case rel => exact ⟨j + 1, ow', by omega, by go_num, unhide M3, (fun q => by rw [unhide BT3 q, unhide HBT q, unhide HON q]; simp), (by rw [unhide HNX, h0]; simp), unhide B3, by omega⟩
        case measure => simp [intOf]; omega
    · have hjm : j = m := by omega
      subst hjm
      have hlj : ¬ ((j : Nat) : Int) < (j : Int) := by omega
      have cE := hide (rowEqual_any (some ⟨w.heap.size, 0, none⟩) n n ow ao n c nl wr (unhide HM).bs ((unhide HN).later (unhide HB)))
      rw [own_eq (ts := ts) (unhide HN).byt (unhide HM).byt (by rw [(unhide HM).len, hnl]) (fun q => by rw [unhide HBT q, hml])] at cE
      have HR' := hide (show RES = (List.range (8 * nl.length)).all fun j => !bit nl j || (decide (2 ≤ j) && decide (j < ts.length + 2)) by rw [unhide HR, h0]; rfl)
      clear HR
      generalize ((List.range (8 * nl.length)).all fun j => !bit nl j || (decide (2 ≤ j) && decide (j < ts.length + 2))) = QQ at *
      go_wp2_with (go_at_call 68; refine same_world (unhide cE) ?_)
      go_ret
      rw [unhide HR']
      exact ⟨rfl, unhide HB⟩


end Go.Proofs.YtkcblnojgonblaaGreatDoor

namespace Go.Proofs.YtkcblnojgonblaaGreatDoor
open Go.RowKit
set_option linter.unusedVariables false
set_option linter.unusedSimpArgs false

theorem Bs.cutlh {w : World} {ao : Option Addr} {n c : Nat} {bs : List Int} (h : Bs w ao n c bs) {lo hi : Nat} (h1 : lo ≤ hi) (h2 : hi ≤ n) (L H : Int) (hL : L = lo) (hH : H = hi) :
    ∃ ao' c', (∀ wx, (Instr.slice 29 (.slice ao n c) (some (.int .i64 L)) (some (.int .i64 H)) none).run Tryz.prog wx = .ok (.slice ao' (hi - lo) c') wx) ∧ Bs w ao' (hi - lo) c' ((bs.drop lo).take (hi - lo)) ∧ ∀ k, ob ao' k → ob ao k :=
  ⟨_, _, run_cut_lh ao n c lo hi h1 (by have := h.le; omega) L H hL hH, h.cut h1 h2, fun k hk => ob_cut hk⟩
/-- The bits, and what is left behind them. -/
def nuB (b : List Int) (m : Nat) : List Int := (b.drop 1).take ((m + 9) / 8)
def nuL (b : List Int) (m : Nat) : List Int := b.drop (1 + (m + 9) / 8)
/-- The error. -/
def nuE (b : List Int) (ts : List Ty) : Int :=
  if b.length = 0 then 4 else if b[0]?.getD 0 ≠ 0 then 5 else if b.length - 1 < (ts.length + 9) / 8 then 4 else if mbN (nuB b ts.length) ts = false then 5 else 0
/-- Bits and a rest, or an error. -/
def OutU (w : World) (bo : Option Addr) (b : List Int) (ts : List Ty) (e : Ending) (w' : World) : Prop :=
  if nuE b ts = 0 then ∃ no nn nc lo ln lc, e = .returned (.tuple #[.slice no nn nc, .slice lo ln lc, .int .i64 0]) ∧ Bs w' no nn nc (nuB b ts.length) ∧ Bs w' lo ln lc (nuL b ts.length) ∧ (∀ k, ob no k → ob bo k) ∧ (∀ k, ob lo k → ob bo k) ∧ Below w.heap.size w w'
  else e = .returned (.tuple #[.slice none 0 0, .slice none 0 0, .int .i64 (nuE b ts)]) ∧ Below w.heap.size w w'
theorem below_dN (w : World) (n : Nat) : Below w.heap.size w (w.drewN n) := ⟨rfl, rfl, rfl, Nat.le_refl _, fun _ _ => rfl⟩
theorem results_t3 {P : Program} {fn : Func} {p u v : Tmp} (h : fn.results = #[.tmp p, .tmp u, .tmp v]) (tmps : Array Value) (w : World) : (results fn tmps).run P w = .ok (.tuple #[tmps.getD p undef, tmps.getD u undef, tmps.getD v undef]) w := by
  simp [results, h, Sem.run_bind, Result.andThen]

set_option maxHeartbeats 4000000 in
set_option maxRecDepth 100000 in
theorem readNulls_any (bo : Option Addr) (bn bc : Nat) (b : List Int) (tyo : Option Addr) (m tc : Nat) (ts : List Ty) (w : World) (h : Bs w bo bn bc b) (ht : Tys w tyo m tc ts) (hbn : bn ≤ 100000) (hm : m ≤ 4096) :
    Calls Tryz.prog 21 #[.slice bo bn bc, .slice tyo m tc] w fun e w' => OutU w bo b ts e w' := by
  have hbl := h.len
  have hml := ht.len
  have hle := h.le
  have hmx := h.max
  have htl := ht.le
  have htx := ht.max
  have err : ∀ (E : Int) (e : Ending) (w' : World), nuE b ts = E → E ≠ 0 → e = .returned (.tuple #[.slice none 0 0, .slice none 0 0, .int .i64 E]) → Below w.heap.size w w' → OutU w bo b ts e w' := by
    intro E e w' h1 h2 h3 h4
    unfold OutU
    rw [if_neg (by rw [h1]; exact h2), h1]
    exact ⟨h3, h4⟩
  have ERR := hide err
  clear err
  obtain ⟨SZ, hSZ⟩ : ∃ z, z = (m + 9) / 8 := ⟨_, rfl⟩
  have cN := hide (fun wx => nullBytes_any m wx (by omega))
  rw [← hSZ] at cN
  have hs2 : SZ ≤ 1000 := by omega
  obtain ⟨zs1, zs2⟩ := w64_small (n := SZ) (by omega)
  have HSZ := hide hSZ
  clear hSZ
  by_cases h0 : bn = 0
  · have g0 : ((bn : Int) == 0) = true := by simp [h0]
    have hE : nuE b ts = 4 := by unfold nuE; rw [if_pos (by omega)]
    have HE := hide hE
    subst h0
    clear hE h ht cN
    go_enter Tryz.func21, Tryz.ntmps21
    go_wp2_with fail
    refine bodyPost_ret (results_t3 rfl _ _) rfl ?_
    exact unhide ERR _ _ _ (unhide HE) (by decide) rfl (Below.refl _ _)
  have g0 : ((bn : Int) == 0) = false := by simpa using h0
  obtain ⟨cb, co, hix, hcx⟩ := h.idx (i := 0) (by omega) 0 rfl
  by_cases hx : b[0]?.getD 0 = 0
  · rw [hx] at hcx
    by_cases hs : bn - 1 < SZ
    · have gs : ((bn : Int) - 1 < (SZ : Int)) := by omega
      have HE := hide (show nuE b ts = 4 by unfold nuE; rw [if_neg (by omega), if_neg (fun z => z hx), if_pos (by rw [hbl, hml, ← unhide HSZ]; exact hs)])
      clear h ht
      go_enter Tryz.func21, Tryz.ntmps21
      go_wp2_with (go_at_call 45; refine same_world (unhide cN _) ?_)
      refine bodyPost_ret (results_t3 rfl _ _) rfl ?_
      exact unhide ERR _ _ _ (unhide HE) (by decide) rfl (Below.refl _ _)
    · have gs : ¬ ((bn : Int) - 1 < (SZ : Int)) := by omega
      obtain ⟨no, nc, hc1, hb1, ho1⟩ := h.cutlh (lo := 1) (hi := 1 + SZ) (by omega) (by omega) 1 (1 + (SZ : Int)) rfl (by omega)
      obtain ⟨lo, lc, hc2, hb2, ho2⟩ := h.cutl (lo := 1 + SZ) (by omega) (1 + (SZ : Int)) (by omega)
      rw [show 1 + SZ - 1 = SZ by omega] at hc1 hb1
      have hb1' : Bs w no SZ nc (nuB b ts.length) := by unfold nuB; rw [hml, ← unhide HSZ]; exact hb1
      have hb2' : Bs w lo (bn - (1 + SZ)) lc (nuL b ts.length) := by unfold nuL; rw [hml, ← unhide HSZ]; exact hb2
      have cM := hide (fun wx (hx : Below w.heap.size w wx) => mayBeNulls_any no SZ nc (nuB b ts.length) tyo m tc ts wx (hb1'.later hx) (ht.later hx) (unhide HSZ) hm)
      have HB1 := hide hb1'
      have HB2 := hide hb2'
      have HO1 := hide ho1
      have HO2 := hide ho2
      have HE : Hid (nuE b ts = if mbN (nuB b ts.length) ts = false then 5 else 0) := hide (by unfold nuE; rw [if_neg (by omega), if_neg (fun z => z hx), if_neg (by rw [hbl, hml, ← unhide HSZ]; exact hs)])
      clear h ht hb1 hb2 hb1' hb2' ho1 ho2
      generalize mbN (nuB b ts.length) ts = MB at *
      cases MB
      · have HE' := hide (show nuE b ts = 5 by rw [unhide HE]; rfl)
        clear HE HB1 HB2
        go_enter Tryz.func21, Tryz.ntmps21
        go_upto_region 8 with (go_at_call 45; refine same_world (unhide cN _) ?_)
        go_quiet (fail)
        go_wp2_with (go_at_call 52; refine (unhide cM (w.drewN nq) (below_dN w nq)).mono ?_; rintro e w2 ⟨rfl, b2⟩; have B2 := hide ((below_dN w nq).trans (b2.mono (below_dN w nq).size)); clear b2)
        refine bodyPost_ret (results_t3 rfl _ _) rfl ?_
        exact unhide ERR _ _ _ (unhide HE') (by decide) rfl (unhide B2)
      · have HE' := hide (show nuE b ts = 0 by rw [unhide HE]; rfl)
        clear HE
        go_enter Tryz.func21, Tryz.ntmps21
        go_upto_region 8 with (go_at_call 45; refine same_world (unhide cN _) ?_)
        go_quiet (fail)
        go_wp2_with (go_at_call 52; refine (unhide cM (w.drewN nq) (below_dN w nq)).mono ?_; rintro e w2 ⟨rfl, b2⟩; have B2 := hide ((below_dN w nq).trans (b2.mono (below_dN w nq).size)); clear b2)
        refine bodyPost_ret (results_t3 rfl _ _) rfl ?_
        unfold OutU
        rw [if_pos (unhide HE')]
        exact ⟨no, SZ, nc, lo, _, lc, rfl, (unhide HB1).later (unhide B2), (unhide HB2).later (unhide B2), unhide HO1, unhide HO2, unhide B2⟩
  · have HE := hide (show nuE b ts = 5 by unfold nuE; rw [if_neg (by omega), if_pos hx])
    generalize b[0]?.getD 0 = X at *
    have gx : (X != 0) = true := by simpa using hx
    clear h ht cN hx
    go_enter Tryz.func21, Tryz.ntmps21
    go_wp2_with fail
    refine bodyPost_ret (results_t3 rfl _ _) rfl ?_
    exact unhide ERR _ _ _ (unhide HE) (by decide) rfl (Below.refl _ _)


end Go.Proofs.YtkcblnojgonblaaGreatDoor
