/-
  What readNulls of package row returns: the bits of a binary row, and what is left behind them. It writes nothing that was there. Conditions: the slices can be read; at most 100,000 bytes; at most 4,096 types.
-/
import Derived.Test.YtkcblnojgonblaaRwNul
import Derived.BigQuiet
namespace Go.Proofs.Ytkcblnojgonblaa
open Go.RowKit
set_option linter.unusedVariables false
set_option linter.unusedSimpArgs false

theorem Bs.cutlh {w : World} {ao : Option Addr} {n c : Nat} {bs : List Int} (h : Bs w ao n c bs) {lo hi : Nat} (h1 : lo ≤ hi) (h2 : hi ≤ n) (L H : Int) (hL : L = lo) (hH : H = hi) :
    ∃ ao' c', (∀ wx, (Instr.slice 22 (.slice ao n c) (some (.int .i64 L)) (some (.int .i64 H)) none).run Try.prog wx = .ok (.slice ao' (hi - lo) c') wx) ∧ Bs w ao' (hi - lo) c' ((bs.drop lo).take (hi - lo)) ∧ ∀ k, ob ao' k → ob ao k :=
  ⟨_, _, run_cut_lh ao n c lo hi h1 (by have := h.le; omega) L H hL hH, h.cut h1 h2, fun k hk => ob_cut hk⟩
/-- The bits, and what is left behind them. -/
def nuB (b : List Int) (m : Nat) : List Int := (b.drop 1).take ((m + 9) / 8)
def nuL (b : List Int) (m : Nat) : List Int := b.drop (1 + (m + 9) / 8)
/-- The error. -/
def nuE (b : List Int) (ts : List Ty) : Int :=
  if b.length = 0 then 4 else if b[0]?.getD 0 ≠ 0 then 5 else if b.length - 1 < (ts.length + 9) / 8 then 4 else if mbN (nuB b ts.length) ts = false then 5 else 0
/-- Bits and a rest, or an error. -/
def OutU (w : World) (bo : Option Addr) (b : List Int) (ts : List Ty) (e : Ending) (w' : World) : Prop :=
  if nuE b ts = 0 then ∃ no nn nc lo ln lc, e = .returned (.tuple #[.slice no nn nc, .slice lo ln lc, .int .i64 0]) ∧ Bs w' no nn nc (nuB b ts.length) ∧ Bs w' lo ln lc (nuL b ts.length) ∧ (∀ k, ob no k → ob bo k) ∧ (∀ k, ob lo k → ob bo k) ∧ Below w.heap.size w w'
  else e = .returned (.tuple #[.slice none 0 0, .slice none 0 0, .int .i64 (nuE b ts)]) ∧ Below w.heap.size w w'
theorem below_dN (w : World) (n : Nat) : Below w.heap.size w (w.drewN n) := ⟨rfl, rfl, rfl, Nat.le_refl _, fun _ _ => rfl⟩
theorem results_t3 {P : Program} {fn : Func} {p u v : Tmp} (h : fn.results = #[.tmp p, .tmp u, .tmp v]) (tmps : Array Value) (w : World) : (results fn tmps).run P w = .ok (.tuple #[tmps.getD p undef, tmps.getD u undef, tmps.getD v undef]) w := by
  simp [results, h, Sem.run_bind, Result.andThen]

set_option maxHeartbeats 4000000 in
set_option maxRecDepth 100000 in
theorem readNulls_any (bo : Option Addr) (bn bc : Nat) (b : List Int) (tyo : Option Addr) (m tc : Nat) (ts : List Ty) (w : World) (h : Bs w bo bn bc b) (ht : Tys w tyo m tc ts) (hbn : bn ≤ 100000) (hm : m ≤ 4096) :
    Calls Try.prog 34 #[.slice bo bn bc, .slice tyo m tc] w fun e w' => OutU w bo b ts e w' := by
  have hbl := h.len
  have hml := ht.len
  have hle := h.le
  have hmx := h.max
  have htl := ht.le
  have htx := ht.max
  have err : ∀ (E : Int) (e : Ending) (w' : World), nuE b ts = E → E ≠ 0 → e = .returned (.tuple #[.slice none 0 0, .slice none 0 0, .int .i64 E]) → Below w.heap.size w w' → OutU w bo b ts e w' := by
    intro E e w' h1 h2 h3 h4
    unfold OutU
    rw [if_neg (by rw [h1]; exact h2), h1]
    exact ⟨h3, h4⟩
  have ERR := hide err
  clear err
  obtain ⟨SZ, hSZ⟩ : ∃ z, z = (m + 9) / 8 := ⟨_, rfl⟩
  have cN := hide (fun wx => nullBytes_any m wx (by omega))
  rw [← hSZ] at cN
  have hs2 : SZ ≤ 1000 := by omega
  obtain ⟨zs1, zs2⟩ := w64_small (n := SZ) (by omega)
  have HSZ := hide hSZ
  clear hSZ
  by_cases h0 : bn = 0
  · have g0 : ((bn : Int) == 0) = true := by simp [h0]
    have hE : nuE b ts = 4 := by unfold nuE; rw [if_pos (by omega)]
    have HE := hide hE
    subst h0
    clear hE h ht cN
    go_enter Try.func34, Try.ntmps34
    go_wp2_with fail
    refine bodyPost_ret (results_t3 rfl _ _) rfl ?_
    exact unhide ERR _ _ _ (unhide HE) (by decide) rfl (Below.refl _ _)
  have g0 : ((bn : Int) == 0) = false := by simpa using h0
  obtain ⟨cb, co, hix, hcx⟩ := h.idx (i := 0) (by omega) 0 rfl
  by_cases hx : b[0]?.getD 0 = 0
  · rw [hx] at hcx
    by_cases hs : bn - 1 < SZ
    · have gs : ((bn : Int) - 1 < (SZ : Int)) := by omega
      have HE := hide (show nuE b ts = 4 by unfold nuE; rw [if_neg (by omega), if_neg (fun z => z hx), if_pos (by rw [hbl, hml, ← unhide HSZ]; exact hs)])
      clear h ht
      go_enter Try.func34, Try.ntmps34
      go_wp2_with (go_at_call 25; refine same_world (unhide cN _) ?_)
      refine bodyPost_ret (results_t3 rfl _ _) rfl ?_
      exact unhide ERR _ _ _ (unhide HE) (by decide) rfl (Below.refl _ _)
    · have gs : ¬ ((bn : Int) - 1 < (SZ : Int)) := by omega
      obtain ⟨no, nc, hc1, hb1, ho1⟩ := h.cutlh (lo := 1) (hi := 1 + SZ) (by omega) (by omega) 1 (1 + (SZ : Int)) rfl (by omega)
      obtain ⟨lo, lc, hc2, hb2, ho2⟩ := h.cutl (lo := 1 + SZ) (by omega) (1 + (SZ : Int)) (by omega)
      rw [show 1 + SZ - 1 = SZ by omega] at hc1 hb1
      have hb1' : Bs w no SZ nc (nuB b ts.length) := by unfold nuB; rw [hml, ← unhide HSZ]; exact hb1
      have hb2' : Bs w lo (bn - (1 + SZ)) lc (nuL b ts.length) := by unfold nuL; rw [hml, ← unhide HSZ]; exact hb2
      have cM := hide (fun wx (hx : Below w.heap.size w wx) => mayBeNulls_any no SZ nc (nuB b ts.length) tyo m tc ts wx (hb1'.later hx) (ht.later hx) (unhide HSZ) hm)
      have HB1 := hide hb1'
      have HB2 := hide hb2'
      have HO1 := hide ho1
      have HO2 := hide ho2
      have HE : Hid (nuE b ts = if mbN (nuB b ts.length) ts = false then 5 else 0) := hide (by unfold nuE; rw [if_neg (by omega), if_neg (fun z => z hx), if_neg (by rw [hbl, hml, ← unhide HSZ]; exact hs)])
      clear h ht hb1 hb2 hb1' hb2' ho1 ho2
      generalize mbN (nuB b ts.length) ts = MB at *
      cases MB
      · have HE' := hide (show nuE b ts = 5 by rw [unhide HE]; rfl)
        clear HE HB1 HB2
        go_enter Try.func34, Try.ntmps34
        go_upto_region 8 with (go_at_call 25; refine same_world (unhide cN _) ?_)
        go_quiet (fail)
        go_wp2_with (go_at_call 50; refine (unhide cM (w.drewN nq) (below_dN w nq)).mono ?_; rintro e w2 ⟨rfl, b2⟩; have B2 := hide ((below_dN w nq).trans (b2.mono (below_dN w nq).size)); clear b2)
        refine bodyPost_ret (results_t3 rfl _ _) rfl ?_
        exact unhide ERR _ _ _ (unhide HE') (by decide) rfl (unhide B2)
      · have HE' := hide (show nuE b ts = 0 by rw [unhide HE]; rfl)
        clear HE
        go_enter Try.func34, Try.ntmps34
        go_upto_region 8 with (go_at_call 25; refine same_world (unhide cN _) ?_)
        go_quiet (fail)
        go_wp2_with (go_at_call 50; refine (unhide cM (w.drewN nq) (below_dN w nq)).mono ?_; rintro e w2 ⟨rfl, b2⟩; have B2 := hide ((below_dN w nq).trans (b2.mono (below_dN w nq).size)); clear b2)
        refine bodyPost_ret (results_t3 rfl _ _) rfl ?_
        unfold OutU
        rw [if_pos (unhide HE')]
        exact ⟨no, SZ, nc, lo, _, lc, rfl, (unhide HB1).later (unhide B2), (unhide HB2).later (unhide B2), unhide HO1, unhide HO2, unhide B2⟩
  · have HE := hide (show nuE b ts = 5 by unfold nuE; rw [if_neg (by omega), if_pos hx])
    generalize b[0]?.getD 0 = X at *
    have gx : (X != 0) = true := by simpa using hx
    clear h ht cN hx
    go_enter Try.func34, Try.ntmps34
    go_wp2_with fail
    refine bodyPost_ret (results_t3 rfl _ _) rfl ?_
    exact unhide ERR _ _ _ (unhide HE) (by decide) rfl (Below.refl _ _)


end Go.Proofs.Ytkcblnojgonblaa
