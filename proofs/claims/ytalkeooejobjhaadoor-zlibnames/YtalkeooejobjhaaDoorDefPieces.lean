/-
  What size and Pieces, of package deflate, answer for any bytes: the pieces of these. They write nothing that was there. Conditions: at most 32,768 bytes.
-/
import Derived.Test.YtalkeooejobjhaaDoorDefPiece
namespace Go.Proofs.YtalkeooejobjhaaDoor
open Go.RowKit Go.Maps
set_option linter.unusedVariables false
set_option linter.unusedSimpArgs false

set_option maxHeartbeats 1000000 in
theorem size_any (w : World) (l d b : Int) :
    Calls Tryd.prog 41 #[.agg #[.int .i64 l, .int .i64 d, .int .u8 b]] w fun e w' => e = .returned (.int .i64 (sz ⟨l, d, b⟩ : Int)) ∧ Below w.heap.size w w' := by
  by_cases hl : 1 < l
  · have hs := hide (show (sz ⟨l, d, b⟩ : Int) = l by unfold sz; simp only; rw [if_neg (by omega)]; omega)
    go_enter Tryd.func41, Tryd.ntmps41
    go_wp2_with fail
    go_ret
    rw [unhide hs]
    exact ⟨rfl, below_alloc w _⟩
  · have hs := hide (show (sz ⟨l, d, b⟩ : Int) = 1 by unfold sz; simp only; split <;> omega)
    go_enter Tryd.func41, Tryd.ntmps41
    go_wp2_with fail
    go_ret
    rw [unhide hs]
    exact ⟨rfl, below_alloc w _⟩

/-- The finder, and the row that pieces are laid in. -/
def noF (g : Nat) (ao : Option Addr) (k : Nat) : Prop := k = g ∨ ob ao k

section
variable {E : Fv} {g B base : Nat} {w w' : World} {A M : Nat} {ao ao1 : Option Addr}

theorem Fn.app {n c : Nat} (h : Fn E (noF g ao) g B base w A M) (hg : w.grownBy w' (Value.slice ao n c).ownBlock) (hog : ¬ ob ao g) (hoB : ¬ ob ao B) (hlo : ∀ k, ob ao k → E.lo ≤ k) (hs : ∀ k, ob ao1 k → ob ao k ∨ w.heap.size ≤ k) (hl : ∀ k, ob ao1 k → k < w'.heap.size) : Fn E (noF g ao1) g B base w' A M := by
  have hob : ∀ j, (Value.slice ao n c).ownBlock = some j → ob ao j := fun j hj => by
    cases ao with
    | none => simp [Value.ownBlock] at hj
    | some z => exact ⟨z, rfl, by simpa [Value.ownBlock] using hj⟩
  have hoff := h.sh.rowsOff (row := (Value.slice ao n c).ownBlock) (fun j hj => .inr (hob j hj))
  have hB : some B ≠ (Value.slice ao n c).ownBlock := fun e => hoB (hob B e.symm)
  have hbl : Below E.lo w w' := ⟨hg.os, hg.tape, hg.output, hg.size, fun k hk => hg.block k (by have := h.los; omega) (fun e => by have := hlo k (hob k e.symm); omega)⟩
  have sh1 : w.Shuns B (noF g ao1) := by
    obtain ⟨D, ho, _⟩ := h.own
    refine h.sh.reno ho fun k hk => ?_
    rcases hk with hk | hk
    · exact .inl (.inl hk)
    · rcases hs k hk with q | q
      · exact .inl (.inr q)
      · exact .inr q
  refine ⟨?_, ?_, sh1.kept hg h.own.lt hB, .inl rfl, fun k hk => ?_, h.gB, fun w1 f => h.b w1 (hbl.trans f), h.lo, Nat.le_trans h.bw hg.size, h.bn, h.bl, h.A, h.M⟩
  · rw [hg.block g h.glt (fun e => hog (hob g e.symm))]
    exact h.st
  · obtain ⟨D, ho, hr⟩ := h.own
    exact ⟨D, ho.kept hg hB hoff, hr⟩
  · rcases hk with hk | hk
    · rw [hk]; exact Nat.lt_of_lt_of_le h.glt hg.size
    · exact hl k hk
end

theorem pce_ok (bs : List Int) (A : Nat) (hb : Byt bs) (hA : A < bs.length) (hn : bs.length ≤ 32768) : Pok (pce bs A) := by
  by_cases h : 3 ≤ (bst bs A).1
  · obtain ⟨n, q, _, e, h1, h2, h3, h4, _⟩ := pce_copy bs A h
    rw [e]
    exact ⟨by simp only; omega, by simp only; omega, by simp only; omega, by simp only; omega, by simp, by simp⟩
  · rw [(pce_byte bs A h).1]
    have := hb.at A
    exact ⟨by simp, by simp, by simp, by simp, by simp; omega, by simp; omega⟩

/-- Where the finder is. -/
def atF (g : Nat) (w : World) : Nat := match w.cell? ⟨g, 1, none⟩ with | some (.int _ a) => a.toNat | _ => 0
theorem Fn.atF {E : Fv} {No : Nat → Prop} {g B base : Nat} {w : World} {A M : Nat} (h : Fn E No g B base w A M) : atF g w = A := by unfold Proofs.YtalkeooejobjhaaDoor.atF; rw [h.c1]; simp

/-- What holds at the loop's head. -/
def RelP (E : Fv) (w : World) (R : List Pc) (v : Value) (wr : World) : Prop :=
  ∃ (A f : Nat) (ao : Option Addr) (n c : Nat) (l : List Pc), v = .slice ao n c ∧ l ++ pcs E.bs f A = R ∧ E.bn < f + A ∧ n ≤ A ∧ PMine (w.heap.size + 2) wr ao n c l ∧ Fn E (noF (w.heap.size + 1) ao) (w.heap.size + 1) w.heap.size (w.heap.size + 1) wr A A ∧ Below w.heap.size w wr

set_option maxHeartbeats 2000000 in
set_option maxRecDepth 20000 in
theorem pieces_any (w : World) (bo : Option Addr) (bn bc : Nat) (bs : List Int) (hb : Bs w bo bn bc bs) (hn : bn ≤ 32768) :
    Calls Tryd.prog 24 #[.slice bo bn bc] w fun e w' => ∃ ao n c, e = .returned (.slice ao n c) ∧ PMine w.heap.size w' ao n c (pieces bs) ∧ Below w.heap.size w w' := by
  have hlen := hb.len
  have hle := hb.le
  have hmx := hb.max
  have HB := hide hb
  obtain ⟨R, hR⟩ : ∃ R, R = pieces bs := ⟨_, rfl⟩
  rw [← hR]
  have HR := hide hR
  obtain ⟨E, hE⟩ : ∃ E : Fv, E = ⟨w.heap.size, bo, bn, bc, bs⟩ := ⟨_, rfl⟩
  have hE1 : E.bn = bn := by rw [hE]
  have hE2 : E.bs = bs := by rw [hE]
  have HE := hide (And.intro hE1 hE2)
  have st : Fn E (noF (w.heap.size + 1) none) (w.heap.size + 1) w.heap.size (w.heap.size + 1) ((w.alloc (.map #[] 0)).alloc (.cells #[.slice bo bn bc, .int .i64 0, .map (some w.heap.size)] 78)) 0 0 := by
    subst hE
    have b1 := below_alloc w (.map #[] 0)
    have b2 := below_alloc (w.alloc (.map #[] 0)) (.cells #[.slice bo bn bc, .int .i64 0, .map (some w.heap.size)] 78)
    have s1 : (w.alloc (.map #[] 0)).heap.size = w.heap.size + 1 := by simp
    refine ⟨?_, ?_, ?_, .inl rfl, fun k hk => ?_, by omega, fun w1 f => hb.later ((b1.trans (b2.mono (by omega))).trans f), ⟨by simp, Nat.le_refl _, by simp⟩, by simp, hn, hlen, Nat.zero_le _, Nat.zero_le _⟩
    · rw [← s1]; exact heap_alloc_new _ _
    · refine Grp.later (w := w.alloc (.map #[] 0)) ⟨.map [], World.ownsGroups_made w Tryd.prog 101 3 .i64, fun a b c kl _ => ?_⟩ b2
      rfl
    · exact (World.Shuns_made w _).kept (grown_of b2) (by simp) (by simp)
    · rcases hk with rfl | ⟨a, ha, _⟩
      · simp
      · cases ha
  have ST := hide st
  have hmm := @run_makeMap Tryd.prog
  clear hb st hE hE1 hE2 hR
  go_enter Tryd.func24, Tryd.ntmps24
  go_wp2_with fail
  go_loopw [3] (fun v wr => RelP E w R v wr) (fun _ wr => bn - atF (w.heap.size + 1) wr)
  case atStart =>
    refine ⟨0, bn + 1, none, 0, 0, [], rfl, ?_, by rw [(unhide HE).1]; omega, Nat.le_refl _, PMine.nought _ _, unhide ST, (below_alloc w _).trans ((below_alloc (w.alloc (.map #[] 0)) _).mono (by simp))⟩
    rw [unhide HR, (unhide HE).2, ← hlen]
    rfl
  case round =>
    clear ST
    obtain ⟨A, f, ao, n, c, l, rfl, hl, hf, hnA, hm, fn, bw⟩ := hrel
    have c1 := fn.c1
    have hma := hide fn.atF
    have hAn := fn.A
    rw [(unhide HE).1] at hAn hf
    have hno : ∀ k, ob ao k → w.heap.size + 2 ≤ k ∧ k < wr.heap.size := fun k hk => hm.ob hk
    have HL := hide hl
    by_cases hlt : A < bn
    · have hlt' : (A : Int) < (bn : Int) := by omega
      obtain ⟨f', rfl⟩ : ∃ f', f = f' + 1 := ⟨f - 1, by omega⟩
      have hpos := hide (pcs_on (bs := E.bs) (A := A) (by rw [fn.bl, (unhide HE).1]; exact hlt) f')
      have pc := hide (piece_any wr fn (by rw [(unhide HE).1]; exact hlt))
      have hok := hide (pce_ok E.bs A fn.bs.byt (by rw [fn.bl, (unhide HE).1]; exact hlt) (by rw [fn.bl]; exact fn.bn))
      have hsz := pce_sz E.bs A (by rw [fn.bl, (unhide HE).1]; exact hlt)
      rw [fn.bl, (unhide HE).1] at hsz
      obtain ⟨P, hP⟩ : ∃ P, P = pce E.bs A := ⟨_, rfl⟩
      rw [← hP] at pc hpos hok hsz
      obtain ⟨pl, pd, pb⟩ := P
      simp only [pv] at pc
      have FN := hide fn
      have HM := hide hm
      have BW := hide bw
      have HNO := hide hno
      clear hP hl fn hm bw hno
      obtain ⟨S, hS⟩ : ∃ S, S = sz ⟨pl, pd, pb⟩ := ⟨_, rfl⟩
      rw [← hS] at hsz hpos
      have HS := hide hS
      clear hS
      go_wp2_with fail
      refine (unhide pc).mono ?_
      rintro e w1 ⟨rfl, b1⟩
      have z1 := b1.size
      have bb1 := below_alloc w1 (.cells #[.int .i64 pl, .int .i64 pd, .int .u8 pb] 72)
      have bb2 := below_alloc (w1.alloc (.cells #[.int .i64 pl, .int .i64 pd, .int .u8 pb] 72)) (.cells #[.int .i64 pl, .int .i64 pd, .int .u8 pb] 72)
      have x2 := hide (heap_alloc_new (w1.alloc (.cells #[.int .i64 pl, .int .i64 pd, .int .u8 pb] 72)) (.cells #[.int .i64 pl, .int .i64 pd, .int .u8 pb] 72))
      have s2 : (w1.alloc (.cells #[.int .i64 pl, .int .i64 pd, .int .u8 pb] 72)).heap.size = w1.heap.size + 1 := by simp
      rw [s2] at x2
      have b2 : Below wr.heap.size wr ((w1.alloc (.cells #[.int .i64 pl, .int .i64 pd, .int .u8 pb] 72)).alloc (.cells #[.int .i64 pl, .int .i64 pd, .int .u8 pb] 72)) := (b1.trans (bb1.mono z1)).trans (bb2.mono (by omega))
      have hm2 := hide ((unhide HM).later b2)
      have fn2 := hide ((unhide FN).later b2)
      have q2 := hide (show Px _ (w1.heap.size + 1) ⟨pl, pd, pb⟩ from unhide x2)
      have bw2 := hide ((unhide BW).trans (b2.mono (unhide BW).size))
      have zw := (unhide BW).size
      have k0 : w1.heap.size < ((w1.alloc (.cells #[.int .i64 pl, .int .i64 pd, .int .u8 pb] 72)).alloc (.cells #[.int .i64 pl, .int .i64 pd, .int .u8 pb] 72)).heap.size := by simp; omega
      have pvar := hide (show Px ((w1.alloc (.cells #[.int .i64 pl, .int .i64 pd, .int .u8 pb] 72)).alloc (.cells #[.int .i64 pl, .int .i64 pd, .int .u8 pb] 72)) w1.heap.size ⟨pl, pd, pb⟩ from (px_new w1 ⟨pl, pd, pb⟩).later bb2)
      have hgw := (unhide FN).glt
      clear bb1 bb2 b1 b2 x2
      go_wp2_with (at_builtin; refine wpList_papp rfl (.tmp 19) (.tmp 21) rfl (w.heap.size + 2) ao n c l rfl (unhide hm2) (w1.heap.size + 1) ⟨pl, pd, pb⟩ (unhide hok) rfl (unhide q2) (by omega) (by simp; omega) ?_; intro ao1 cc1 w3 hm3 hg3 hs3; have pvar3 : Px w3 w1.heap.size ⟨pl, pd, pb⟩ := (by unfold Px; rw [grown_at hg3 k0 (fun q => by have := (unhide HNO w1.heap.size q).2; omega)]; exact unhide pvar); have d0 := pvar3.c0; have d1 := pvar3.c1; have d2 := pvar3.c2; clear pvar3)
      have fn3 : Fn E (noF (w.heap.size + 1) ao1) (w.heap.size + 1) w.heap.size (w.heap.size + 1) w3 A A := (unhide fn2).app hg3 (fun q => by have := (unhide HNO _ q).1; omega) (fun q => by have := (unhide HNO _ q).1; omega) (fun k q => by have := (unhide HNO _ q).1; have := (unhide FN).lo.2.1; omega) hs3 (fun k q => (hm3.ob q).2)
      have bw3 : Below w.heap.size w w3 := (unhide bw2).trans ⟨hg3.os, hg3.tape, hg3.output, hg3.size, fun k hk => grown_at hg3 (by have := (unhide bw2).size; omega) (fun q => by have := (unhide HNO _ q).1; omega)⟩
      have sc := hide (size_any w3 pl pd pb)
      rw [← unhide HS] at sc
      have FN3 := hide fn3
      have HM3 := hide hm3
      have BW3 := hide bw3
      clear fn3 hm3 bw3 hg3 hs3 d0 d1 d2
      refine (unhide sc).mono ?_
      rintro e w4 ⟨rfl, b4⟩
      have fn4 := (unhide FN3).later b4
      have hm4 := hide ((unhide HM3).later b4)
      have bw4 := hide ((unhide BW3).trans (b4.mono (unhide BW3).size))
      have ps := hide (pass_any w4 S fn4 (by rw [(unhide HE).1]; omega))
      clear fn4 b4
      go_wp2_with fail
      refine (unhide ps).mono ?_
      rintro e w5 ⟨rfl, f5, p5⟩
      have hm5 := hide ((unhide hm4).keep fun k hk => p5.block k ((unhide hm4).ob hk).2 (by have := ((unhide hm4).ob hk).1; omega) (by have := ((unhide hm4).ob hk).1; omega) (.inr (.inr hk)))
      have bw5 := hide ((unhide bw4).trans (p5.below (by omega) (Nat.le_refl _) (by omega) (unhide bw4).size))
      have F5 := hide f5
      have hma5 := hide f5.atF
      clear f5 p5
      go_wp2_with fail
      go_roundw
      case rel =>
        refine ⟨A + S, f', ao1, n + 1, cc1, l ++ [⟨pl, pd, pb⟩], rfl, ?_, by rw [(unhide HE).1]; omega, by omega, unhide hm5, unhide F5, unhide bw5⟩
        rw [← unhide HL, unhide hpos]
        simp
      case measure =>
        rw [unhide hma, unhide hma5]
        omega
    · have hlt' : ¬ (A : Int) < (bn : Int) := by omega
      have hfin := hide (show R = l by rw [← unhide HL, pcs_end (by rw [fn.bl, (unhide HE).1]; exact hlt), List.append_nil])
      have HM := hide hm
      clear hl fn hm hno
      go_wp2_with fail
      go_ret
      rw [unhide hfin]
      exact ⟨ao, n, c, rfl, (unhide HM).mono (by omega), bw⟩
end Go.Proofs.YtalkeooejobjhaaDoor
