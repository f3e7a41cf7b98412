/-
  What gather of package row returns of ReadBinary's closures. It writes nothing that was there but what is left. Conditions: as RwBx.
-/
import Derived.Test.YtkcblnojgonblaaGreatDoorRwBx
namespace Go.Proofs.YtkcblnojgonblaaGreatDoor
open Go.RowKit
set_option linter.unusedVariables false
set_option linter.unusedSimpArgs false

theorem bx_len (nl : List Int) (ts : List Ty) (i : Nat) (b : List Int) : (bx nl ts i b).2.1.length ≤ b.length := by
  unfold bx rdL
  split <;> simp
theorem bg_len (nl : List Int) (ts : List Ty) (b : List Int) : ∀ j, (gst (bx nl ts) j b).2.1.length ≤ b.length
  | 0 => Nat.le_refl _
  | j + 1 => by
    have ih := bg_len nl ts b j
    have h2 := bx_len nl ts j (gst (bx nl ts) j b).2.1
    unfold gst
    split
    · exact ih
    · split <;> exact Nat.le_trans h2 ih
/-- What the closures hold beside what is left: nothing of it is block q. -/
structure Hq (q1 q q3 : Nat) (nl : List Int) (ts : List Ty) (w : World) : Prop where
  n : ∃ no nn nc, One w q1 29 (.slice no nn nc) ∧ Bs w no nn nc nl ∧ (nn = 0 ∨ ∀ k, ob no k → k ≠ q)
  t : ∃ ao m tc, One w q3 24 (.slice ao m tc) ∧ Tys w ao m tc ts ∧ (m = 0 ∨ ∀ k, ob ao k → k ≠ q)
  d : q1 ≠ q ∧ q3 ≠ q
theorem Tys.keepQ {q : Nat} {w w' : World} {ao : Option Addr} {n c : Nat} {l : List Ty} (h : Tys w ao n c l) (h3 : n = 0 ∨ ∀ k, ob ao k → k ≠ q) (hk : ∀ k, k < w.heap.size → k ≠ q → w'.heap[k]? = w.heap[k]?) : Tys w' ao n c l := by
  rcases h3 with h0 | h3
  · exact ⟨h.len, h.le, h.max, h.nil, .inl h0⟩
  · exact h.keepB (fun k hq hl => hk k hl (h3 k hq))
theorem Bs.keepQ {q : Nat} {w w' : World} {ao : Option Addr} {n c : Nat} {l : List Int} (h : Bs w ao n c l) (h3 : n = 0 ∨ ∀ k, ob ao k → k ≠ q) (hk : ∀ k, k < w.heap.size → k ≠ q → w'.heap[k]? = w.heap[k]?) : Bs w' ao n c l := by
  rcases h3 with h0 | h3
  · exact ⟨h.len, h.le, h.max, h.nil, h.byt, .inl h0⟩
  · exact h.keepB (fun k hq hl => hk k hl (h3 k hq))
theorem Hq.gb {q1 q q3 : Nat} {nl : List Int} {ts : List Ty} {w w' : World} (h : Hq q1 q q3 nl ts w) (hg : Gb q w w') : Hx q1 q3 nl ts w' := by
  obtain ⟨no, nn, nc, h1, h2, h3⟩ := h.n
  obtain ⟨ao, m, tc, h4, h5, h6⟩ := h.t
  exact ⟨⟨no, nn, nc, (hg.block q1 h1.lt h.d.1).trans h1, h2.keepQ h3 (fun k hl hq => hg.block k hl hq)⟩, ⟨ao, m, tc, (hg.block q3 h4.lt h.d.2).trans h4, h5.keepQ h6 (fun k hl hq => hg.block k hl hq)⟩⟩

set_option maxHeartbeats 4000000 in
set_option maxRecDepth 100000 in
theorem gatherB_any (n : Nat) (q1 q q3 : Nat) (nl : List Int) (ts : List Ty) (b : List Int) (w : World) (h : Lf q b w) (hx : Hq q1 q q3 nl ts w) (hts : ts.length = n) (hnl : (n + 1) / 8 < nl.length) (hT : ∀ p ∈ ts, 0 ≤ p.t ∧ p.t < 256) (hn : n ≤ 4096) (hb : b.length ≤ 100000) (hq : q < w.heap.size) :
    Calls Tryz.prog 22 #[.int .i64 (n : Int), (.func (.func 23) #[] #[.pointer (some ⟨q1, 0, none⟩), .pointer (some ⟨q, 0, none⟩), .pointer (some ⟨q3, 0, none⟩)]), (.func (.func 26) #[] #[.pointer (some ⟨q, 0, none⟩)])] w fun e w' => OutV w q (gat (bx nl ts) n b) e w' := by
  obtain ⟨RES, hRES⟩ : ∃ z, z = gat (bx nl ts) n b := ⟨_, rfl⟩
  rw [← hRES]
  have HRES := hide hRES
  have HTL := hide (bg_len nl ts b)
  have H0 := hide h
  have HQ := hide hx
  have HT := hide hT
  have HN := hide (show ∀ i, i < n → (i + 2) / 8 < nl.length by intro i hi; omega)
  have hLT : ts.length = n := hts
  clear hRES h hx hT hnl hts
  go_enter Tryz.func22, Tryz.ntmps22
  go_wp2_with fail
  go_loopw [13, 8] (fun iv sv ws => ∃ (j : Nat) (ro : Option Addr) (rn rc : Nat), j ≤ n ∧ iv = .int .i64 (j : Int) ∧ sv = .slice ro rn rc ∧ VMine w.heap.size ws ro rn rc (gst (bx nl ts) j b).1 ∧ (gst (bx nl ts) j b).2.2 = 0 ∧ Lf q (gst (bx nl ts) j b).2.1 ws ∧ Gb q w ws) (fun iv _ _ => n - (intOf iv).toNat)
  case atStart => exact ⟨0, none, 0, 0, by omega, rfl, rfl, VMine.nought _ _, rfl, unhide H0, Gb.refl _ _⟩
  case round =>
    clear H0
    obtain ⟨j, ro, rn, rc, hj, rfl, rfl, hM, h0, hL, hG⟩ := hrel
    have hrn : j = rn := by rw [← hM.len]; exact (gst_len h0).symm
    have hsz := hG.size
    have HM := hide hM
    have HG := hide hG
    have HL := hide hL
    have hle := hM.ss.le
    have hmx := hM.ss.max
    clear hM hG hL
    subst hrn
    by_cases hlt : j < n
    · have hlj : ((j : Nat) : Int) < (n : Int) := by omega
      have cN := hide (bnext_any q1 q q3 nl ts _ j wr (unhide HL) ((unhide HQ).gb (unhide HG)) (unhide HN j (by omega)) (by omega) (by omega) (unhide HT) (Nat.le_trans (unhide HTL j) hb))
      have HS : Hid (gst (bx nl ts) (j + 1) b = if (bx nl ts j (gst (bx nl ts) j b).2.1).2.2 ≠ 0 then ([], (bx nl ts j (gst (bx nl ts) j b).2.1).2.1, (bx nl ts j (gst (bx nl ts) j b).2.1).2.2) else ((gst (bx nl ts) j b).1 ++ [(bx nl ts j (gst (bx nl ts) j b).2.1).1], (bx nl ts j (gst (bx nl ts) j b).2.1).2.1, 0)) := hide (by
        show (if (gst (bx nl ts) j b).2.2 ≠ 0 then _ else _) = _
        rw [if_neg (fun z => z h0)])
      clear HL
      generalize gst (bx nl ts) j b = ST at *
      generalize bx nl ts j ST.2.1 = T at *
      obtain ⟨V, L2, E⟩ := T
      simp only at cN HS
      obtain ⟨k, i, b9, tx, ⟨ng, y, mo, d, h, mi, s, mc⟩⟩ := V
      have SV := hide (vac_info ⟨k, i, b9, tx, ⟨ng, y, mo, d, h, mi, s, mc⟩⟩)
      have OV := hide (vac_one ⟨k, i, b9, tx, ⟨ng, y, mo, d, h, mi, s, mc⟩⟩)
      unfold vaC at cN SV OV
      simp only at cN SV OV
      by_cases hE : E = 0
      · subst hE
        have HS' := hide (show gst (bx nl ts) (j + 1) b = (ST.1 ++ [⟨k, i, b9, tx, ⟨ng, y, mo, d, h, mi, s, mc⟩⟩], L2, 0) by rw [unhide HS]; rfl)
        clear HS HRES
        go_wp2_with (first | (go_at_call 23; (with_reducible refine (unhide cN).mono ?_); rintro e w2 ⟨rfl, l2, g2⟩; have L2' := hide l2; have G2 := hide (gb_tr (unhide HG) g2); have M2 := hide ((unhide HM).gb hq g2); have z2 := g2.size; clear l2 g2) | (with_reducible show wpList Tryz.prog _ _ (Oper.mk _ (Op.store 38 _ _) _ _ _ none :: _) _ _; refine wpList_stN rfl _ (.tmp 10) (.tmp 20) rfl #[.int .i64 k, .int .i64 i, .int .u64 b9, .string tx, .bool ng, .int .i64 y, .int .i64 mo, .int .i64 d, .int .i64 h, .int .i64 mi, .int .i64 s, .int .i64 mc] (by simp [Act.eval, Act.put]) (by simp [Act.eval, Act.put]) (unhide SV) rfl (unhide OV) ?_; intro w3 r3 b3 l3; have R3 := hide r3; have L3 := hide ((unhide L2').later b3); have G3 := hide (gb_bl (unhide G2) b3 (by omega)); have M3 := hide ((unhide M2).later b3); have z3 := b3.size; clear r3 b3 l3) | (with_reducible show wpList Tryz.prog _ _ (Oper.mk _ (Op.load 38 _) _ _ _ none :: _) _ _; refine wpList_load_row rfl _ (.tmp 10) rfl w2.heap.size rfl _ #[.int .i64 k, .int .i64 i, .int .u64 b9, .string tx, .bool ng, .int .i64 y, .int .i64 mo, .int .i64 d, .int .i64 h, .int .i64 mi, .int .i64 s, .int .i64 mc] (0, 0) _ (unhide R3) Tryz.underlying38 rfl (unhide SV) ?_) | (at_builtin; refine wpList_appV rfl (.tmp 25) (.tmp 27) rfl w.heap.size ro j rc _ (by simp [Act.eval, Act.put]) ((unhide M3).later (below_alloc w3 _)) w3.heap.size ⟨k, i, b9, tx, ⟨ng, y, mo, d, h, mi, s, mc⟩⟩ rfl (AtV.of_row (heap_alloc_new w3 _)) (by omega) (by simp; omega) ?_; intro a5 c5 w5 m5 b5; have M5 := hide m5; have L5 := hide (((unhide L3).later (below_alloc w3 _)).up b5 hq); have G5 := hide (gb_bl (gb_bl (unhide G3) (below_alloc w3 _) (by omega)) b5 (Nat.le_refl _)); clear m5 b5))
        go_roundw
        case rel => exact ⟨j + 1, a5, j + 1, c5, by omega, by go_num, rfl, (by rw [unhide HS']; exact unhide M5), (by rw [unhide HS']), (by rw [unhide HS']; exact unhide L5), unhide G5⟩
        case measure => simp [intOf]; omega
      · have hE2 : (E != 0) = true := by simpa using hE
        have HR := hide (show RES = ([], E) by
          rw [unhide HRES]
          have e1 : gst (bx nl ts) (j + 1) b = ([], L2, E) := by rw [unhide HS, if_pos hE]
          have e2 : gst (bx nl ts) n b = ([], L2, E) := by
            have := gst_up (f := bx nl ts) (b := b) (j := j + 1) (by rw [e1]; exact hE) (n - (j + 1))
            rw [show j + 1 + (n - (j + 1)) = n by omega, e1] at this
            exact this
          unfold gat
          rw [e2, if_pos hE])
        clear HS HRES hE
        go_wp2_with (first | (go_at_call 23; (with_reducible refine (unhide cN).mono ?_); rintro e w2 ⟨rfl, l2, g2⟩; have G2 := hide (gb_tr (unhide HG) g2); have z2 := g2.size; clear l2 g2) | (with_reducible show wpList Tryz.prog _ _ (Oper.mk _ (Op.store 38 _ _) _ _ _ none :: _) _ _; refine wpList_stN rfl _ (.tmp 10) (.tmp 20) rfl #[.int .i64 k, .int .i64 i, .int .u64 b9, .string tx, .bool ng, .int .i64 y, .int .i64 mo, .int .i64 d, .int .i64 h, .int .i64 mi, .int .i64 s, .int .i64 mc] (by simp [Act.eval, Act.put]) (by simp [Act.eval, Act.put]) (unhide SV) rfl (unhide OV) ?_; intro w3 r3 b3 l3; have G3 := hide (gb_bl (unhide G2) b3 (by omega)); clear r3 b3 l3))
        go_ret2
        rw [unhide HR]
        exact ⟨none, 0, 0, rfl, VMine.nought _ _, unhide G3⟩
    · have hjn : j = n := by omega
      subst hjn
      have hlj : ¬ ((j : Nat) : Int) < (j : Int) := by omega
      have cE := hide (bend_any q _ wr (unhide HL))
      have HR : Hid (RES = if (gst (bx nl ts) j b).2.1.length ≠ 0 then ([], 5) else ((gst (bx nl ts) j b).1, 0)) := hide (by
        rw [unhide HRES]
        unfold gat
        rw [if_neg (fun z => z h0)])
      clear HRES HL HTL
      generalize gst (bx nl ts) j b = ST at *
      by_cases hz : ST.2.1.length = 0
      · have ez : (ST.2.1.length == 0) = true := by simpa using hz
        rw [ez] at cE
        have HR' := hide (show RES = (ST.1, 0) by rw [unhide HR, if_neg (fun z => z hz)])
        clear HR ez hz
        go_wp2_with (go_at_call 26; refine same_world (unhide cE) ?_)
        go_ret2
        rw [unhide HR']
        exact ⟨ro, _, rc, rfl, unhide HM, unhide HG⟩
      · have ez : (ST.2.1.length == 0) = false := by simpa using hz
        rw [ez] at cE
        have HR' := hide (show RES = ([], 5) by rw [unhide HR, if_pos hz])
        clear HR ez hz
        go_wp2_with (go_at_call 26; refine same_world (unhide cE) ?_)
        go_ret2
        rw [unhide HR']
        exact ⟨none, 0, 0, rfl, VMine.nought _ _, unhide HG⟩



end Go.Proofs.YtkcblnojgonblaaGreatDoor
