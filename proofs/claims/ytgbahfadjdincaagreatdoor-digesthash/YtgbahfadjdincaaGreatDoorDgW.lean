/-
  What Words of package digest returns: new words, dgW of those that it was handed. Conditions: at most 100,000 words, each of at most 2 to the 30 bytes.
-/
import Derived.Test.YtgbahfadjdincaaGreatDoorDgPb
namespace Go.Proofs.YtgbahfadjdincaaGreatDoor
open Go.RowKit
set_option linter.unusedVariables false
set_option linter.unusedSimpArgs false

abbrev Fr2 := Nat × (List Wd → List Wd → Nat)
/-- The four changes, in their order. -/
def dps : List Fr2 := [(29, dP1), (30, dP2), (31, dP3), (32, dP4)]
def dGo (k : Nat) (l : List Wd) : List Wd := (dps.take k).foldl (fun l p => dwo p.2 0 [] l) l
structure DOk (p : Fr2) : Prop where
  call : DgC p.1 p.2
  ent : ∀ args w, (callFunc p.1 args).run Tryz.prog w = .ok (.enter p.1 args) w
  few : ∀ k l, p.2 k l ≤ l.length
theorem dP2_few (k l : List Wd) : dP2 k l ≤ l.length := by
  unfold dP2
  split
  · cases l with
    | nil => rename_i h; simp [dsn] at h
    | cons x r => simp
  · exact Nat.zero_le _
theorem dP4_few (k l : List Wd) : dP4 k l ≤ l.length := by
  unfold dP4
  split
  · rename_i h
    rcases Nat.lt_or_ge l.length 4 with q | q
    · rw [dbg_short l [dCo, dOp, dQu, dCl] q, Bool.and_false] at h
      cases h
    · exact q
  · exact Nat.zero_le _
theorem dP3_few (k l : List Wd) : dP3 k l ≤ l.length := by
  unfold dP3
  have := dcn_len l
  split
  · split
    · exact this
    · exact Nat.zero_le _
  · exact Nat.zero_le _
theorem dP1_few (k l : List Wd) : dP1 k l ≤ l.length := by
  unfold dP1
  split
  · split <;> simp
  · exact Nat.zero_le _
theorem dps_ok : ∀ (j : Nat) (p : Fr2), dps[j]? = some p → DOk p
  | 0, p, h => by cases h; exact ⟨doddRemark_any, enters_of Tryz.func29 (by kernel_rfl) rfl, dP1_few⟩
  | 1, p, h => by cases h; exact ⟨numbersSign_any, enters_of Tryz.func30 (by kernel_rfl) rfl, dP2_few⟩
  | 2, p, h => by cases h; exact ⟨restOfRow_any, enters_of Tryz.func31 (by kernel_rfl) rfl, dP3_few⟩
  | 3, p, h => by cases h; exact ⟨likeGroup_any, enters_of Tryz.func32 (by kernel_rfl) rfl, dP4_few⟩
  | j + 4, p, h => by simp [dps] at h
theorem dGo_step (j : Nat) (p : Fr2) (h : dps[j]? = some p) (l : List Wd) : dGo (j + 1) l = dwo p.2 0 [] (dGo j l) := by
  unfold dGo
  rw [List.take_add_one, h, List.foldl_append]
  rfl
theorem run_idxDg (b n c : Nat) {i : Nat} (hi : i < n) (I : Int) (hI : I = i) (wx : World) : (Instr.indexAt 58 (.slice (some ⟨b, 0, none⟩) n c) (.int .i64 I)).run Tryz.prog wx = .ok (.pointer (some ⟨b, i, none⟩)) wx := by
  subst hI
  rw [run_indexAt_slice wx 58 _ n c .i64 (i : Int) (show Tryz.prog.underlying 58 = some (.slice (Tryz.prog.elem 58)) by kernel_rfl)]
  simp [show ∀ w, (sizeOf (Tryz.prog.elem 58)).run Tryz.prog w = .ok 1 w by intro w; kernel_rfl, hi, Addr.add_lit, Result.andThen]
def dRow : Array Value := #[.func (.func 29) #[] #[], .func (.func 30) #[] #[], .func (.func 31) #[] #[], .func (.func 32) #[] #[]]
theorem dRow_at : ∀ (j : Nat) (p : Fr2), dps[j]? = some p → dRow[j]? = some (.func (.func p.1) #[] #[])
  | 0, p, h => by cases h; rfl
  | 1, p, h => by cases h; rfl
  | 2, p, h => by cases h; rfl
  | 3, p, h => by cases h; rfl
  | j + 4, p, h => by simp [dps] at h
theorem below_gb2 {g : Nat} {w w' : World} (h : Gb g w w') (B : Nat) (hg : B ≤ g) (hB : B ≤ w.heap.size) : Below B w w' := ⟨h.os, h.tape, h.output, h.size, fun k hk => h.block k (by omega) (by omega)⟩

set_option maxHeartbeats 4000000 in
set_option maxRecDepth 20000 in
theorem words_any (ao : Option Addr) (n c : Nat) (l : List Wd) (w : World) (hW : Wds w ao n c l) (hn : n ≤ 100000) (hT : ∀ x ∈ l, x.tx.size ≤ 1073741824) :
    Calls Tryz.prog 16 #[.slice ao n c] w fun e w' => ∃ m, e = .returned (.slice (some ⟨w.heap.size, 0, none⟩) m n) ∧ WdMine w.heap.size w' (some ⟨w.heap.size, 0, none⟩) m n (dgW l) ∧ Below w.heap.size w w' := by
  have C0 := hide (withParams_any ao n c l w hW hn hT)
  obtain ⟨R, hR⟩ : ∃ R, R = dGo 4 (l.map dpar) := ⟨_, rfl⟩
  have HF := hide (show dgW l = dre R by rw [hR]; rfl)
  have HR := hide hR
  clear hW hT hR
  rw [unhide HF]
  clear HF
  go_enter Tryz.func16, Tryz.ntmps16
  go_wp2_with (go_at_call 28; refine (unhide C0).mono ?_; rintro e w1 ⟨rfl, m1, b1⟩)
  have s1 : w.heap.size < w1.heap.size := (m1.ob ⟨_, rfl, rfl⟩).2
  have r1 : (w1.alloc (.cells dRow 57)).heap[w1.heap.size]? = some (.cells dRow 57 (0, 0)) := heap_alloc_new w1 _
  have bA := below_alloc w1 (.cells dRow 57)
  have MA := m1.later bA
  have BA : Below w.heap.size w (w1.alloc (.cells dRow 57)) := belT b1 bA
  have zA : w1.heap.size < (w1.alloc (.cells dRow 57)).heap.size := by simp
  unfold dRow at r1 bA MA BA zA
  go_loopw [9, 0] (fun iv sv wr => ∃ (j m : Nat) (M : List Wd), j ≤ 4 ∧ m ≤ n ∧ iv = .int .i64 (j : Int) ∧ sv = .slice (some ⟨w.heap.size, 0, none⟩) m n ∧ WdMine w.heap.size wr (some ⟨w.heap.size, 0, none⟩) m n M ∧ Below w.heap.size w wr ∧ wr.heap[w1.heap.size]? = some (.cells dRow 57 (0, 0)) ∧ M = dGo j (l.map dpar)) (fun iv _ _ => 4 - (intOf iv).toNat)
  case atStart => exact ⟨0, n, _, by omega, Nat.le_refl _, rfl, rfl, MA, BA, r1, rfl⟩
  case round =>
    clear MA BA r1 bA m1
    obtain ⟨j, m, M, hj, hm, rfl, rfl, hM, hb, hr, hq⟩ := hrel
    have HM := hide hM
    have HRR := hide hr
    have HQ := hide hq
    have zr : w1.heap.size < wr.heap.size := (Array.getElem?_eq_some_iff.1 hr).1
    clear hM hr hq
    by_cases hlt : j < 4
    · have hlt2 : ((j : Nat) : Int) < 4 := by omega
      obtain ⟨p, hp⟩ : ∃ p, dps[j]? = some p := ⟨_, List.getElem?_eq_getElem (show j < dps.length from hlt)⟩
      have ok := dps_ok j p hp
      have hc : wr.cell? ⟨w1.heap.size, j, none⟩ = some (.func (.func p.1) #[] #[]) := by
        rw [cell_of_row _ _ j _ _ _ (unhide HRR)]
        exact dRow_at j p hp
      have hix := fun wx => run_idxDg w1.heap.size 4 4 hlt (j : Int) rfl wx
      have HS := hide (dGo_step j p hp (l.map dpar))
      obtain ⟨F, P⟩ := p
      simp only at hc HS
      have CC := hide (without_any F P ok.call ok.ent ok.few w.heap.size w.heap.size m n M wr (unhide HM) hb.size (by omega))
      clear ok hp
      go_wp2_with (go_at_call 33; (with_reducible refine (unhide CC).mono ?_); rintro e w2 ⟨m2, rfl, M2, g2⟩)
      go_roundw
      case rel => exact ⟨j + 1, m2, _, by omega, by
          have h1 := M2.len
          have h2 : ∀ (l : List Wd) (s : Nat) (k : List Wd), (dwo P s k l).length ≤ k.length + l.length := by
            intro l
            induction l with
            | nil => intro s k; rw [dwo_nil]; simp
            | cons x r ih =>
              intro s k
              cases s with
              | zero =>
                by_cases h0 : P k (x :: r) = 0
                · rw [dwo_stay h0]
                  have := ih 0 (k ++ [x])
                  simp at this ⊢
                  omega
                · show (if P k (x :: r) = 0 then _ else _ : List Wd).length ≤ _
                  rw [if_neg h0]
                  have := ih (P k (x :: r) - 1) k
                  simp at this ⊢
                  omega
              | succ s =>
                have := ih s k
                simp only [dwo]
                simp at this ⊢
                omega
          have h3 := h2 M 0 []
          have h4 := (unhide HM).len
          simp at h3
          omega, by go_num, rfl, M2, hb.trans (below_gb2 g2 _ (Nat.le_refl _) hb.size), by rw [g2.block _ zr (by omega)]; exact unhide HRR, by rw [unhide HS, unhide HQ]⟩
      case measure => simp [intOf]; omega
    · obtain rfl : j = 4 := by omega
      have h1 := hide (show M = R by rw [unhide HQ, unhide HR])
      have CS := hide (signsAtEnd_any (some ⟨w.heap.size, 0, none⟩) m n M wr (unhide HM).ss)
      have hml := (unhide HM).len
      have hds := dse_len M
      rw [hml] at hds
      have s2 : (m : Int) - (dse M : Int) = ((m - dse M : Nat) : Int) := by omega
      have i1 := run_cut_own w.heap.size m n (m - dse M) (by omega)
      have MF := hide ((unhide HM).first (m := m - dse M) (Nat.sub_le _ _))
      have HDR := hide (show M.take (m - dse M) = dre R by rw [← unhide h1]; unfold dre; rw [hml])
      generalize dse M = D at *
      clear h1 hml
      go_wp2_with (go_at_call 34; refine (unhide CS).mono ?_; rintro e w2 ⟨rfl, q2⟩)
      go_ret
      exact ⟨m - D, rfl, by rw [← unhide HDR]; exact (unhide MF).later q2, belT hb q2⟩

end Go.Proofs.YtgbahfadjdincaaGreatDoor
