/-
  What the steps of package classify's walk do: names, signs, words of some kinds are passed over, or nothing is. Conditions: the walk lies behind its pointer, its words below it; the literal rows are of the call's own.
-/
import Derived.Test.YtddfbaaghjcbnaaGreatDoorKlLf
namespace Go.Proofs.YtddfbaaghjcbnaaGreatDoor
open Go.RowKit
set_option linter.unusedVariables false
set_option linter.unusedSimpArgs false


set_option maxHeartbeats 1000000 in
theorem indexI_any (so : Option Addr) (m d : Nat) (ks : List Int) (k : Int) (w : World) (hS : Is w so m d ks) :
    Calls Tryz.prog 121 #[.slice so m d, .int .i64 k] w fun e w' => ∃ r : Int, e = .returned (.int .i64 r) ∧ decide (r ≥ 0) = decide (k ∈ ks) ∧ Below w.heap.size w w' := by
  have kle := hS.le
  have kmx := hS.max
  have Hkln := hide hS.len
  have HS := hide hS
  obtain ⟨R, hR⟩ : ∃ R, R = decide (k ∈ ks) := ⟨_, rfl⟩
  rw [← hR]
  have HR := hide hR
  clear hS hR
  go_enter Tryz.func121, Tryz.ntmps121
  go_wp2_with fail
  go_loopw [8] (fun iv wr => ∃ (j : Nat), j ≤ m ∧ iv = .int .i64 (j : Int) ∧ Below w.heap.size w wr ∧ ∀ i, i < j → ks[i]?.getD 0 ≠ k) (fun iv _ => m - (intOf iv).toNat)
  case atStart => exact ⟨0, by omega, rfl, Below.refl _ _, fun i hi => absurd hi (Nat.not_lt_zero i)⟩
  case round =>
    obtain ⟨j, hj, rfl, hB, hA⟩ := hrel
    have HA := hide hA
    clear hA
    by_cases hjm : j < m
    · have g1 : ((j : Nat) : Int) < (m : Int) := by omega
      obtain ⟨b2, o2, i2, c2⟩ := ((unhide HS).later hB).idx hjm (j : Int) rfl
      have hin := hide (show ks[j]?.getD 0 ∈ ks by rw [List.getElem?_eq_getElem (by rw [unhide Hkln]; exact hjm), Option.getD_some]; exact List.getElem_mem _)
      obtain ⟨x, hx⟩ : ∃ x, x = ks[j]?.getD 0 := ⟨_, rfl⟩
      rw [← hx] at c2
      have HX := hide hx
      clear hx
      by_cases e1 : k = x
      · have e2 : (k == x) = true := by simpa using e1
        have h1 := hide (show R = true by rw [unhide HR]; exact decide_eq_true (by rw [e1, unhide HX]; exact unhide hin))
        clear e1
        go_wp2_with fail
        go_ret
        exact ⟨j, rfl, by rw [unhide h1]; exact decide_eq_true (by omega), hB⟩
      · have e2 : (k == x) = false := by simpa using e1
        have h1 := hide e1
        clear e1
        go_wp2_with fail
        go_roundw
        case rel =>
          refine ⟨j + 1, by omega, by go_num, hB, fun i hi => ?_⟩
          by_cases hij : i = j
          · subst hij; rw [← unhide HX]; exact fun h => unhide h1 h.symm
          · exact unhide HA i (by omega)
        case measure => simp [intOf]; omega
    · have hjn : j = m := by omega
      subst hjn
      have g1 : ¬ ((j : Nat) : Int) < (j : Int) := by omega
      have h1 := hide (show R = false by
        rw [unhide HR]
        refine decide_eq_false fun h => ?_
        obtain ⟨i, hi, he⟩ := List.getElem_of_mem h
        have := unhide HA i (by rw [unhide Hkln] at hi; exact hi)
        rw [List.getElem?_eq_getElem hi, Option.getD_some] at this
        exact this he)
      go_wp2_with fail
      go_ret
      exact ⟨-1, rfl, by rw [unhide h1]; rfl, hB⟩
theorem containsI_any (so : Option Addr) (m d : Nat) (ks : List Int) (k : Int) (w : World) (hS : Is w so m d ks) :
    Calls Tryz.prog 109 #[.slice so m d, .int .i64 k] w fun e w' => e = .returned (.bool (decide (k ∈ ks))) ∧ Below w.heap.size w w' := by
  have cI := hide (indexI_any so m d ks k w hS)
  generalize decide (k ∈ ks) = RES at *
  clear hS
  go_enter Tryz.func109, Tryz.ntmps109
  go_wp2_with fail
  refine (unhide cI).mono ?_
  rintro e w2 ⟨R, rfl, hR, b2⟩
  have B2 := hide b2
  have HR := hide hR
  clear hR b2 cI
  go_wp2_with fail
  go_ret
  exact ⟨by rw [← unhide HR]; rfl, unhide B2⟩

theorem begL_len : ∀ {l : List Wd} {ss : List ByteArray}, begL l ss = true → ss.length ≤ l.length
  | l, [], h => by simp
  | [], s :: ss, h => by simp [begL] at h
  | w :: l, s :: ss, h => by
    rw [begL_cons, Bool.and_eq_true] at h
    have := begL_len h.2
    simp only [List.length_cons]
    omega

set_option maxHeartbeats 1000000 in
theorem names_any (B g : Nat) (S : WS) (so : Option Addr) (m d : Nat) (ss : List ByteArray) (w : World) (hK : Wk B g S w) (hS : Ss w so m d ss) :
    Calls Tryz.prog 79 #[.pointer (some ⟨g, 0, none⟩), .slice so m d] w (OutS B g w (naS ss S).1 (naS ss S).2) := by
  obtain ⟨ao, n, c, hA⟩ := hK
  have hlS := hide hS.len
  have kle := hS.le
  have kmx := hS.max
  have cB := begins_any ao n c S.left so m d ss w hA.wds hS
  have k0 := hA.c0
  have hnl := hide hA.wds.len
  have hle := hA.wds.le
  have hmx := hA.wds.max
  have HA := hide hA
  unfold naS
  by_cases hB : begL S.left ss = true
  · have hmn : m ≤ n := by have := begL_len hB; have := unhide hnl; have := unhide hlS; omega
    have hcut := fun wx => run_cutW_l ao n c m hmn (m : Int) rfl wx
    rw [hB] at cB
    rw [if_pos hB]
    have CB := hide cB
    clear hA hS hB cB
    go_enter Tryz.func79, Tryz.ntmps79
    go_wp2_with (go_at_call 93; refine (unhide CB).mono ?_; rintro e w1 ⟨rfl, b1⟩; have HA1 := hide ((unhide HA).later b1); have q0 := (unhide HA1).c0; have f0 := (unhide HA1).fr 0)
    go_ret
    exact OutS.of rfl rfl ⟨_, _, _, by rw [unhide hlS]; exact (unhide HA1).set0 hmn⟩ ((b1.mono (Nat.le_of_lt (unhide HA).lt)).trans (below_set g 0 w1 _))
  · have hB' : begL S.left ss = false := by simpa using hB
    rw [hB'] at cB
    rw [if_neg hB]
    have CB := hide cB
    clear hA hS hB hB' cB
    go_enter Tryz.func79, Tryz.ntmps79
    go_wp2_with (go_at_call 93; refine (unhide CB).mono ?_; rintro e w1 ⟨rfl, b1⟩)
    go_ret
    exact OutS.of rfl rfl ((unhide HA).later b1).wk (b1.mono (Nat.le_of_lt (unhide HA).lt))

set_option maxHeartbeats 1000000 in
theorem perhaps_any (B g : Nat) (S : WS) (so : Option Addr) (m d : Nat) (ss : List ByteArray) (w : World) (hK : Wk B g S w) (hS : Ss w so m d ss) :
    Calls Tryz.prog 86 #[.pointer (some ⟨g, 0, none⟩), .slice so m d] w (OutS B g w (peS ss S).1 (peS ss S).2) := by
  have cN := hide (names_any B g S so m d ss w hK hS)
  unfold peS
  generalize naS ss S = P at *
  obtain ⟨R, S1⟩ := P
  clear hK hS
  go_enter Tryz.func86, Tryz.ntmps86
  go_wp2_with (go_at_call 79; refine (unhide cN).mono ?_; rintro e w1 ⟨rfl, hk1, b1⟩)
  go_ret
  exact ⟨rfl, hk1, b1⟩

set_option maxHeartbeats 1000000 in
theorem ksign_any (B g : Nat) (S : WS) (s : ByteArray) (w : World) (hK : Wk B g S w) :
    Calls Tryz.prog 80 #[.pointer (some ⟨g, 0, none⟩), .string s] w (OutS B g w (siS s S).1 (siS s S).2) := by
  obtain ⟨ao, n, c, hA⟩ := hK
  obtain ⟨l, nm, va⟩ := S
  have k0 := hA.c0
  have hnl := hA.wds.len
  have hle := hA.wds.le
  have hmx := hA.wds.max
  have HA := hide hA
  unfold siS
  simp only at hnl ⊢
  cases l with
  | nil =>
    have hn : n = 0 := by simpa using hnl.symm
    subst hn
    clear hA hnl
    go_enter Tryz.func80, Tryz.ntmps80
    go_wp2_with fail
    go_ret
    exact OutS.of rfl rfl (unhide HA).wk (Below.refl _ _)
  | cons p r =>
    have hn : 0 < n := by simp at hnl; omega
    have hn0 : ((n : Int) == 0) = false := by rw [beq_eq_false_iff_ne]; omega
    obtain ⟨b1, o1, i1, a1⟩ := hA.wds.idx (i := 0) (p := p) rfl 0 rfl
    obtain ⟨pk, ptx, pa⟩ := p
    have q0 := a1.k
    have q1 := a1.t
    have q2 := a1 2 (by decide)
    simp only [wdC] at q0 q1 q2
    have hcut := fun wx => run_cutW_l ao n c 1 hn 1 rfl wx
    have cS := kSign_any ⟨pk, ptx, pa⟩ s w
    simp only [wdC] at cS
    simp only
    by_cases hB : sgW ⟨pk, ptx, pa⟩ s = true
    · rw [hB] at cS
      rw [if_pos hB]
      have CS := hide cS
      clear hA hnl a1 cS hB
      go_enter Tryz.func80, Tryz.ntmps80
      go_wp2_with (go_at_call 36; refine (unhide CS).mono ?_; rintro e w1 ⟨rfl, b1⟩; have HA1 := hide ((unhide HA).later b1); have q0 := (unhide HA1).c0; have f0 := (unhide HA1).fr 0)
      go_ret
      exact OutS.of rfl rfl ⟨_, _, _, (unhide HA1).set0 hn⟩ ((b1.mono (Nat.le_of_lt (unhide HA).lt)).trans (below_set g 0 w1 _))
    · have hB' : sgW ⟨pk, ptx, pa⟩ s = false := by simpa using hB
      rw [hB'] at cS
      rw [if_neg hB]
      have CS := hide cS
      clear hA hnl a1 cS hB hB'
      go_enter Tryz.func80, Tryz.ntmps80
      go_wp2_with (go_at_call 36; refine (unhide CS).mono ?_; rintro e w1 ⟨rfl, b1⟩)
      go_ret
      exact OutS.of rfl rfl ((unhide HA).later b1).wk (b1.mono (Nat.le_of_lt (unhide HA).lt))

set_option maxHeartbeats 1000000 in
theorem wordN_any (B g : Nat) (S : WS) (so : Option Addr) (m d : Nat) (ks : List Int) (w : World) (hK : Wk B g S w) (hS : Is w so m d ks) :
    Calls Tryz.prog 81 #[.pointer (some ⟨g, 0, none⟩), .pointer (some ⟨g, 1, none⟩), .slice so m d] w (OutS B g w (wnS ks S).1 (wnS ks S).2) := by
  obtain ⟨ao, n, c, hA⟩ := hK
  obtain ⟨l, nm, va⟩ := S
  have k0 := hA.c0
  have hnl := hA.wds.len
  have hle := hA.wds.le
  have hmx := hA.wds.max
  have HA := hide hA
  unfold wnS
  simp only at hnl ⊢
  cases l with
  | nil =>
    have hn : n = 0 := by simpa using hnl.symm
    subst hn
    clear hA hnl
    go_enter Tryz.func81, Tryz.ntmps81
    go_wp2_with fail
    go_ret
    exact OutS.of rfl rfl (unhide HA).wk (Below.refl _ _)
  | cons p r =>
    have hn : 0 < n := by simp at hnl; omega
    have hn0 : ((n : Int) == 0) = false := by rw [beq_eq_false_iff_ne]; omega
    obtain ⟨b1, o1, i1, a1⟩ := hA.wds.idx (i := 0) (p := p) rfl 0 rfl
    have htx := hA.wb.tx p (List.mem_cons_self ..)
    obtain ⟨pk, ptx, pa⟩ := p
    have q0 := a1.k
    have q1 := a1.t
    simp only at q0 q1 htx
    have hcut := fun wx => run_cutW_l ao n c 1 hn 1 rfl wx
    have cS := containsI_any so m d ks pk w hS
    simp only
    by_cases hB : pk ∈ ks
    · rw [decide_eq_true hB] at cS
      rw [if_pos hB]
      have CS := hide cS
      clear hA hnl a1 cS hB hS
      go_enter Tryz.func81, Tryz.ntmps81
      go_wp2_with (go_at_call 109; refine (unhide CS).mono ?_; rintro e w1 ⟨rfl, y1⟩; have HA1 := hide ((unhide HA).later y1); have u0 := (unhide HA1).c0; have f0 := (unhide HA1).fr 0; have q1 := cell_later y1 q1; have u1 := (unhide HA1).c1; have f1 := (unhide HA1).fr 1)
      go_ret
      exact OutS.of rfl rfl ⟨_, _, _, ((unhide HA1).set1 (v := ptx) (by omega)).set0 hn⟩ (((y1.mono (Nat.le_of_lt (unhide HA).lt)).trans (below_set g 1 w1 _)).trans (below_set g 0 _ _))
    · rw [decide_eq_false hB] at cS
      rw [if_neg hB]
      have CS := hide cS
      clear hA hnl a1 cS hB hS
      go_enter Tryz.func81, Tryz.ntmps81
      go_wp2_with (go_at_call 109; refine (unhide CS).mono ?_; rintro e w1 ⟨rfl, y1⟩)
      go_ret
      exact OutS.of rfl rfl ((unhide HA).later y1).wk (y1.mono (Nat.le_of_lt (unhide HA).lt))

set_option maxHeartbeats 1000000 in
theorem wordV_any (B g : Nat) (S : WS) (so : Option Addr) (m d : Nat) (ks : List Int) (w : World) (hK : Wk B g S w) (hS : Is w so m d ks) :
    Calls Tryz.prog 81 #[.pointer (some ⟨g, 0, none⟩), .pointer (some ⟨g, 2, none⟩), .slice so m d] w (OutS B g w (wvS ks S).1 (wvS ks S).2) := by
  obtain ⟨ao, n, c, hA⟩ := hK
  obtain ⟨l, nm, va⟩ := S
  have k0 := hA.c0
  have hnl := hA.wds.len
  have hle := hA.wds.le
  have hmx := hA.wds.max
  have HA := hide hA
  unfold wvS
  simp only at hnl ⊢
  cases l with
  | nil =>
    have hn : n = 0 := by simpa using hnl.symm
    subst hn
    clear hA hnl
    go_enter Tryz.func81, Tryz.ntmps81
    go_wp2_with fail
    go_ret
    exact OutS.of rfl rfl (unhide HA).wk (Below.refl _ _)
  | cons p r =>
    have hn : 0 < n := by simp at hnl; omega
    have hn0 : ((n : Int) == 0) = false := by rw [beq_eq_false_iff_ne]; omega
    obtain ⟨b1, o1, i1, a1⟩ := hA.wds.idx (i := 0) (p := p) rfl 0 rfl
    have htx := hA.wb.tx p (List.mem_cons_self ..)
    obtain ⟨pk, ptx, pa⟩ := p
    have q0 := a1.k
    have q1 := a1.t
    simp only at q0 q1 htx
    have hcut := fun wx => run_cutW_l ao n c 1 hn 1 rfl wx
    have cS := containsI_any so m d ks pk w hS
    simp only
    by_cases hB : pk ∈ ks
    · rw [decide_eq_true hB] at cS
      rw [if_pos hB]
      have CS := hide cS
      clear hA hnl a1 cS hB hS
      go_enter Tryz.func81, Tryz.ntmps81
      go_wp2_with (go_at_call 109; refine (unhide CS).mono ?_; rintro e w1 ⟨rfl, y1⟩; have HA1 := hide ((unhide HA).later y1); have u0 := (unhide HA1).c0; have f0 := (unhide HA1).fr 0; have q1 := cell_later y1 q1; have u1 := (unhide HA1).c2; have f1 := (unhide HA1).fr 2)
      go_ret
      exact OutS.of rfl rfl ⟨_, _, _, ((unhide HA1).set2 (v := ptx) (by omega)).set0 hn⟩ (((y1.mono (Nat.le_of_lt (unhide HA).lt)).trans (below_set g 2 w1 _)).trans (below_set g 0 _ _))
    · rw [decide_eq_false hB] at cS
      rw [if_neg hB]
      have CS := hide cS
      clear hA hnl a1 cS hB hS
      go_enter Tryz.func81, Tryz.ntmps81
      go_wp2_with (go_at_call 109; refine (unhide CS).mono ?_; rintro e w1 ⟨rfl, y1⟩)
      go_ret
      exact OutS.of rfl rfl ((unhide HA).later y1).wk (y1.mono (Nat.le_of_lt (unhide HA).lt))

set_option maxHeartbeats 1000000 in
theorem wordX_any (B g : Nat) (S : WS) (q : Nat) (t : ByteArray) (so : Option Addr) (m d : Nat) (ks : List Int) (w : World) (hK : Wk B g S w) (hS : Is w so m d ks) (hq : g < q) (hR : w.heap[q]? = some (.cells #[.string t] 9 (0, 0))) :
    Calls Tryz.prog 81 #[.pointer (some ⟨g, 0, none⟩), .pointer (some ⟨q, 0, none⟩), .slice so m d] w (OutS B g w (wxS ks S).1 (wxS ks S).2) := by
  obtain ⟨ao, n, c, hA⟩ := hK
  obtain ⟨l, nm, va⟩ := S
  have k0 := hA.c0
  have hnl := hA.wds.len
  have hle := hA.wds.le
  have hmx := hA.wds.max
  have HA := hide hA
  unfold wxS
  simp only at hnl ⊢
  cases l with
  | nil =>
    have hn : n = 0 := by simpa using hnl.symm
    subst hn
    clear hA hnl
    go_enter Tryz.func81, Tryz.ntmps81
    go_wp2_with fail
    go_ret
    exact OutS.of rfl rfl (unhide HA).wk (Below.refl _ _)
  | cons p r =>
    have hn : 0 < n := by simp at hnl; omega
    have hn0 : ((n : Int) == 0) = false := by rw [beq_eq_false_iff_ne]; omega
    obtain ⟨b1, o1, i1, a1⟩ := hA.wds.idx (i := 0) (p := p) rfl 0 rfl
    have htx := hA.wb.tx p (List.mem_cons_self ..)
    obtain ⟨pk, ptx, pa⟩ := p
    have q0 := a1.k
    have q1 := a1.t
    simp only at q0 q1 htx
    have hcut := fun wx => run_cutW_l ao n c 1 hn 1 rfl wx
    have cS := containsI_any so m d ks pk w hS
    simp only
    by_cases hB : pk ∈ ks
    · rw [decide_eq_true hB] at cS
      rw [if_pos hB]
      have CS := hide cS
      clear hA hnl a1 cS hB hS
      go_enter Tryz.func81, Tryz.ntmps81
      go_wp2_with (go_at_call 109; refine (unhide CS).mono ?_; rintro e w1 ⟨rfl, y1⟩; have HA1 := hide ((unhide HA).later y1); have u0 := (unhide HA1).c0; have f0 := (unhide HA1).fr 0; have q1 := cell_later y1 q1; have hR1 := (y1.block q (Array.getElem?_eq_some_iff.1 hR).1).trans hR; have u1 := cell_of_row w1 q 0 _ _ _ hR1; simp only [List.getElem?_toArray, List.getElem?_cons_zero] at u1; have f1 := frozen_of_row w1 q 0 _ _ hR1)
      go_ret
      exact OutS.of rfl rfl ⟨_, _, _, ((unhide HA1).below (D := q) ((Below.refl q w1).setCell (Nat.le_refl _) _) hq).set0 hn⟩ (((y1.mono (Nat.le_of_lt (unhide HA).lt)).trans ((Below.refl g w1).setCell (Nat.le_of_lt hq) _)).trans (below_set g 0 _ _))
    · rw [decide_eq_false hB] at cS
      rw [if_neg hB]
      have CS := hide cS
      clear hA hnl a1 cS hB hS
      go_enter Tryz.func81, Tryz.ntmps81
      go_wp2_with (go_at_call 109; refine (unhide CS).mono ?_; rintro e w1 ⟨rfl, y1⟩)
      go_ret
      exact OutS.of rfl rfl ((unhide HA).later y1).wk (y1.mono (Nat.le_of_lt (unhide HA).lt))

end Go.Proofs.YtddfbaaghjcbnaaGreatDoor
