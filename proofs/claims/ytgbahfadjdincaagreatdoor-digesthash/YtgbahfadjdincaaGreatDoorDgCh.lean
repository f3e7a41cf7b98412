/-
  What the changes of package digest return: how many of the words that are left go, by those that were kept. Conditions: there is a word left; the slices can be read.
-/
import Derived.Test.YtgbahfadjdincaaGreatDoorDgLf
namespace Go.Proofs.YtgbahfadjdincaaGreatDoor
open Go.RowKit
set_option linter.unusedVariables false
set_option linter.unusedSimpArgs false

/-- A change: what it answers of words kept and words left. -/
def DgC (F : Nat) (P : List Wd → List Wd → Nat) : Prop := ∀ (ka : Option Addr) (kn kc : Nat) (k : List Wd) (la : Option Addr) (ln lc : Nat) (l : List Wd) (w : World), Wds w ka kn kc k → Wds w la ln lc l → 0 < ln →
  Calls Tryz.prog F #[.slice ka kn kc, .slice la ln lc] w fun e w' => e = .returned (.int .i64 (P k l)) ∧ Below w.heap.size w w'

theorem de_oq (ao : Option Addr) (n c : Nat) (l : List Wd) (w : World) (R : Bool) (hW : Wds w ao n c l) (h : dend l [dOp, dQu] = R) : Calls Tryz.prog 70 #[.slice ao n c, .slice (some ⟨w.heap.size, 0, none⟩) 2 2] (w.alloc (.cells #[.string ⟨#[40]⟩, .string ⟨#[63]⟩] 9)) (OutB w R) := dend_st ao n c l [dOp, dQu] w R (by decide +kernel) hW h
theorem de_oqc (ao : Option Addr) (n c : Nat) (l : List Wd) (w : World) (R : Bool) (hW : Wds w ao n c l) (h : dend l [dOp, dQu, dCl] = R) : Calls Tryz.prog 70 #[.slice ao n c, .slice (some ⟨w.heap.size, 0, none⟩) 3 3] (w.alloc (.cells #[.string ⟨#[40]⟩, .string ⟨#[63]⟩, .string ⟨#[41]⟩] 9)) (OutB w R) := dend_st ao n c l [dOp, dQu, dCl] w R (by decide +kernel) hW h
theorem de_se (ao : Option Addr) (n c : Nat) (l : List Wd) (w : World) (R : Bool) (hW : Wds w ao n c l) (h : dend l [dSe] = R) : Calls Tryz.prog 70 #[.slice ao n c, .slice (some ⟨w.heap.size, 0, none⟩) 1 1] (w.alloc (.cells #[.string ⟨#[59]⟩] 9)) (OutB w R) := dend_st ao n c l [dSe] w R (by decide +kernel) hW h
theorem db_cq (ao : Option Addr) (n c : Nat) (l : List Wd) (w : World) (R : Bool) (hW : Wds w ao n c l) (h : dbg l [dCo, dQu] = R) : Calls Tryz.prog 69 #[.slice ao n c, .slice (some ⟨w.heap.size, 0, none⟩) 2 2] (w.alloc (.cells #[.string ⟨#[44]⟩, .string ⟨#[63]⟩] 9)) (OutB w R) := dbegin_st ao n c l [dCo, dQu] w R (by decide +kernel) hW h
theorem db_c (ao : Option Addr) (n c : Nat) (l : List Wd) (w : World) (R : Bool) (hW : Wds w ao n c l) (h : dbg l [dCl] = R) : Calls Tryz.prog 69 #[.slice ao n c, .slice (some ⟨w.heap.size, 0, none⟩) 1 1] (w.alloc (.cells #[.string ⟨#[41]⟩] 9)) (OutB w R) := dbegin_st ao n c l [dCl] w R (by decide +kernel) hW h
theorem db_q (ao : Option Addr) (n c : Nat) (l : List Wd) (w : World) (R : Bool) (hW : Wds w ao n c l) (h : dbg l [dQu] = R) : Calls Tryz.prog 69 #[.slice ao n c, .slice (some ⟨w.heap.size, 0, none⟩) 1 1] (w.alloc (.cells #[.string ⟨#[63]⟩] 9)) (OutB w R) := dbegin_st ao n c l [dQu] w R (by decide +kernel) hW h
theorem db_coqc (ao : Option Addr) (n c : Nat) (l : List Wd) (w : World) (R : Bool) (hW : Wds w ao n c l) (h : dbg l [dCo, dOp, dQu, dCl] = R) : Calls Tryz.prog 69 #[.slice ao n c, .slice (some ⟨w.heap.size, 0, none⟩) 4 4] (w.alloc (.cells #[.string ⟨#[44]⟩, .string ⟨#[40]⟩, .string ⟨#[63]⟩, .string ⟨#[41]⟩] 9)) (OutB w R) := dbegin_st ao n c l [dCo, dOp, dQu, dCl] w R (by decide +kernel) hW h
theorem do_oce (k : Int) (tx : ByteArray) (a : Int) (w : World) (R : Bool) (h : ([dOp, dCo, dEq].any fun s => dis s ⟨k, tx, a⟩) = R) : Calls Tryz.prog 68 #[.agg #[.int .i64 k, .string tx, .int .i64 a], .slice (some ⟨w.heap.size, 0, none⟩) 3 3] (w.alloc (.cells #[.string ⟨#[40]⟩, .string ⟨#[44]⟩, .string ⟨#[61]⟩] 9)) (OutB w R) := doneof_st ⟨k, tx, a⟩ [dOp, dCo, dEq] w R (by decide +kernel) h
theorem do_mp (k : Int) (tx : ByteArray) (a : Int) (w : World) (R : Bool) (h : ([dMi, dPl].any fun s => dis s ⟨k, tx, a⟩) = R) : Calls Tryz.prog 68 #[.agg #[.int .i64 k, .string tx, .int .i64 a], .slice (some ⟨w.heap.size, 0, none⟩) 2 2] (w.alloc (.cells #[.string ⟨#[45]⟩, .string ⟨#[43]⟩] 9)) (OutB w R) := doneof_st ⟨k, tx, a⟩ [dMi, dPl] w R (by decide +kernel) h

set_option maxHeartbeats 1000000 in
theorem doddRemark_any : DgC 29 dP1 := by
  intro ka kn kc k la ln lc l w hK hL h0
  have hlen := hL.len
  have hle := hL.le
  have hmx := hL.max
  obtain ⟨x, r, rfl⟩ : ∃ x r, l = x :: r := by
    cases l with
    | nil => simp at hlen; omega
    | cons x r => exact ⟨x, r, rfl⟩
  obtain ⟨b1, o1, i1, a1⟩ := hL.idx (i := 0) (p := x) rfl (0 : Int) rfl
  have k0 := a1.k
  obtain ⟨xk, xt, xa⟩ := x
  simp only at k0
  unfold dP1
  simp only
  have g0 : (0 : Int) < (ln : Int) := by omega
  clear hK hL hlen a1
  by_cases h9 : xk = 9
  · subst h9
    go_enter Tryz.func29, Tryz.ntmps29
    go_wp2_with fail
    go_ret
    exact ⟨rfl, Below.refl _ _⟩
  · have e3 : (xk == 9) = false := by simpa using h9
    rw [if_neg h9]
    clear h9
    go_enter Tryz.func29, Tryz.ntmps29
    go_wp2_with fail
    go_ret
    exact ⟨rfl, Below.refl _ _⟩


set_option maxHeartbeats 1000000 in
theorem likeGroup_any : DgC 32 dP4 := by
  intro ka kn kc k la ln lc l w hK hL h0
  have HK := hide hK
  have HL := hide hL
  unfold dP4
  obtain ⟨A, hA⟩ : ∃ A, dend k [dOp, dQu, dCl] = A := ⟨_, rfl⟩
  obtain ⟨B, hB⟩ : ∃ A, dbg l [dCo, dOp, dQu, dCl] = A := ⟨_, rfl⟩
  have C1 := hide (fun wx (h : Wds wx ka kn kc k) => de_oqc ka kn kc k wx A h hA)
  have C2 := hide (fun wx (h : Wds wx la ln lc l) => db_coqc la ln lc l wx B h hB)
  rw [hA, hB]
  clear hA hB hK hL
  cases A with
  | true =>
    cases B with
    | true =>
      go_enter Tryz.func32, Tryz.ntmps32
      go_wp2_with (first | (go_at_call 70; refine (unhide C1 w (unhide HK)).mono ?_; rintro e w1 ⟨rfl, b1⟩) | (go_at_call 69; refine (unhide C2 w1 ((unhide HL).later b1)).mono ?_; rintro e w2 ⟨rfl, b2⟩))
      go_ret
      exact ⟨rfl, belT b1 b2⟩
    | false =>
      go_enter Tryz.func32, Tryz.ntmps32
      go_wp2_with (first | (go_at_call 70; refine (unhide C1 w (unhide HK)).mono ?_; rintro e w1 ⟨rfl, b1⟩) | (go_at_call 69; refine (unhide C2 w1 ((unhide HL).later b1)).mono ?_; rintro e w2 ⟨rfl, b2⟩))
      go_ret
      exact ⟨rfl, belT b1 b2⟩
  | false =>
    go_enter Tryz.func32, Tryz.ntmps32
    go_wp2_with (first | (go_at_call 70; refine (unhide C1 w (unhide HK)).mono ?_; rintro e w1 ⟨rfl, b1⟩) | (go_at_call 69; refine (unhide C2 w1 ((unhide HL).later b1)).mono ?_; rintro e w2 ⟨rfl, b2⟩))
    go_ret
    exact ⟨rfl, b1⟩


set_option maxHeartbeats 2000000 in
set_option maxRecDepth 20000 in
theorem numbersSign_any : DgC 30 dP2 := by
  intro ka kn kc k la ln lc l w hK hL h0
  have hlen := hL.len
  have hle := hL.le
  have hmx := hL.max
  have klen := hK.len
  have kle := hK.le
  have kmx := hK.max
  obtain ⟨x, r, rfl⟩ : ∃ x r, l = x :: r := by
    cases l with
    | nil => simp at hlen; omega
    | cons x r => exact ⟨x, r, rfl⟩
  have HL := hide hL
  have HL1 := hide (show Wds w (cutW la lc 1) (ln - 1) (lc - 1) r from hL.cut_l (lo := 1) (by omega))
  have i29 := fun wx => run_cutW_l la ln lc 1 (by omega) (1 : Int) rfl wx
  have g0 : (0 : Int) < (ln : Int) := by omega
  have g1 : (1 : Int) ≤ (ln : Int) := by omega
  obtain ⟨xk, xt, xa⟩ := x
  obtain ⟨S, hS⟩ : ∃ A, ([dMi, dPl].any fun s => dis s ⟨xk, xt, xa⟩) = A := ⟨_, rfl⟩
  obtain ⟨Q, hQ⟩ : ∃ A, dbg r [dQu] = A := ⟨_, rfl⟩
  obtain ⟨b1', o1, i1, a1⟩ := (unhide HL).idx (i := 0) (p := ⟨xk, xt, xa⟩) rfl (0 : Int) rfl
  have C3 := hide (fun wx (h : Wds wx (cutW la lc 1) (ln - 1) (lc - 1) r) => db_q _ _ _ r wx Q h hQ)
  have AL : dP2 k (⟨xk, xt, xa⟩ :: r) = if dah k.getLast? && S && Q then 1 else 0 := by
    have e : dsn k.getLast? (⟨xk, xt, xa⟩ :: r) = (dah k.getLast? && S && Q) := by
      simp only [dsn]
      rw [hQ, ← hS]
      simp
    unfold dP2
    simp only [e]
  rw [AL]
  by_cases hz : kn = 0
  · subst hz
    have e0 : dah k.getLast? = true := by
      have : k = [] := List.eq_nil_of_length_eq_zero klen
      rw [this]
      rfl
    rw [e0]
    have p0 := a1.k
    have p1 := a1.t
    have p2 := a1.a
    simp only at p0 p1 p2
    have C2 := hide (fun wx (hb : Below w.heap.size w wx) => do_mp xk xt xa wx S hS)
    clear hK hL a1 hS hQ AL e0 klen hlen
    cases S with
    | true =>
      cases Q with
      | true =>
        go_enter Tryz.func30, Tryz.ntmps30
        go_wp2_with (first | (go_at_call 68; (with_reducible refine (unhide C2 w (Below.refl _ _)).mono ?_); rintro e w2 ⟨rfl, b2⟩) | (go_at_call 69; (with_reducible refine (unhide C3 w2 ((unhide HL1).later (b2))).mono ?_); rintro e w3 ⟨rfl, b3⟩))
        go_ret
        exact ⟨rfl, belT (b2) b3⟩
      | false =>
        go_enter Tryz.func30, Tryz.ntmps30
        go_wp2_with (first | (go_at_call 68; (with_reducible refine (unhide C2 w (Below.refl _ _)).mono ?_); rintro e w2 ⟨rfl, b2⟩) | (go_at_call 69; (with_reducible refine (unhide C3 w2 ((unhide HL1).later (b2))).mono ?_); rintro e w3 ⟨rfl, b3⟩))
        go_ret
        exact ⟨rfl, belT (b2) b3⟩
    | false =>
      go_enter Tryz.func30, Tryz.ntmps30
      go_wp2_with (first | (go_at_call 68; (with_reducible refine (unhide C2 w (Below.refl _ _)).mono ?_); rintro e w2 ⟨rfl, b2⟩) | (go_at_call 69; (with_reducible refine (unhide C3 w2 ((unhide HL1).later (b2))).mono ?_); rintro e w3 ⟨rfl, b3⟩))
      go_ret
      exact ⟨rfl, b2⟩
  · obtain ⟨y, hy⟩ : ∃ y, k[kn - 1]? = some y := ⟨_, List.getElem?_eq_getElem (by omega)⟩
    have hgl : k.getLast? = some y := by rw [List.getLast?_eq_getElem?, klen]; exact hy
    obtain ⟨yk, yt, ya⟩ := y
    obtain ⟨A, hA⟩ : ∃ A, ([dOp, dCo, dEq].any fun s => dis s ⟨yk, yt, ya⟩) = A := ⟨_, rfl⟩
    have e0 : dah k.getLast? = A := by rw [hgl, ← hA]; simp [dah, Bool.or_assoc]
    rw [e0]
    obtain ⟨b2', o2, i2, a2⟩ := hK.idx (i := kn - 1) (p := ⟨yk, yt, ya⟩) hy ((kn : Int) - 1) (by omega)
    have q0 := a2.k
    have q1 := a2.t
    have q2 := a2.a
    simp only at q0 q1 q2
    have C1 := hide (fun wx => do_oce yk yt ya wx A hA)
    have C2 := hide (fun wx (hb : Below w.heap.size w wx) => do_mp xk xt xa wx S hS)
    have HA1 := hide a1
    have g2 : ((kn : Int) == 0) = false := by rw [beq_eq_false_iff_ne]; omega
    have g3 : (0 : Int) ≤ (kn : Int) - 1 := by omega
    have g4 : (kn : Int) - 1 < (kn : Int) := by omega
    clear hK hL a1 a2 hS hQ hA AL e0 klen hlen hgl hy
    cases A with
    | true =>
      cases S with
      | true =>
        cases Q with
        | true =>
          go_enter Tryz.func30, Tryz.ntmps30
          go_wp2_with (first | (go_at_call 68; (with_reducible refine (unhide C1 w).mono ?_); rintro e w1 ⟨rfl, b1⟩; have hp := (unhide HA1).later b1; have p0 := hp.k; have p1 := hp.t; have p2 := hp.a; simp only at p0 p1 p2; clear hp) | (go_at_call 68; (with_reducible refine (unhide C2 w1 b1).mono ?_); rintro e w2 ⟨rfl, b2⟩) | (go_at_call 69; (with_reducible refine (unhide C3 w2 ((unhide HL1).later (belT b1 b2))).mono ?_); rintro e w3 ⟨rfl, b3⟩))
          go_ret
          exact ⟨rfl, belT (belT b1 b2) b3⟩
        | false =>
          go_enter Tryz.func30, Tryz.ntmps30
          go_wp2_with (first | (go_at_call 68; (with_reducible refine (unhide C1 w).mono ?_); rintro e w1 ⟨rfl, b1⟩; have hp := (unhide HA1).later b1; have p0 := hp.k; have p1 := hp.t; have p2 := hp.a; simp only at p0 p1 p2; clear hp) | (go_at_call 68; (with_reducible refine (unhide C2 w1 b1).mono ?_); rintro e w2 ⟨rfl, b2⟩) | (go_at_call 69; (with_reducible refine (unhide C3 w2 ((unhide HL1).later (belT b1 b2))).mono ?_); rintro e w3 ⟨rfl, b3⟩))
          go_ret
          exact ⟨rfl, belT (belT b1 b2) b3⟩
      | false =>
        go_enter Tryz.func30, Tryz.ntmps30
        go_wp2_with (first | (go_at_call 68; (with_reducible refine (unhide C1 w).mono ?_); rintro e w1 ⟨rfl, b1⟩; have hp := (unhide HA1).later b1; have p0 := hp.k; have p1 := hp.t; have p2 := hp.a; simp only at p0 p1 p2; clear hp) | (go_at_call 68; (with_reducible refine (unhide C2 w1 b1).mono ?_); rintro e w2 ⟨rfl, b2⟩) | (go_at_call 69; (with_reducible refine (unhide C3 w2 ((unhide HL1).later (belT b1 b2))).mono ?_); rintro e w3 ⟨rfl, b3⟩))
        go_ret
        exact ⟨rfl, belT b1 b2⟩
    | false =>
      go_enter Tryz.func30, Tryz.ntmps30
      go_wp2_with (go_at_call 68; (with_reducible refine (unhide C1 w).mono ?_); rintro e w1 ⟨rfl, b1⟩; have hp := (unhide HA1).later b1; have p0 := hp.k; have p1 := hp.t; have p2 := hp.a; simp only at p0 p1 p2; clear hp)
      go_ret
      exact ⟨rfl, b1⟩


theorem dcn_len : ∀ l : List Wd, dcn l ≤ l.length
  | [] => Nat.le_refl _
  | [_] => by simp [dcn]
  | x :: y :: r => by
    have := dcn_len r
    unfold dcn
    split <;> simp <;> omega
theorem dcn_step (l : List Wd) : dcn l = if dbg l [dCo, dQu] then dcn (l.drop 2) + 2 else 0 := by
  rcases l with _ | ⟨x, _ | ⟨y, r⟩⟩
  · rfl
  · simp [dcn, dbg]
  · simp [dcn, dbg]

set_option maxHeartbeats 2000000 in
set_option maxRecDepth 20000 in
theorem restOfRow_any : DgC 31 dP3 := by
  intro ka kn kc k la ln lc l w hK hL h0
  have hlen := hide hL.len
  have hle := hL.le
  have hmx := hL.max
  have HL := hide hL
  have HK := hide hK
  have HD := hide (dcn_len l)
  unfold dP3
  obtain ⟨A, hA⟩ : ∃ A, dend k [dOp, dQu] = A := ⟨_, rfl⟩
  have C1 := hide (fun wx (h : Wds wx ka kn kc k) => de_oq ka kn kc k wx A h hA)
  rw [hA]
  obtain ⟨D, hD⟩ : ∃ D, D = dcn l := ⟨_, rfl⟩
  rw [← hD]
  obtain ⟨B, hB⟩ : ∃ A, dbg (l.drop D) [dCl] = A := ⟨_, rfl⟩
  have HB := hide hB
  rw [hB]
  have HDD := hide hD
  clear hA hK hL hB hD
  cases A with
  | false =>
    go_enter Tryz.func31, Tryz.ntmps31
    go_wp2_with (go_at_call 70; refine (unhide C1 w (unhide HK)).mono ?_; rintro e w1 ⟨rfl, b1⟩)
    go_ret
    exact ⟨rfl, b1⟩
  | true =>
    go_enter Tryz.func31, Tryz.ntmps31
    go_wp2_with (go_at_call 70; refine (unhide C1 w (unhide HK)).mono ?_; rintro e w1 ⟨rfl, b1⟩)
    go_loopw [5] (fun iv wr => ∃ (j : Nat), j ≤ ln ∧ iv = .int .i64 (j : Int) ∧ Below w.heap.size w wr ∧ D = j + dcn (l.drop j)) (fun iv _ => ln - (intOf iv).toNat)
    case atStart => exact ⟨0, by omega, rfl, b1, by rw [List.drop_zero, Nat.zero_add]; exact unhide HDD⟩
    case round =>
      obtain ⟨j, hj, rfl, hB, hA⟩ := hrel
      have HA := hide hA
      clear hA
      have HW := hide ((unhide HL).later hB)
      have hc1 := fun wx => run_cutW_l la ln lc j hj (j : Int) rfl wx
      have HX := hide ((unhide HW).cut_l hj)
      obtain ⟨T, hT⟩ : ∃ A, dbg (l.drop j) [dCo, dQu] = A := ⟨_, rfl⟩
      have C2 := hide (fun wx (h : Wds wx (cutW la lc j) (ln - j) (lc - j) (l.drop j)) => db_cq _ _ _ _ wx T h hT)
      have HS := hide (dcn_step (l.drop j))
      cases T with
      | true =>
        have h1 := hide (show D = (j + 2) + dcn (l.drop (j + 2)) by
          rw [unhide HA, unhide HS, hT, if_pos rfl, List.drop_drop]
          omega)
        have h2 : j + 2 ≤ ln := by
          rcases Nat.lt_or_ge (l.drop j).length 2 with q | q
          · rw [dbg_short (l.drop j) [dCo, dQu] q] at hT
            cases hT
          · rw [List.length_drop, unhide hlen] at q
            omega
        clear hT
        go_wp2_with (go_at_call 69; (with_reducible refine (unhide C2 wr (unhide HX)).mono ?_); rintro e w2 ⟨rfl, b2⟩)
        go_roundw
        case rel => exact ⟨j + 2, h2, by go_num, belT hB b2, unhide h1⟩
        case measure => simp [intOf]; omega
      | false =>
        have h1 := unhide HA
        rw [unhide HS, hT] at h1
        simp only [Bool.false_eq_true, if_false, Nat.add_zero] at h1
        subst h1
        have C3 := hide (fun wx (h : Wds wx (cutW la lc D) (ln - D) (lc - D) (l.drop D)) => db_c _ _ _ _ wx B h (unhide HB))
        clear hT
        cases B with
        | true =>
          go_wp2_with (first | (go_at_call 69; (with_reducible refine (unhide C2 wr (unhide HX)).mono ?_); rintro e w2 ⟨rfl, b2⟩) | (go_at_call 69; (with_reducible refine (unhide C3 w2 ((unhide HX).later b2)).mono ?_); rintro e w3 ⟨rfl, b3⟩))
          go_ret
          exact ⟨rfl, belT (belT hB b2) b3⟩
        | false =>
          go_wp2_with (first | (go_at_call 69; (with_reducible refine (unhide C2 wr (unhide HX)).mono ?_); rintro e w2 ⟨rfl, b2⟩) | (go_at_call 69; (with_reducible refine (unhide C3 w2 ((unhide HX).later b2)).mono ?_); rintro e w3 ⟨rfl, b3⟩))
          go_ret
          exact ⟨rfl, belT (belT hB b2) b3⟩

end Go.Proofs.YtgbahfadjdincaaGreatDoor
