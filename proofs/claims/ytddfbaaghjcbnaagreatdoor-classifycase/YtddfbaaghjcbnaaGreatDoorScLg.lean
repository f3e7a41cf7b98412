/-
  What longest of package scan returns for a chain of functions: the longest word that one of them finds, or the first error. Conditions: a chain of at most a hundred, each function by its contract.
-/
import Derived.Test.YtddfbaaghjcbnaaGreatDoorScRow
namespace Go.Proofs.YtddfbaaghjcbnaaGreatDoor
open Go.RowKit
set_option linter.unusedVariables false
set_option linter.unusedSimpArgs false

theorem lg_step (b f : Fd) (r : List Fd) (h : f.e = 0) : lgF b (f :: r) = lgF (if b.n < f.n then f else b) r := by simp [lgF, h]
theorem lg_err (b f : Fd) (r : List Fd) (h : f.e ≠ 0) : lgF b (f :: r) = f := by simp [lgF, h]
theorem run_idxFn (b o n c : Nat) {i : Nat} (hi : i < n) (I : Int) (hI : I = i) (wx : World) : (Instr.indexAt 77 (.slice (some ⟨b, o, none⟩) n c) (.int .i64 I)).run Tryz.prog wx = .ok (.pointer (some ⟨b, o + i, none⟩)) wx := by
  subst hI
  rw [run_indexAt_slice wx 77 _ n c .i64 (i : Int) (show Tryz.prog.underlying 77 = some (.slice (Tryz.prog.elem 77)) by kernel_rfl)]
  simp [show ∀ w, (sizeOf (Tryz.prog.elem 77)).run Tryz.prog w = .ok 1 w by intro w; kernel_rfl, hi, Addr.add_lit, Result.andThen]
/-- A chain of functions, and what each of them finds. -/
structure Chain (s : ByteArray) (w : World) (b o n : Nat) (rs : List (Nat × Fd)) : Prop where
  len : rs.length = n
  cell : ∀ (i : Nat) (p : Nat × Fd), rs[i]? = some p → w.cell? ⟨b, o + i, none⟩ = some (.func (.func p.1) #[] #[])
  ent : ∀ (i : Nat) (p : Nat × Fd), rs[i]? = some p → ∀ args w, (callFunc p.1 args).run Tryz.prog w = .ok (.enter p.1 args) w
  run : ∀ (i : Nat) (p : Nat × Fd), rs[i]? = some p → ∀ wx, Vr wx → Calls Tryz.prog p.1 #[.string s] wx fun e w' => e = .returned (.agg (fdC p.2)) ∧ Below wx.heap.size wx w'

set_option maxHeartbeats 4000000 in
set_option maxRecDepth 20000 in
theorem longest_any (s : ByteArray) (w : World) (b o n c : Nat) (rs : List (Nat × Fd)) (hC : Chain s w b o n rs) (hV : Vr w) (hn : n ≤ 100) (hc : n ≤ c) (hm : c ≤ 100) :
    Calls Tryz.prog 21 #[.string s, .slice (some ⟨b, o, none⟩) n c] w fun e w' => e = .returned (.agg (fdC (lgF nil0 (rs.map (·.2))))) ∧ Below w.heap.size w w' := by
  have HCH := hide hC
  have HV := hide hV
  have hlen := hide hC.len
  obtain ⟨T, hT⟩ : ∃ T, T = lgF nil0 (rs.map (·.2)) := ⟨_, rfl⟩
  rw [← hT]
  have HT := hide hT
  clear hC hV hT
  go_enter Tryz.func21, Tryz.ntmps21
  go_wp2_with (first | (with_reducible show wpList Tryz.prog _ _ (Oper.mk _ (Op.alloc 43) _ _ _ none :: _) _ _; refine wpList_alF rfl rfl ?_; intro w2 bb qz2 tz2; have hr2 := rz.lt; have rz := rz.later qz2; have BZ := bt BZ qz2) | (with_reducible show wpList Tryz.prog _ _ (Oper.mk _ (Op.alloc 43) _ _ _ none :: _) _ _; refine wpList_alF rfl rfl ?_; intro w1 rz BZ tz))
  rw [show w1.heap.size = w.heap.size + 1 from tz] at bb
  go_loopw [11] (fun iv wr => ∃ (j : Nat) (best : Fd), j ≤ n ∧ iv = .int .i64 (j : Int) ∧ Fb w.heap.size nil0 wr ∧ Fb (w.heap.size + 1) best wr ∧ Below w.heap.size w wr ∧ lgF best ((rs.drop j).map (·.2)) = T) (fun iv _ => n - (intOf iv).toNat)
  case atStart => exact ⟨0, nil0, by omega, rfl, rz, bb, BZ, by rw [List.drop_zero]; exact (unhide HT).symm⟩
  case round =>
    obtain ⟨j, ⟨bk, bt0, bn, be⟩, hj, rfl, rz, bb, BZ, hq⟩ := hrel
    have HQ := hide hq
    clear hq
    by_cases hlt : j < n
    · have hlj : j < rs.length := by rw [unhide hlen]; exact hlt
      have hpj : rs[j]? = some rs[j] := List.getElem?_eq_getElem hlj
      have hdr : rs.drop j = rs[j] :: rs.drop (j + 1) := List.drop_eq_getElem_cons hlj
      have hq := unhide HQ
      rw [hdr, List.map_cons] at hq
      have HCx := (unhide HCH).cell j _ hpj
      have hE0 := (unhide HCH).ent j _ hpj
      have HRx := (unhide HCH).run j _ hpj wr ((unhide HV).later BZ)
      have hix := fun wx => run_idxFn b o n c hlt (j : Int) rfl wx
      generalize rs[j] = P at *
      obtain ⟨F, ⟨k, tx, m, E⟩⟩ := P
      simp only at HCx hE0 HRx hq
      have HC := hide HRx
      have cc := cell_later BZ HCx
      clear HRx HCx hpj hdr
      by_cases hE : E = 0
      · subst hE
        rw [lg_step _ _ _ rfl] at hq
        have HQ2 := hide hq
        clear hq
        by_cases hlt2 : bn < m
        · have hd : decide ((bn : Int) < (m : Int)) = true := by simp; omega
          have HQ3 := hide (show lgF ⟨k, tx, m, 0⟩ ((rs.drop (j + 1)).map (·.2)) = T by have := unhide HQ2; simp only [hlt2, if_true] at this; exact this)
          clear HQ2
          go_wp2_with (first | (go_at_fn F; (with_reducible refine (unhide HC).mono ?_); rintro e w2 ⟨rfl, b2⟩; have rz := rz.later b2; have bb := bb.later b2; have BZ := bt BZ b2) | (with_reducible show wpList Tryz.prog _ _ (Oper.mk _ (Op.alloc 43) _ _ _ none :: _) _ _; refine wpList_alF rfl rfl ?_; intro w3 fz qz tz; have hr3 := rz.lt; have hb3 := bb.lt; have rz := rz.later qz; have bb := bb.later qz; have BZ := bt BZ qz) | (with_reducible show wpList Tryz.prog _ _ (Oper.mk _ (Op.store 43 _ _) _ _ _ none :: _) _ _; refine wpList_stF rfl (.tmp 8) (.tmp 17) rfl _ ⟨k, tx, m, 0⟩ nil0 (by simp [Act.eval, Act.put]) (by simp [Act.eval, Act.put]) fz ?_; intro w4 fz gz tz4; have rz := rz.gb gz (by omega); have bb := bb.gb gz (by omega); have BZ := below_gb BZ gz (by omega); have k3 := fb_n fz; have k4 := fb_e fz; have j3 := fb_n bb) | (with_reducible show wpList Tryz.prog _ _ (Oper.mk _ (Op.load 43 _) _ _ _ none :: _) _ _; refine wpList_ldF rfl (.tmp 8) rfl _ ⟨k, tx, m, 0⟩ (by simp [Act.eval, Act.put]) fz ?_) | (with_reducible show wpList Tryz.prog _ _ (Oper.mk _ (Op.store 43 _ _) _ _ _ none :: _) _ _; refine wpList_stF rfl (.tmp 4) (.tmp 21) rfl w.heap.size ⟨k, tx, m, 0⟩ nil0 (by simp [Act.eval, Act.put]) (by simp [Act.eval, Act.put]) rz ?_; intro wy ry gy sy) | (with_reducible show wpList Tryz.prog _ _ (Oper.mk _ (Op.store 43 _ _) _ _ _ none :: _) _ _; refine wpList_stF rfl (.tmp 5) (.tmp 27) rfl (w.heap.size + 1) ⟨k, tx, m, 0⟩ ⟨bk, bt0, bn, be⟩ (by simp [Act.eval, Act.put]) (by simp [Act.eval, Act.put]) bb ?_; intro w5 bb gz5 tz5; have rz := rz.gb gz5 (by omega); have BZ := below_gb BZ gz5 (by omega)))
          go_roundw
          case rel => exact ⟨j + 1, ⟨k, tx, m, 0⟩, by omega, by go_num, rz, bb, BZ, unhide HQ3⟩
          case measure => simp [intOf]; omega
        · have hd : decide ((bn : Int) < (m : Int)) = false := by simp; omega
          have HQ3 := hide (show lgF ⟨bk, bt0, bn, be⟩ ((rs.drop (j + 1)).map (·.2)) = T by have := unhide HQ2; simp only [hlt2, if_false] at this; exact this)
          clear HQ2
          go_wp2_with (first | (go_at_fn F; (with_reducible refine (unhide HC).mono ?_); rintro e w2 ⟨rfl, b2⟩; have rz := rz.later b2; have bb := bb.later b2; have BZ := bt BZ b2) | (with_reducible show wpList Tryz.prog _ _ (Oper.mk _ (Op.alloc 43) _ _ _ none :: _) _ _; refine wpList_alF rfl rfl ?_; intro w3 fz qz tz; have hr3 := rz.lt; have hb3 := bb.lt; have rz := rz.later qz; have bb := bb.later qz; have BZ := bt BZ qz) | (with_reducible show wpList Tryz.prog _ _ (Oper.mk _ (Op.store 43 _ _) _ _ _ none :: _) _ _; refine wpList_stF rfl (.tmp 8) (.tmp 17) rfl _ ⟨k, tx, m, 0⟩ nil0 (by simp [Act.eval, Act.put]) (by simp [Act.eval, Act.put]) fz ?_; intro w4 fz gz tz4; have rz := rz.gb gz (by omega); have bb := bb.gb gz (by omega); have BZ := below_gb BZ gz (by omega); have k3 := fb_n fz; have k4 := fb_e fz; have j3 := fb_n bb) | (with_reducible show wpList Tryz.prog _ _ (Oper.mk _ (Op.load 43 _) _ _ _ none :: _) _ _; refine wpList_ldF rfl (.tmp 8) rfl _ ⟨k, tx, m, 0⟩ (by simp [Act.eval, Act.put]) fz ?_) | (with_reducible show wpList Tryz.prog _ _ (Oper.mk _ (Op.store 43 _ _) _ _ _ none :: _) _ _; refine wpList_stF rfl (.tmp 4) (.tmp 21) rfl w.heap.size ⟨k, tx, m, 0⟩ nil0 (by simp [Act.eval, Act.put]) (by simp [Act.eval, Act.put]) rz ?_; intro wy ry gy sy) | (with_reducible show wpList Tryz.prog _ _ (Oper.mk _ (Op.store 43 _ _) _ _ _ none :: _) _ _; refine wpList_stF rfl (.tmp 5) (.tmp 27) rfl (w.heap.size + 1) ⟨k, tx, m, 0⟩ ⟨bk, bt0, bn, be⟩ (by simp [Act.eval, Act.put]) (by simp [Act.eval, Act.put]) bb ?_; intro w5 bb gz5 tz5; have rz := rz.gb gz5 (by omega); have BZ := below_gb BZ gz5 (by omega)))
          go_roundw
          case rel => exact ⟨j + 1, ⟨bk, bt0, bn, be⟩, by omega, by go_num, rz, bb, BZ, unhide HQ3⟩
          case measure => simp [intOf]; omega
      · rw [lg_err _ _ _ hE] at hq
        have HQ2 := hide hq
        clear hq
        have hE2 : (E != 0) = true := by simpa using hE
        go_wp2_with (first | (go_at_fn F; (with_reducible refine (unhide HC).mono ?_); rintro e w2 ⟨rfl, b2⟩; have rz := rz.later b2; have bb := bb.later b2; have BZ := bt BZ b2) | (with_reducible show wpList Tryz.prog _ _ (Oper.mk _ (Op.alloc 43) _ _ _ none :: _) _ _; refine wpList_alF rfl rfl ?_; intro w3 fz qz tz; have hr3 := rz.lt; have hb3 := bb.lt; have rz := rz.later qz; have bb := bb.later qz; have BZ := bt BZ qz) | (with_reducible show wpList Tryz.prog _ _ (Oper.mk _ (Op.store 43 _ _) _ _ _ none :: _) _ _; refine wpList_stF rfl (.tmp 8) (.tmp 17) rfl _ ⟨k, tx, m, E⟩ nil0 (by simp [Act.eval, Act.put]) (by simp [Act.eval, Act.put]) fz ?_; intro w4 fz gz tz4; have rz := rz.gb gz (by omega); have bb := bb.gb gz (by omega); have BZ := below_gb BZ gz (by omega); have k3 := fb_n fz; have k4 := fb_e fz; have j3 := fb_n bb) | (with_reducible show wpList Tryz.prog _ _ (Oper.mk _ (Op.load 43 _) _ _ _ none :: _) _ _; refine wpList_ldF rfl (.tmp 8) rfl _ ⟨k, tx, m, E⟩ (by simp [Act.eval, Act.put]) fz ?_) | (with_reducible show wpList Tryz.prog _ _ (Oper.mk _ (Op.store 43 _ _) _ _ _ none :: _) _ _; refine wpList_stF rfl (.tmp 4) (.tmp 21) rfl w.heap.size ⟨k, tx, m, E⟩ nil0 (by simp [Act.eval, Act.put]) (by simp [Act.eval, Act.put]) rz ?_; intro wy ry gy sy) | (with_reducible show wpList Tryz.prog _ _ (Oper.mk _ (Op.store 43 _ _) _ _ _ none :: _) _ _; refine wpList_stF rfl (.tmp 5) (.tmp 27) rfl (w.heap.size + 1) ⟨k, tx, m, E⟩ ⟨bk, bt0, bn, be⟩ (by simp [Act.eval, Act.put]) (by simp [Act.eval, Act.put]) bb ?_; intro w5 bb gz5 tz5; have rz := rz.gb gz5 (by omega); have BZ := below_gb BZ gz5 (by omega)))
        exact fd_end rfl w.heap.size _ _ rfl rfl ry (unhide HQ2) (below_gb BZ gy (Nat.le_refl _))
    · have hjn : j = n := by omega
      subst hjn
      have hq := unhide HQ
      rw [List.drop_of_length_le (by rw [unhide hlen]; exact Nat.le_refl _)] at hq
      have hq2 : (⟨bk, bt0, bn, be⟩ : Fd) = T := hq
      have HQ2 := hide hq2
      clear hq hq2
      go_wp2_with (first | (with_reducible show wpList Tryz.prog _ _ (Oper.mk _ (Op.load 43 _) _ _ _ none :: _) _ _; refine wpList_ldF rfl (.tmp 5) rfl _ ⟨bk, bt0, bn, be⟩ (by simp [Act.eval, Act.put]) bb ?_) | (with_reducible show wpList Tryz.prog _ _ (Oper.mk _ (Op.store 43 _ _) _ _ _ none :: _) _ _; refine wpList_stF rfl (.tmp 4) (.tmp 29) rfl w.heap.size ⟨bk, bt0, bn, be⟩ nil0 (by simp [Act.eval, Act.put]) (by simp [Act.eval, Act.put]) rz ?_; intro wy ry gy sy))
      exact fd_end rfl w.heap.size _ _ rfl rfl ry (unhide HQ2) (below_gb BZ gy (Nat.le_refl _))

end Go.Proofs.YtddfbaaghjcbnaaGreatDoor
