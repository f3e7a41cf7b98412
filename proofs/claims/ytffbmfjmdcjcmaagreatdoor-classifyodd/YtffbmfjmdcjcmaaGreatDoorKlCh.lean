/-
  What firstOf of package classify returns for a chain of functions: the class that the first of them finds. Conditions: a chain of at most a hundred, each function by its contract.
-/
import Derived.Test.YtffbmfjmdcjcmaaGreatDoorKlFn1
import Derived.Test.YtffbmfjmdcjcmaaGreatDoorKlFn2
import Derived.Test.YtffbmfjmdcjcmaaGreatDoorKlFn3
import Derived.Test.YtffbmfjmdcjcmaaGreatDoorKlFn4
import Derived.Test.YtffbmfjmdcjcmaaGreatDoorKlFn5
import Derived.Test.YtffbmfjmdcjcmaaGreatDoorKlFn6
import Derived.Test.YtffbmfjmdcjcmaaGreatDoorKlFn7
import Derived.Test.YtffbmfjmdcjcmaaGreatDoorKlFn8
import Derived.Test.YtffbmfjmdcjcmaaGreatDoorKlFn9
namespace Go.Proofs.YtffbmfjmdcjcmaaGreatDoor
open Go.RowKit
set_option linter.unusedVariables false
set_option linter.unusedSimpArgs false

theorem run_idxFk (b n c : Nat) {i : Nat} (hi : i < n) (I : Int) (hI : I = i) (wx : World) : (Instr.indexAt 98 (.slice (some ⟨b, 0, none⟩) n c) (.int .i64 I)).run Tryz.prog wx = .ok (.pointer (some ⟨b, i, none⟩)) wx := by
  subst hI
  rw [run_indexAt_slice wx 98 _ n c .i64 (i : Int) (show Tryz.prog.underlying 98 = some (.slice (Tryz.prog.elem 98)) by kernel_rfl)]
  simp [show ∀ w, (sizeOf (Tryz.prog.elem 98)).run Tryz.prog w = .ok 1 w by intro w; kernel_rfl, hi, Addr.add_lit, Result.andThen]
/-- A chain of functions (each with what is bound to it), and what each of them finds. -/
abbrev Fr3 := Nat × Array Value × (Cl × Bool)
structure Ch (ao : Option Addr) (n c : Nat) (w : World) (b m : Nat) (rs : List Fr3) : Prop where
  len : rs.length = m
  cell : ∀ (i : Nat) (p : Fr3), rs[i]? = some p → w.cell? ⟨b, i, none⟩ = some (.func (.func p.1) p.2.1 #[])
  ent : ∀ (i : Nat) (p : Fr3), rs[i]? = some p → ∀ args w, (callFunc p.1 args).run Tryz.prog w = .ok (.enter p.1 args) w
  run : ∀ (i : Nat) (p : Fr3), rs[i]? = some p → ∀ wx, Below w.heap.size w wx → Calls Tryz.prog p.1 (p.2.1 ++ #[.slice ao n c]) wx (OutC wx p.2.2)
theorem firF_cons (x : Cl × Bool) (r : List (Cl × Bool)) : firF (x :: r) = if x.2 then (x.1, true) else firF r := rfl

set_option maxHeartbeats 4000000 in
set_option maxRecDepth 20000 in
theorem firstOf_any (ao : Option Addr) (n c : Nat) (w : World) (b m d : Nat) (rs : List Fr3) (hC : Ch ao n c w b m rs) (hn : m ≤ 100) (hc : m ≤ d) (hm : d ≤ 100) :
    Calls Tryz.prog 55 #[.slice ao n c, .slice (some ⟨b, 0, none⟩) m d] w (OutC w (firF (rs.map (·.2.2)))) := by
  have HCH := hide hC
  have hlen := hide hC.len
  obtain ⟨T, hT⟩ : ∃ T, T = firF (rs.map (·.2.2)) := ⟨_, rfl⟩
  rw [← hT]
  have HT := hide hT
  clear hC hT
  go_enter Tryz.func55, Tryz.ntmps55
  go_wp2_with (with_reducible show wpList Tryz.prog _ _ (Oper.mk _ (Op.alloc 23) _ _ _ none :: _) _ _; refine wpList_alC rfl rfl ?_; intro w1 rz BZ tz; clear tz)
  go_loopw [12] (fun iv wr => ∃ (j : Nat), j ≤ m ∧ iv = .int .i64 (j : Int) ∧ Clb w.heap.size cl0 wr ∧ Below w.heap.size w wr ∧ firF ((rs.drop j).map (·.2.2)) = T) (fun iv _ => m - (intOf iv).toNat)
  case atStart => exact ⟨0, by omega, rfl, rz, BZ, by rw [List.drop_zero]; exact (unhide HT).symm⟩
  case round =>
    obtain ⟨j, hj, rfl, rz, BZ, hq⟩ := hrel
    have HQ := hide hq
    clear hq
    by_cases hlt : j < m
    · have hlj : j < rs.length := by rw [unhide hlen]; exact hlt
      have hpj : rs[j]? = some rs[j] := List.getElem?_eq_getElem hlj
      have hdr : rs.drop j = rs[j] :: rs.drop (j + 1) := List.drop_eq_getElem_cons hlj
      have hq := unhide HQ
      rw [hdr, List.map_cons, firF_cons] at hq
      have HCx := (unhide HCH).cell j _ hpj
      have hE0 := (unhide HCH).ent j _ hpj
      have HRx := (unhide HCH).run j _ hpj wr BZ
      have hix := fun wx => run_idxFk b m d hlt (j : Int) rfl wx
      generalize rs[j] = P at *
      obtain ⟨F, rc, ⟨C, ok⟩⟩ := P
      simp only at HCx hE0 HRx hq
      have HC := hide HRx
      have cc := cell_later BZ HCx
      clear HRx HCx hpj hdr
      cases ok with
      | true =>
        simp only [if_true] at hq
        have HQ2 := hide hq
        clear hq
        go_wp2_with (first | (with_reducible show wpList Tryz.prog _ _ (Oper.mk _ (Op.alloc 23) _ _ _ none :: _) _ _; refine wpList_alC rfl rfl ?_; intro w3 fz qz tz; clear tz; have r3 := r2.later qz; have B3 := belT B2 qz) | (with_reducible show wpList Tryz.prog _ _ (Oper.mk _ (Op.store 23 _ _) _ _ _ none :: _) _ _; refine wpList_stC rfl _ _ rfl w.heap.size C cl0 (by simp [Act.eval, Act.put]) (by simp [Act.eval, Act.put]) r4 ?_; intro w5 r5 g5 t5; have B5 := belowG B4 g5 (Nat.le_refl _) B4.size) | (with_reducible show wpList Tryz.prog _ _ (Oper.mk _ (Op.load 23 _) _ _ _ none :: _) _ _; refine wpList_ldC rfl _ rfl w2.heap.size C (by simp [Act.eval, Act.put]) f4 ?_) | (with_reducible show wpList Tryz.prog _ _ (Oper.mk _ (Op.store 23 _ _) _ _ _ none :: _) _ _; refine wpList_stC rfl _ _ rfl w2.heap.size C cl0 (by simp [Act.eval, Act.put]) (by simp [Act.eval, Act.put]) fz ?_; intro w4 f4 g4 t4; clear t4; have r4 := r3.gb g4 (Nat.ne_of_lt r2.lt); have B4 := belowG B3 g4 B2.size B3.size) | (go_at_fn F; refine (unhide HC).mono ?_; rintro e w2 ⟨rfl, b2⟩; have r2 := rz.later b2; have B2 := belT BZ b2))
        exact clb_end rfl w.heap.size (C, true) T rfl rfl rfl r5 (unhide HQ2) B5
      | false =>
        simp only [Bool.false_eq_true, if_false] at hq
        have HQ2 := hide hq
        clear hq
        go_wp2_with (first | (with_reducible show wpList Tryz.prog _ _ (Oper.mk _ (Op.alloc 23) _ _ _ none :: _) _ _; refine wpList_alC rfl rfl ?_; intro w3 fz qz tz; clear tz; have r3 := r2.later qz; have B3 := belT B2 qz) | (with_reducible show wpList Tryz.prog _ _ (Oper.mk _ (Op.store 23 _ _) _ _ _ none :: _) _ _; refine wpList_stC rfl _ _ rfl w2.heap.size C cl0 (by simp [Act.eval, Act.put]) (by simp [Act.eval, Act.put]) fz ?_; intro w4 f4 g4 t4; clear t4; have r4 := r3.gb g4 (Nat.ne_of_lt r2.lt); have B4 := belowG B3 g4 B2.size B3.size) | (go_at_fn F; refine (unhide HC).mono ?_; rintro e w2 ⟨rfl, b2⟩; have r2 := rz.later b2; have B2 := belT BZ b2))
        go_roundw
        case rel => exact ⟨j + 1, by omega, by go_num, r4, B4, unhide HQ2⟩
        case measure => simp [intOf]; omega
    · have hjn : j = m := by omega
      subst hjn
      have hq := unhide HQ
      rw [List.drop_of_length_le (by rw [unhide hlen]; exact Nat.le_refl _)] at hq
      have HQ2 := hide (show (cl0, false) = T from hq)
      clear hq
      go_wp2_with (with_reducible show wpList Tryz.prog _ _ (Oper.mk _ (Op.store 23 _ _) _ _ _ none :: _) _ _; refine wpList_stC rfl _ _ rfl w.heap.size cl0 cl0 (by simp [Act.eval, Act.put]) (by simp [Act.eval, Act.put, clC, cl0, ba]) rz ?_; intro w5 r5 g5 t5; have B5 := belowG BZ g5 (Nat.le_refl _) BZ.size)
      exact clb_end rfl w.heap.size (cl0, false) T rfl rfl rfl r5 (unhide HQ2) B5

theorem ent_lock : ∀ args w, (callFunc 56 args).run Tryz.prog w = .ok (.enter 56 args) w := enters_of Tryz.func56 (by kernel_rfl) rfl
theorem ent_lockTables : ∀ args w, (callFunc 57 args).run Tryz.prog w = .ok (.enter 57 args) w := enters_of Tryz.func57 (by kernel_rfl) rfl
theorem ent_unlock : ∀ args w, (callFunc 58 args).run Tryz.prog w = .ok (.enter 58 args) w := enters_of Tryz.func58 (by kernel_rfl) rfl
theorem ent_begin : ∀ args w, (callFunc 60 args).run Tryz.prog w = .ok (.enter 60 args) w := enters_of Tryz.func60 (by kernel_rfl) rfl
theorem ent_end : ∀ args w, (callFunc 61 args).run Tryz.prog w = .ok (.enter 61 args) w := enters_of Tryz.func61 (by kernel_rfl) rfl
theorem ent_setUser : ∀ args w, (callFunc 62 args).run Tryz.prog w = .ok (.enter 62 args) w := enters_of Tryz.func62 (by kernel_rfl) rfl
theorem ent_set : ∀ args w, (callFunc 63 args).run Tryz.prog w = .ok (.enter 63 args) w := enters_of Tryz.func63 (by kernel_rfl) rfl
theorem ent_setNames : ∀ args w, (callFunc 64 args).run Tryz.prog w = .ok (.enter 64 args) w := enters_of Tryz.func64 (by kernel_rfl) rfl
theorem ent_use : ∀ args w, (callFunc 65 args).run Tryz.prog w = .ok (.enter 65 args) w := enters_of Tryz.func65 (by kernel_rfl) rfl
theorem ent_makeTemp : ∀ args w, (callFunc 66 args).run Tryz.prog w = .ok (.enter 66 args) w := enters_of Tryz.func66 (by kernel_rfl) rfl
theorem ent_dropTemp : ∀ args w, (callFunc 67 args).run Tryz.prog w = .ok (.enter 67 args) w := enters_of Tryz.func67 (by kernel_rfl) rfl
theorem ent_file : ∀ args w, (callFunc 68 args).run Tryz.prog w = .ok (.enter 68 args) w := enters_of Tryz.func68 (by kernel_rfl) rfl
theorem ent_write : ∀ args w, (callFunc 69 args).run Tryz.prog w = .ok (.enter 69 args) w := enters_of Tryz.func69 (by kernel_rfl) rfl
theorem ent_read : ∀ args w, (callFunc 70 args).run Tryz.prog w = .ok (.enter 70 args) w := enters_of Tryz.func70 (by kernel_rfl) rfl

set_option maxHeartbeats 2000000 in
theorem kchain3 (ao : Option Addr) (n c : Nat) (l : List Wd) (w : World) (hW : Wds w ao n c l) (hT : ∀ x ∈ l, x.tx.size ≤ 1073741824) (R : Cl × Bool) (h : firF [lockF l, lotaF l, unloF l] = R) :
    Calls Tryz.prog 55 #[.slice ao n c, .slice (some ⟨w.heap.size, 0, none⟩) 3 3] (w.alloc (.cells #[.func (.func 56) #[] #[], .func (.func 57) #[] #[], .func (.func 58) #[] #[]] 62)) (OutC w R) := by
  have b := below_alloc w (.cells #[.func (.func 56) #[] #[], .func (.func 57) #[] #[], .func (.func 58) #[] #[]] 62)
  have r := heap_alloc_new w (.cells #[.func (.func 56) #[] #[], .func (.func 57) #[] #[], .func (.func 58) #[] #[]] 62)
  refine (fun C => ?_ : Ch ao n c (w.alloc (.cells #[.func (.func 56) #[] #[], .func (.func 57) #[] #[], .func (.func 58) #[] #[]] 62)) w.heap.size 3 [(56, #[], lockF l), (57, #[], lotaF l), (58, #[], unloF l)] → _) ⟨rfl, ?_, ?_, ?_⟩
  · have C := firstOf_any ao n c _ w.heap.size 3 3 _ C (by omega) (by omega) (by omega)
    simp only [List.map_cons, List.map_nil] at C
    rw [h] at C
    exact C.mono fun e w2 k => ⟨k.1, belT b k.2⟩
  · intro i p hp
    rw [cell_of_row _ _ i _ _ _ r]
    rcases i with _ | _ | _ | i
    · cases hp; rfl
    · cases hp; rfl
    · cases hp; rfl
    · simp at hp
  · intro i p hp
    rcases i with _ | _ | _ | i
    · cases hp; exact ent_lock
    · cases hp; exact ent_lockTables
    · cases hp; exact ent_unlock
    · simp at hp
  · intro i p hp wx hx
    have bx := belT b hx
    rcases i with _ | _ | _ | i
    · cases hp; exact lock_any ao n c l wx (hW.later bx) hT
    · cases hp; exact lockTables_any ao n c l wx (hW.later bx) hT
    · cases hp; exact unlock_any ao n c l wx (hW.later bx) hT
    · simp at hp

set_option maxHeartbeats 2000000 in
theorem chain11 (cs : Array Value) (ao : Option Addr) (n c : Nat) (l : List Wd) (w : World) (hS : Sts cs w) (hW : Wds w ao n c l) (hT : ∀ x ∈ l, x.tx.size ≤ 1073741824) (R : Cl × Bool) (h : firF [begiF l, endF l, setuF l, setF l, setnF l, useF l, mateF l, drteF l, fileF l, writF l, readF l] = R) :
    Calls Tryz.prog 55 #[.slice ao n c, .slice (some ⟨w.heap.size, 0, none⟩) 11 11] (w.alloc (.cells #[.func (.func 60) #[] #[], .func (.func 61) #[] #[], .func (.func 62) #[] #[], .func (.func 63) #[.agg cs] #[], .func (.func 64) #[] #[], .func (.func 65) #[] #[], .func (.func 66) #[] #[], .func (.func 67) #[] #[], .func (.func 68) #[] #[], .func (.func 69) #[.agg cs] #[], .func (.func 70) #[.agg cs] #[]] 62)) (OutC w R) := by
  have b := below_alloc w (.cells #[.func (.func 60) #[] #[], .func (.func 61) #[] #[], .func (.func 62) #[] #[], .func (.func 63) #[.agg cs] #[], .func (.func 64) #[] #[], .func (.func 65) #[] #[], .func (.func 66) #[] #[], .func (.func 67) #[] #[], .func (.func 68) #[] #[], .func (.func 69) #[.agg cs] #[], .func (.func 70) #[.agg cs] #[]] 62)
  have r := heap_alloc_new w (.cells #[.func (.func 60) #[] #[], .func (.func 61) #[] #[], .func (.func 62) #[] #[], .func (.func 63) #[.agg cs] #[], .func (.func 64) #[] #[], .func (.func 65) #[] #[], .func (.func 66) #[] #[], .func (.func 67) #[] #[], .func (.func 68) #[] #[], .func (.func 69) #[.agg cs] #[], .func (.func 70) #[.agg cs] #[]] 62)
  refine (fun C => ?_ : Ch ao n c (w.alloc (.cells #[.func (.func 60) #[] #[], .func (.func 61) #[] #[], .func (.func 62) #[] #[], .func (.func 63) #[.agg cs] #[], .func (.func 64) #[] #[], .func (.func 65) #[] #[], .func (.func 66) #[] #[], .func (.func 67) #[] #[], .func (.func 68) #[] #[], .func (.func 69) #[.agg cs] #[], .func (.func 70) #[.agg cs] #[]] 62)) w.heap.size 11 [(60, #[], begiF l), (61, #[], endF l), (62, #[], setuF l), (63, #[.agg cs], setF l), (64, #[], setnF l), (65, #[], useF l), (66, #[], mateF l), (67, #[], drteF l), (68, #[], fileF l), (69, #[.agg cs], writF l), (70, #[.agg cs], readF l)] → _) ⟨rfl, ?_, ?_, ?_⟩
  · have C := firstOf_any ao n c _ w.heap.size 11 11 _ C (by omega) (by omega) (by omega)
    simp only [List.map_cons, List.map_nil] at C
    rw [h] at C
    exact C.mono fun e w2 k => ⟨k.1, belT b k.2⟩
  · intro i p hp
    rw [cell_of_row _ _ i _ _ _ r]
    rcases i with _ | _ | _ | _ | _ | _ | _ | _ | _ | _ | _ | i
    · cases hp; rfl
    · cases hp; rfl
    · cases hp; rfl
    · cases hp; rfl
    · cases hp; rfl
    · cases hp; rfl
    · cases hp; rfl
    · cases hp; rfl
    · cases hp; rfl
    · cases hp; rfl
    · cases hp; rfl
    · simp at hp
  · intro i p hp
    rcases i with _ | _ | _ | _ | _ | _ | _ | _ | _ | _ | _ | i
    · cases hp; exact ent_begin
    · cases hp; exact ent_end
    · cases hp; exact ent_setUser
    · cases hp; exact ent_set
    · cases hp; exact ent_setNames
    · cases hp; exact ent_use
    · cases hp; exact ent_makeTemp
    · cases hp; exact ent_dropTemp
    · cases hp; exact ent_file
    · cases hp; exact ent_write
    · cases hp; exact ent_read
    · simp at hp
  · intro i p hp wx hx
    have bx := belT b hx
    rcases i with _ | _ | _ | _ | _ | _ | _ | _ | _ | _ | _ | i
    · cases hp; exact begin_any ao n c l wx (hW.later bx) hT
    · cases hp; exact cend_any ao n c l wx (hW.later bx) hT
    · cases hp; exact setUser_any ao n c l wx (hW.later bx) hT
    · cases hp; exact set_any cs ao n c l wx (hS.later bx) (hW.later bx) hT
    · cases hp; exact setNames_any ao n c l wx (hW.later bx) hT
    · cases hp; exact use_any ao n c l wx (hW.later bx) hT
    · cases hp; exact makeTemp_any ao n c l wx (hW.later bx) hT
    · cases hp; exact dropTemp_any ao n c l wx (hW.later bx) hT
    · cases hp; exact file_any ao n c l wx (hW.later bx) hT
    · cases hp; exact write_any cs ao n c l wx (hS.later bx) (hW.later bx) hT
    · cases hp; exact read_any cs ao n c l wx (hS.later bx) (hW.later bx) hT
    · simp at hp

end Go.Proofs.YtffbmfjmdcjcmaaGreatDoor
