/-
  The statements of words, plain: up to the first sign ;, and behind it; what words say is no longer than their text. No program and no memory is named here.
  What firstOf of package classify returns for a chain of functions: the class that the first of them finds. Conditions: a chain of at most a hundred, each function by its contract.
  What class and One of package classify return: the class of a statement's words. Conditions: the words lie behind the slice, each says at most 2 to the 30 bytes.
  Classes in memory: where one lies, a slice of them, a row of the call's own, append. Conditions: at most 10 to the 8 of them.
  A fault, held against none, and loaded whole. Conditions: none.
  What Of of package classify returns for any text: the classes of its statements, or the scanner's fault. Conditions: the library's variables read as they were laid.
-/
import Derived.Test.YtddfbaaghjcbnaaGreatDoorKlPlain
import Derived.Test.YtddfbaaghjcbnaaGreatDoorScPl3
import Derived.Test.YtddfbaaghjcbnaaGreatDoorKlFn1
import Derived.Test.YtddfbaaghjcbnaaGreatDoorKlFn2
import Derived.Test.YtddfbaaghjcbnaaGreatDoorKlFn3
import Derived.Test.YtddfbaaghjcbnaaGreatDoorKlFn4
import Derived.Test.YtddfbaaghjcbnaaGreatDoorKlFn5
import Derived.Test.YtddfbaaghjcbnaaGreatDoorKlFn6
import Derived.Test.YtddfbaaghjcbnaaGreatDoorKlFn7
import Derived.Test.YtddfbaaghjcbnaaGreatDoorKlFn8
import Derived.Test.YtddfbaaghjcbnaaGreatDoorKlFn9
import Derived.Test.YtddfbaaghjcbnaaGreatDoorKlMem
import Derived.Test.YtddfbaaghjcbnaaGreatDoorMNx
import Derived.Deep.RegionWith
namespace Go.Proofs.YtddfbaaghjcbnaaGreatDoor
set_option linter.unusedVariables false
set_option linter.unusedSimpArgs false

theorem stm_none : ∀ (l acc : List Wd), (∀ x ∈ l, isE x = false) → stmF l acc = if acc ++ l = [] then [] else [acc ++ l]
  | [], acc, h => by simp [stmF]
  | x :: l, acc, h => by
    have hx := h x (by simp)
    simp only [stmF, hx, Bool.false_eq_true, if_false]
    rw [stm_none l _ (fun y hy => h y (by simp [hy])), List.append_assoc]
    rfl
theorem stm_split (q : List Wd) (x : Wd) (hx : isE x = true) : ∀ (p acc : List Wd), (∀ y ∈ p, isE y = false) → stmF (p ++ x :: q) acc = (if acc ++ p = [] then [] else [acc ++ p]) ++ stmF q []
  | [], acc, h => by
    simp only [List.nil_append, stmF, hx, if_true, List.append_nil]
    split <;> simp
  | y :: p, acc, h => by
    have hy := h y (by simp)
    simp only [List.cons_append, stmF, hy, Bool.false_eq_true, if_false]
    rw [stm_split q x hx p _ (fun z hz => h z (by simp [hz])), List.append_assoc]
    rfl
theorem ofW_nil : ofW [] = [] := rfl
theorem ofW_none (l : List Wd) (hl : l ≠ []) (h : ∀ x ∈ l, isE x = false) : ofW l = [clsF l] := by
  unfold ofW
  rw [stm_none l [] h, List.nil_append, if_neg hl]
  rfl
theorem ofW_split (p q : List Wd) (x : Wd) (hx : isE x = true) (h : ∀ y ∈ p, isE y = false) : ofW (p ++ x :: q) = (if p = [] then [] else [clsF p]) ++ ofW q := by
  unfold ofW
  rw [stm_split q x hx p [] h, List.nil_append, List.map_append]
  split <;> simp
theorem wsF_tx : ∀ (m : Nat) (l : Bl) (i : Nat), ∀ x ∈ (wsF m l i).1, x.tx.size ≤ l.length
  | 0, l, i, x, hx => by cases hx
  | m + 1, l, i, x, hx => by
    simp only [wsF] at hx
    split at hx
    · cases hx
    · rename_i hl
      split at hx
      · cases hx
      · split at hx
        · have h1 : 1 ≤ l.length := by
            cases l with
            | nil => exact absurd rfl hl
            | cons a r => simp
          rcases List.mem_append.1 hx with hx | hx
          · split at hx
            · cases hx
            · simp only [List.mem_singleton] at hx
              subst hx
              exact (nxF_fits l h1).2
          · have := wsF_tx m _ _ x hx
            rw [List.length_drop] at this
            omega
        · cases hx
theorem alW_tx (l : Bl) : ∀ x ∈ (alW l).1, x.tx.size ≤ 1048576 := by
  intro x hx
  by_cases h : l.length ≤ 1048576
  · rw [alW_ws l h] at hx
    split at hx
    · exact Nat.le_trans (wsF_tx _ _ _ x hx) h
    · cases hx
  · unfold alW at hx
    rw [if_pos (by omega)] at hx
    cases hx

end Go.Proofs.YtddfbaaghjcbnaaGreatDoor

namespace Go.Proofs.YtddfbaaghjcbnaaGreatDoor
open Go.RowKit
set_option linter.unusedVariables false
set_option linter.unusedSimpArgs false

theorem run_idxFk (b n c : Nat) {i : Nat} (hi : i < n) (I : Int) (hI : I = i) (wx : World) : (Instr.indexAt 86 (.slice (some ⟨b, 0, none⟩) n c) (.int .i64 I)).run Tryz.prog wx = .ok (.pointer (some ⟨b, i, none⟩)) wx := by
  subst hI
  rw [run_indexAt_slice wx 86 _ n c .i64 (i : Int) (show Tryz.prog.underlying 86 = some (.slice (Tryz.prog.elem 86)) by kernel_rfl)]
  simp [show ∀ w, (sizeOf (Tryz.prog.elem 86)).run Tryz.prog w = .ok 1 w by intro w; kernel_rfl, hi, Addr.add_lit, Result.andThen]
/-- A chain of functions (each with what is bound to it), and what each of them finds. -/
abbrev Fr3 := Nat × Array Value × (Cl × Bool)
structure Ch (ao : Option Addr) (n c : Nat) (w : World) (b m : Nat) (rs : List Fr3) : Prop where
  len : rs.length = m
  cell : ∀ (i : Nat) (p : Fr3), rs[i]? = some p → w.cell? ⟨b, i, none⟩ = some (.func (.func p.1) p.2.1 #[])
  ent : ∀ (i : Nat) (p : Fr3), rs[i]? = some p → ∀ args w, (callFunc p.1 args).run Tryz.prog w = .ok (.enter p.1 args) w
  run : ∀ (i : Nat) (p : Fr3), rs[i]? = some p → ∀ wx, Below w.heap.size w wx → Calls Tryz.prog p.1 (p.2.1 ++ #[.slice ao n c]) wx (OutC wx p.2.2)
theorem firF_cons (x : Cl × Bool) (r : List (Cl × Bool)) : firF (x :: r) = if x.2 then (x.1, true) else firF r := rfl

set_option maxHeartbeats 4000000 in
set_option maxRecDepth 20000 in
theorem firstOf_any (ao : Option Addr) (n c : Nat) (w : World) (b m d : Nat) (rs : List Fr3) (hC : Ch ao n c w b m rs) (hn : m ≤ 100) (hc : m ≤ d) (hm : d ≤ 100) :
    Calls Tryz.prog 38 #[.slice ao n c, .slice (some ⟨b, 0, none⟩) m d] w (OutC w (firF (rs.map (·.2.2)))) := by
  have HCH := hide hC
  have hlen := hide hC.len
  obtain ⟨T, hT⟩ : ∃ T, T = firF (rs.map (·.2.2)) := ⟨_, rfl⟩
  rw [← hT]
  have HT := hide hT
  clear hC hT
  go_enter Tryz.func38, Tryz.ntmps38
  go_wp2_with (with_reducible show wpList Tryz.prog _ _ (Oper.mk _ (Op.alloc 40) _ _ _ none :: _) _ _; refine wpList_alC rfl rfl ?_; intro w1 rz BZ tz; clear tz)
  go_loopw [12] (fun iv wr => ∃ (j : Nat), j ≤ m ∧ iv = .int .i64 (j : Int) ∧ Clb w.heap.size cl0 wr ∧ Below w.heap.size w wr ∧ firF ((rs.drop j).map (·.2.2)) = T) (fun iv _ => m - (intOf iv).toNat)
  case atStart => exact ⟨0, by omega, rfl, rz, BZ, by rw [List.drop_zero]; exact (unhide HT).symm⟩
  case round =>
    obtain ⟨j, hj, rfl, rz, BZ, hq⟩ := hrel
    have HQ := hide hq
    clear hq
    by_cases hlt : j < m
    · have hlj : j < rs.length := by rw [unhide hlen]; exact hlt
      have hpj : rs[j]? = some rs[j] := List.getElem?_eq_getElem hlj
      have hdr : rs.drop j = rs[j] :: rs.drop (j + 1) := List.drop_eq_getElem_cons hlj
      have hq := unhide HQ
      rw [hdr, List.map_cons, firF_cons] at hq
      have HCx := (unhide HCH).cell j _ hpj
      have hE0 := (unhide HCH).ent j _ hpj
      have HRx := (unhide HCH).run j _ hpj wr BZ
      have hix := fun wx => run_idxFk b m d hlt (j : Int) rfl wx
      generalize rs[j] = P at *
      obtain ⟨F, rc, ⟨C, ok⟩⟩ := P
      simp only at HCx hE0 HRx hq
      have HC := hide HRx
      have cc := cell_later BZ HCx
      clear HRx HCx hpj hdr
      cases ok with
      | true =>
        simp only [if_true] at hq
        have HQ2 := hide hq
        clear hq
        go_wp2_with (first | (with_reducible show wpList Tryz.prog _ _ (Oper.mk _ (Op.alloc 40) _ _ _ none :: _) _ _; refine wpList_alC rfl rfl ?_; intro w3 fz qz tz; clear tz; have r3 := r2.later qz; have B3 := belT B2 qz) | (with_reducible show wpList Tryz.prog _ _ (Oper.mk _ (Op.store 40 _ _) _ _ _ none :: _) _ _; refine wpList_stC rfl _ _ rfl w.heap.size C cl0 (by simp [Act.eval, Act.put]) (by simp [Act.eval, Act.put]) r4 ?_; intro w5 r5 g5 t5; have B5 := belowG B4 g5 (Nat.le_refl _) B4.size) | (with_reducible show wpList Tryz.prog _ _ (Oper.mk _ (Op.load 40 _) _ _ _ none :: _) _ _; refine wpList_ldC rfl _ rfl w2.heap.size C (by simp [Act.eval, Act.put]) f4 ?_) | (with_reducible show wpList Tryz.prog _ _ (Oper.mk _ (Op.store 40 _ _) _ _ _ none :: _) _ _; refine wpList_stC rfl _ _ rfl w2.heap.size C cl0 (by simp [Act.eval, Act.put]) (by simp [Act.eval, Act.put]) fz ?_; intro w4 f4 g4 t4; clear t4; have r4 := r3.gb g4 (Nat.ne_of_lt r2.lt); have B4 := belowG B3 g4 B2.size B3.size) | (go_at_fn F; refine (unhide HC).mono ?_; rintro e w2 ⟨rfl, b2⟩; have r2 := rz.later b2; have B2 := belT BZ b2))
        exact clb_end rfl w.heap.size (C, true) T rfl rfl rfl r5 (unhide HQ2) B5
      | false =>
        simp only [Bool.false_eq_true, if_false] at hq
        have HQ2 := hide hq
        clear hq
        go_wp2_with (first | (with_reducible show wpList Tryz.prog _ _ (Oper.mk _ (Op.alloc 40) _ _ _ none :: _) _ _; refine wpList_alC rfl rfl ?_; intro w3 fz qz tz; clear tz; have r3 := r2.later qz; have B3 := belT B2 qz) | (with_reducible show wpList Tryz.prog _ _ (Oper.mk _ (Op.store 40 _ _) _ _ _ none :: _) _ _; refine wpList_stC rfl _ _ rfl w2.heap.size C cl0 (by simp [Act.eval, Act.put]) (by simp [Act.eval, Act.put]) fz ?_; intro w4 f4 g4 t4; clear t4; have r4 := r3.gb g4 (Nat.ne_of_lt r2.lt); have B4 := belowG B3 g4 B2.size B3.size) | (go_at_fn F; refine (unhide HC).mono ?_; rintro e w2 ⟨rfl, b2⟩; have r2 := rz.later b2; have B2 := belT BZ b2))
        go_roundw
        case rel => exact ⟨j + 1, by omega, by go_num, r4, B4, unhide HQ2⟩
        case measure => simp [intOf]; omega
    · have hjn : j = m := by omega
      subst hjn
      have hq := unhide HQ
      rw [List.drop_of_length_le (by rw [unhide hlen]; exact Nat.le_refl _)] at hq
      have HQ2 := hide (show (cl0, false) = T from hq)
      clear hq
      go_wp2_with (with_reducible show wpList Tryz.prog _ _ (Oper.mk _ (Op.store 40 _ _) _ _ _ none :: _) _ _; refine wpList_stC rfl _ _ rfl w.heap.size cl0 cl0 (by simp [Act.eval, Act.put]) (by simp [Act.eval, Act.put, clC, cl0, ba]) rz ?_; intro w5 r5 g5 t5; have B5 := belowG BZ g5 (Nat.le_refl _) BZ.size)
      exact clb_end rfl w.heap.size (cl0, false) T rfl rfl rfl r5 (unhide HQ2) B5

theorem ent_lock : ∀ args w, (callFunc 39 args).run Tryz.prog w = .ok (.enter 39 args) w := enters_of Tryz.func39 (by kernel_rfl) rfl
theorem ent_lockTables : ∀ args w, (callFunc 40 args).run Tryz.prog w = .ok (.enter 40 args) w := enters_of Tryz.func40 (by kernel_rfl) rfl
theorem ent_unlock : ∀ args w, (callFunc 41 args).run Tryz.prog w = .ok (.enter 41 args) w := enters_of Tryz.func41 (by kernel_rfl) rfl
theorem ent_begin : ∀ args w, (callFunc 44 args).run Tryz.prog w = .ok (.enter 44 args) w := enters_of Tryz.func44 (by kernel_rfl) rfl
theorem ent_end : ∀ args w, (callFunc 45 args).run Tryz.prog w = .ok (.enter 45 args) w := enters_of Tryz.func45 (by kernel_rfl) rfl
theorem ent_setUser : ∀ args w, (callFunc 46 args).run Tryz.prog w = .ok (.enter 46 args) w := enters_of Tryz.func46 (by kernel_rfl) rfl
theorem ent_set : ∀ args w, (callFunc 47 args).run Tryz.prog w = .ok (.enter 47 args) w := enters_of Tryz.func47 (by kernel_rfl) rfl
theorem ent_setNames : ∀ args w, (callFunc 48 args).run Tryz.prog w = .ok (.enter 48 args) w := enters_of Tryz.func48 (by kernel_rfl) rfl
theorem ent_use : ∀ args w, (callFunc 49 args).run Tryz.prog w = .ok (.enter 49 args) w := enters_of Tryz.func49 (by kernel_rfl) rfl
theorem ent_makeTemp : ∀ args w, (callFunc 50 args).run Tryz.prog w = .ok (.enter 50 args) w := enters_of Tryz.func50 (by kernel_rfl) rfl
theorem ent_dropTemp : ∀ args w, (callFunc 51 args).run Tryz.prog w = .ok (.enter 51 args) w := enters_of Tryz.func51 (by kernel_rfl) rfl
theorem ent_file : ∀ args w, (callFunc 52 args).run Tryz.prog w = .ok (.enter 52 args) w := enters_of Tryz.func52 (by kernel_rfl) rfl
theorem ent_write : ∀ args w, (callFunc 53 args).run Tryz.prog w = .ok (.enter 53 args) w := enters_of Tryz.func53 (by kernel_rfl) rfl
theorem ent_read : ∀ args w, (callFunc 54 args).run Tryz.prog w = .ok (.enter 54 args) w := enters_of Tryz.func54 (by kernel_rfl) rfl

set_option maxHeartbeats 2000000 in
theorem kchain3 (ao : Option Addr) (n c : Nat) (l : List Wd) (w : World) (hW : Wds w ao n c l) (hT : ∀ x ∈ l, x.tx.size ≤ 1073741824) (R : Cl × Bool) (h : firF [lockF l, lotaF l, unloF l] = R) :
    Calls Tryz.prog 38 #[.slice ao n c, .slice (some ⟨w.heap.size, 0, none⟩) 3 3] (w.alloc (.cells #[.func (.func 39) #[] #[], .func (.func 40) #[] #[], .func (.func 41) #[] #[]] 69)) (OutC w R) := by
  have b := below_alloc w (.cells #[.func (.func 39) #[] #[], .func (.func 40) #[] #[], .func (.func 41) #[] #[]] 69)
  have r := heap_alloc_new w (.cells #[.func (.func 39) #[] #[], .func (.func 40) #[] #[], .func (.func 41) #[] #[]] 69)
  refine (fun C => ?_ : Ch ao n c (w.alloc (.cells #[.func (.func 39) #[] #[], .func (.func 40) #[] #[], .func (.func 41) #[] #[]] 69)) w.heap.size 3 [(39, #[], lockF l), (40, #[], lotaF l), (41, #[], unloF l)] → _) ⟨rfl, ?_, ?_, ?_⟩
  · have C := firstOf_any ao n c _ w.heap.size 3 3 _ C (by omega) (by omega) (by omega)
    simp only [List.map_cons, List.map_nil] at C
    rw [h] at C
    exact C.mono fun e w2 k => ⟨k.1, belT b k.2⟩
  · intro i p hp
    rw [cell_of_row _ _ i _ _ _ r]
    rcases i with _ | _ | _ | i
    · cases hp; rfl
    · cases hp; rfl
    · cases hp; rfl
    · simp at hp
  · intro i p hp
    rcases i with _ | _ | _ | i
    · cases hp; exact ent_lock
    · cases hp; exact ent_lockTables
    · cases hp; exact ent_unlock
    · simp at hp
  · intro i p hp wx hx
    have bx := belT b hx
    rcases i with _ | _ | _ | i
    · cases hp; exact lock_any ao n c l wx (hW.later bx) hT
    · cases hp; exact lockTables_any ao n c l wx (hW.later bx) hT
    · cases hp; exact unlock_any ao n c l wx (hW.later bx) hT
    · simp at hp

set_option maxHeartbeats 2000000 in
theorem chain11 (cs : Array Value) (ao : Option Addr) (n c : Nat) (l : List Wd) (w : World) (hS : Sts cs w) (hW : Wds w ao n c l) (hT : ∀ x ∈ l, x.tx.size ≤ 1073741824) (R : Cl × Bool) (h : firF [begiF l, endF l, setuF l, setF l, setnF l, useF l, mateF l, drteF l, fileF l, writF l, readF l] = R) :
    Calls Tryz.prog 38 #[.slice ao n c, .slice (some ⟨w.heap.size, 0, none⟩) 11 11] (w.alloc (.cells #[.func (.func 44) #[] #[], .func (.func 45) #[] #[], .func (.func 46) #[] #[], .func (.func 47) #[.agg cs] #[], .func (.func 48) #[] #[], .func (.func 49) #[] #[], .func (.func 50) #[] #[], .func (.func 51) #[] #[], .func (.func 52) #[] #[], .func (.func 53) #[.agg cs] #[], .func (.func 54) #[.agg cs] #[]] 69)) (OutC w R) := by
  have b := below_alloc w (.cells #[.func (.func 44) #[] #[], .func (.func 45) #[] #[], .func (.func 46) #[] #[], .func (.func 47) #[.agg cs] #[], .func (.func 48) #[] #[], .func (.func 49) #[] #[], .func (.func 50) #[] #[], .func (.func 51) #[] #[], .func (.func 52) #[] #[], .func (.func 53) #[.agg cs] #[], .func (.func 54) #[.agg cs] #[]] 69)
  have r := heap_alloc_new w (.cells #[.func (.func 44) #[] #[], .func (.func 45) #[] #[], .func (.func 46) #[] #[], .func (.func 47) #[.agg cs] #[], .func (.func 48) #[] #[], .func (.func 49) #[] #[], .func (.func 50) #[] #[], .func (.func 51) #[] #[], .func (.func 52) #[] #[], .func (.func 53) #[.agg cs] #[], .func (.func 54) #[.agg cs] #[]] 69)
  refine (fun C => ?_ : Ch ao n c (w.alloc (.cells #[.func (.func 44) #[] #[], .func (.func 45) #[] #[], .func (.func 46) #[] #[], .func (.func 47) #[.agg cs] #[], .func (.func 48) #[] #[], .func (.func 49) #[] #[], .func (.func 50) #[] #[], .func (.func 51) #[] #[], .func (.func 52) #[] #[], .func (.func 53) #[.agg cs] #[], .func (.func 54) #[.agg cs] #[]] 69)) w.heap.size 11 [(44, #[], begiF l), (45, #[], endF l), (46, #[], setuF l), (47, #[.agg cs], setF l), (48, #[], setnF l), (49, #[], useF l), (50, #[], mateF l), (51, #[], drteF l), (52, #[], fileF l), (53, #[.agg cs], writF l), (54, #[.agg cs], readF l)] → _) ⟨rfl, ?_, ?_, ?_⟩
  · have C := firstOf_any ao n c _ w.heap.size 11 11 _ C (by omega) (by omega) (by omega)
    simp only [List.map_cons, List.map_nil] at C
    rw [h] at C
    exact C.mono fun e w2 k => ⟨k.1, belT b k.2⟩
  · intro i p hp
    rw [cell_of_row _ _ i _ _ _ r]
    rcases i with _ | _ | _ | _ | _ | _ | _ | _ | _ | _ | _ | i
    · cases hp; rfl
    · cases hp; rfl
    · cases hp; rfl
    · cases hp; rfl
    · cases hp; rfl
    · cases hp; rfl
    · cases hp; rfl
    · cases hp; rfl
    · cases hp; rfl
    · cases hp; rfl
    · cases hp; rfl
    · simp at hp
  · intro i p hp
    rcases i with _ | _ | _ | _ | _ | _ | _ | _ | _ | _ | _ | i
    · cases hp; exact ent_begin
    · cases hp; exact ent_end
    · cases hp; exact ent_setUser
    · cases hp; exact ent_set
    · cases hp; exact ent_setNames
    · cases hp; exact ent_use
    · cases hp; exact ent_makeTemp
    · cases hp; exact ent_dropTemp
    · cases hp; exact ent_file
    · cases hp; exact ent_write
    · cases hp; exact ent_read
    · simp at hp
  · intro i p hp wx hx
    have bx := belT b hx
    rcases i with _ | _ | _ | _ | _ | _ | _ | _ | _ | _ | _ | i
    · cases hp; exact begin_any ao n c l wx (hW.later bx) hT
    · cases hp; exact cend_any ao n c l wx (hW.later bx) hT
    · cases hp; exact setUser_any ao n c l wx (hW.later bx) hT
    · cases hp; exact set_any cs ao n c l wx (hS.later bx) (hW.later bx) hT
    · cases hp; exact setNames_any ao n c l wx (hW.later bx) hT
    · cases hp; exact use_any ao n c l wx (hW.later bx) hT
    · cases hp; exact makeTemp_any ao n c l wx (hW.later bx) hT
    · cases hp; exact dropTemp_any ao n c l wx (hW.later bx) hT
    · cases hp; exact file_any ao n c l wx (hW.later bx) hT
    · cases hp; exact write_any cs ao n c l wx (hS.later bx) (hW.later bx) hT
    · cases hp; exact read_any cs ao n c l wx (hS.later bx) (hW.later bx) hT
    · simp at hp

end Go.Proofs.YtddfbaaghjcbnaaGreatDoor

namespace Go.Proofs.YtddfbaaghjcbnaaGreatDoor
open Go.RowKit
set_option linter.unusedVariables false
set_option linter.unusedSimpArgs false

theorem ent_hasName : ∀ args w, (callFunc 43 args).run Tryz.prog w = .ok (.enter 43 args) w := enters_of Tryz.func43 (by kernel_rfl) rfl
theorem ent_isEnd : ∀ args w, (callFunc 14 args).run Tryz.prog w = .ok (.enter 14 args) w := enters_of Tryz.func14 (by kernel_rfl) rfl
/-- What a function that answers a class leaves. -/
def OutK (w : World) (c : Cl) (e : Ending) (w' : World) : Prop := e = .returned (.agg (clC c)) ∧ Below w.heap.size w w'
theorem isOdd_st (cs : Array Value) (ao : Option Addr) (n c : Nat) (l : List Wd) (w : World) (R : Bool) (hS : Sts cs w) (hW : Wds w ao n c l) (h : oddL l = R) : Calls Tryz.prog 37 #[.agg cs, .slice ao n c] w (OutB w R) := by
  have c := isOdd_any cs ao n c l w hS hW
  rw [h] at c
  exact c
theorem locks_st (g : Nat) (ao : Option Addr) (n c : Nat) (l : List Wd) (w : World) (R : Bool) (hM : Mp g kLock w) (hW : Wds w ao n c l) (h : l.any (inS kLock) = R) : Calls Tryz.prog 42 #[.slice ao n c, .func (.func 43) #[.map (some g)] #[]] w (OutB w R) := by
  have c := containsFunc_any 43 #[.map (some g)] (inS kLock) ao n c l w hW ent_hasName (fun x wx hx => hasName_any g kLock x wx (hM.later hx))
  rw [h] at c
  exact c
theorem hasEnd_st (ao : Option Addr) (n c : Nat) (l : List Wd) (w : World) (R : Bool) (hW : Wds w ao n c l) (h : l.any isE = R) : Calls Tryz.prog 42 #[.slice ao n c, .func (.func 14) #[] #[]] w (OutB w R) := by
  have c := containsFunc_any 14 #[] isE ao n c l w hW ent_isEnd (fun x wx hx => isEnd_any x wx)
  rw [h] at c
  exact c

set_option maxHeartbeats 8000000 in
set_option maxRecDepth 20000 in
theorem class_any (cs : Array Value) (ao : Option Addr) (n c : Nat) (l : List Wd) (w : World) (hS : Sts cs w) (hW : Wds w ao n c l) (hT : ∀ x ∈ l, x.tx.size ≤ 1073741824) : Calls Tryz.prog 15 #[.agg cs, .slice ao n c] w (OutK w (clsF l)) := by
  obtain ⟨g1, g2, g3, g4, g5, rfl, m1, m2, m3, m4, m5⟩ := hS.ex
  have HW := hide hW
  have HT := hide hT
  have HS := hide hS
  have M := hide m2
  have bX := hide (below_alloc w (.cells #[.map (some g1), .map (some g2), .map (some g3), .map (some g4), .map (some g5)] 48))
  have rX := hide (heap_alloc_new w (.cells #[.map (some g1), .map (some g2), .map (some g3), .map (some g4), .map (some g5)] 48))
  have ez := hide (show (w.alloc (.cells #[.map (some g1), .map (some g2), .map (some g3), .map (some g4), .map (some g5)] 48)).heap.size = w.heap.size + 1 by simp)
  clear hS hW hT m1 m2 m3 m4 m5
  unfold clsF
  rcases h1 : oddL l with _ | _
  · simp only [Bool.false_eq_true, if_false]
    rcases h2 : firF [lockF l, lotaF l, unloF l] with ⟨C2, _ | _⟩
    · simp only [Bool.false_eq_true, if_false]
      rcases h3 : l.any (inS kLock) with _ | _
      · simp only [Bool.false_eq_true, if_false]
        rcases h4 : firF [begiF l, endF l, setuF l, setF l, setnF l, useF l, mateF l, drteF l, fileF l, writF l, readF l] with ⟨C4, _ | _⟩
        · simp only [Bool.false_eq_true, if_false]
          have H1 := hide h1
          have H2 := hide h2
          have H3 := hide h3
          have H4 := hide h4
          clear h1 h2 h3 h4
          go_enter Tryz.func15, Tryz.ntmps15
          go_wp2_with (first | (with_reducible show wpList Tryz.prog _ _ (Oper.mk _ (Op.store 40 _ _) _ _ _ none :: _) _ _; refine wpList_stC rfl _ _ rfl (w.heap.size + 1) (kl 13) cl0 (by simp [Act.eval, Act.put]) (by simp [Act.eval, Act.put, clC, kl, ba]) z8 ?_; intro w9 z9 g9 e9) | (with_reducible show wpList Tryz.prog _ _ (Oper.mk _ (Op.load 48 _) _ _ _ none :: _) _ _; refine wpList_load_row rfl _ _ rfl w.heap.size (by simp [Act.eval, Act.put]) _ _ (0, 0) _ x5 Tryz.underlying48 rfl (st_info _ _ _ _ _) ?_) | (with_reducible show wpList Tryz.prog _ _ (Oper.mk _ (Op.load 48 _) _ _ _ none :: _) _ _; refine wpList_load_row rfl _ _ rfl w.heap.size (by simp [Act.eval, Act.put]) _ _ (0, 0) _ rb Tryz.underlying48 rfl (st_info _ _ _ _ _) ?_) | (with_reducible show wpList Tryz.prog _ _ (Oper.mk _ (Op.alloc 40) _ _ _ none :: _) _ _; refine wpList_alC rfl rfl ?_; intro wd rd bd ed; clear ed; have b7 := belT b6 bd; have z7 := z6.later bd) | (with_reducible show wpList Tryz.prog _ _ (Oper.mk _ (Op.alloc 40) _ _ _ none :: _) _ _; refine wpList_alC rfl rfl ?_; intro wc rc bc ec; clear ec; have b3 := belT b2 bc; have x3 := row_later x2 bc; have z3 := z2.later bc) | (with_reducible show wpList Tryz.prog _ _ (Oper.mk _ (Op.store 40 _ _) _ _ _ none :: _) _ _; refine wpList_stC rfl _ _ rfl w6.heap.size C4 cl0 (by simp [Act.eval, Act.put]) (by simp [Act.eval, Act.put]) rd ?_; intro w8 r8 g8 e8; clear e8; have b8 := belowG b7 g8 b6.size b7.size; have z8 := z7.gb g8 (Nat.ne_of_lt z6.lt)) | (with_reducible show wpList Tryz.prog _ _ (Oper.mk _ (Op.store 40 _ _) _ _ _ none :: _) _ _; refine wpList_stC rfl _ _ rfl w2.heap.size C2 cl0 (by simp [Act.eval, Act.put]) (by simp [Act.eval, Act.put]) rc ?_; intro w4 r4 g4 e4; clear e4; have b4 := belowG b3 g4 b2.size b3.size; have x4 := row_gb x3 g4 (Nat.ne_of_lt (row_lt x2)); have z4 := z3.gb g4 (Nat.ne_of_lt z2.lt); have v4 := cell_of_row _ _ 1 _ _ _ x4) | (go_at_call 38; refine (chain11 _ ao n c l w5 ((unhide HS).later b5) ((unhide HW).later b5) (unhide HT) _ (unhide H4)).mono ?_; rintro e w6 ⟨rfl, c6⟩; have b6 := belT b5 c6; have z6 := z5.later c6) | (go_at_call 42; refine (locks_st g2 ao n c l w4 _ ((unhide M).later b4) ((unhide HW).later b4) (unhide H3)).mono ?_; rintro e w5 ⟨rfl, c5⟩; have b5 := belT b4 c5; have x5 := row_later x4 c5; have z5 := z4.later c5) | (go_at_call 38; refine (kchain3 ao n c l w1 ((unhide HW).later b1) (unhide HT) _ (unhide H2)).mono ?_; rintro e w2 ⟨rfl, c2⟩; have b2 := belT b1 c2; have x2 := row_later x1 c2; have z2 := z1.later c2) | (go_at_call 37; refine (isOdd_st _ ao n c l wz _ ((unhide HS).later bz) ((unhide HW).later bz) (unhide H1)).mono ?_; rintro e w1 ⟨rfl, c1⟩; have b1 := belT bz c1; have x1 := row_later rb c1; have z1 := rz.later c1) | (with_reducible show wpList Tryz.prog _ _ (Oper.mk _ (Op.alloc 40) _ _ _ none :: _) _ _; refine wpList_alC rfl rfl ?_; intro wz rz0 bz0 ez0; clear ez0; have bz := (unhide bX).trans (bz0.mono (by rw [unhide ez]; exact Nat.le_succ _)); have rb := row_later (unhide rX) bz0; have rz := rz0.at (unhide ez)))
          exact cl_end rfl (w.heap.size + 1) (kl 13) _ rfl rfl z9 rfl (belowG b8 g9 (Nat.le_succ _) b8.size)
        · simp only [if_true]
          have H1 := hide h1
          have H2 := hide h2
          have H3 := hide h3
          have H4 := hide h4
          clear h1 h2 h3 h4
          go_enter Tryz.func15, Tryz.ntmps15
          go_wp2_with (first | (with_reducible show wpList Tryz.prog _ _ (Oper.mk _ (Op.load 40 _) _ _ _ none :: _) _ _; refine wpList_ldC rfl _ rfl w6.heap.size C4 (by simp [Act.eval, Act.put]) r8 ?_) | (with_reducible show wpList Tryz.prog _ _ (Oper.mk _ (Op.store 40 _ _) _ _ _ none :: _) _ _; refine wpList_stC rfl _ _ rfl (w.heap.size + 1) C4 cl0 (by simp [Act.eval, Act.put]) (by simp [Act.eval, Act.put]) z8 ?_; intro w9 z9 g9 e9) | (with_reducible show wpList Tryz.prog _ _ (Oper.mk _ (Op.load 48 _) _ _ _ none :: _) _ _; refine wpList_load_row rfl _ _ rfl w.heap.size (by simp [Act.eval, Act.put]) _ _ (0, 0) _ x5 Tryz.underlying48 rfl (st_info _ _ _ _ _) ?_) | (with_reducible show wpList Tryz.prog _ _ (Oper.mk _ (Op.load 48 _) _ _ _ none :: _) _ _; refine wpList_load_row rfl _ _ rfl w.heap.size (by simp [Act.eval, Act.put]) _ _ (0, 0) _ rb Tryz.underlying48 rfl (st_info _ _ _ _ _) ?_) | (with_reducible show wpList Tryz.prog _ _ (Oper.mk _ (Op.alloc 40) _ _ _ none :: _) _ _; refine wpList_alC rfl rfl ?_; intro wd rd bd ed; clear ed; have b7 := belT b6 bd; have z7 := z6.later bd) | (with_reducible show wpList Tryz.prog _ _ (Oper.mk _ (Op.alloc 40) _ _ _ none :: _) _ _; refine wpList_alC rfl rfl ?_; intro wc rc bc ec; clear ec; have b3 := belT b2 bc; have x3 := row_later x2 bc; have z3 := z2.later bc) | (with_reducible show wpList Tryz.prog _ _ (Oper.mk _ (Op.store 40 _ _) _ _ _ none :: _) _ _; refine wpList_stC rfl _ _ rfl w6.heap.size C4 cl0 (by simp [Act.eval, Act.put]) (by simp [Act.eval, Act.put]) rd ?_; intro w8 r8 g8 e8; clear e8; have b8 := belowG b7 g8 b6.size b7.size; have z8 := z7.gb g8 (Nat.ne_of_lt z6.lt)) | (with_reducible show wpList Tryz.prog _ _ (Oper.mk _ (Op.store 40 _ _) _ _ _ none :: _) _ _; refine wpList_stC rfl _ _ rfl w2.heap.size C2 cl0 (by simp [Act.eval, Act.put]) (by simp [Act.eval, Act.put]) rc ?_; intro w4 r4 g4 e4; clear e4; have b4 := belowG b3 g4 b2.size b3.size; have x4 := row_gb x3 g4 (Nat.ne_of_lt (row_lt x2)); have z4 := z3.gb g4 (Nat.ne_of_lt z2.lt); have v4 := cell_of_row _ _ 1 _ _ _ x4) | (go_at_call 38; refine (chain11 _ ao n c l w5 ((unhide HS).later b5) ((unhide HW).later b5) (unhide HT) _ (unhide H4)).mono ?_; rintro e w6 ⟨rfl, c6⟩; have b6 := belT b5 c6; have z6 := z5.later c6) | (go_at_call 42; refine (locks_st g2 ao n c l w4 _ ((unhide M).later b4) ((unhide HW).later b4) (unhide H3)).mono ?_; rintro e w5 ⟨rfl, c5⟩; have b5 := belT b4 c5; have x5 := row_later x4 c5; have z5 := z4.later c5) | (go_at_call 38; refine (kchain3 ao n c l w1 ((unhide HW).later b1) (unhide HT) _ (unhide H2)).mono ?_; rintro e w2 ⟨rfl, c2⟩; have b2 := belT b1 c2; have x2 := row_later x1 c2; have z2 := z1.later c2) | (go_at_call 37; refine (isOdd_st _ ao n c l wz _ ((unhide HS).later bz) ((unhide HW).later bz) (unhide H1)).mono ?_; rintro e w1 ⟨rfl, c1⟩; have b1 := belT bz c1; have x1 := row_later rb c1; have z1 := rz.later c1) | (with_reducible show wpList Tryz.prog _ _ (Oper.mk _ (Op.alloc 40) _ _ _ none :: _) _ _; refine wpList_alC rfl rfl ?_; intro wz rz0 bz0 ez0; clear ez0; have bz := (unhide bX).trans (bz0.mono (by rw [unhide ez]; exact Nat.le_succ _)); have rb := row_later (unhide rX) bz0; have rz := rz0.at (unhide ez)))
          exact cl_end rfl (w.heap.size + 1) C4 _ rfl rfl z9 rfl (belowG b8 g9 (Nat.le_succ _) b8.size)
      · simp only [if_true]
        have H1 := hide h1
        have H2 := hide h2
        have H3 := hide h3
        clear h1 h2 h3
        go_enter Tryz.func15, Tryz.ntmps15
        go_wp2_with (first | (with_reducible show wpList Tryz.prog _ _ (Oper.mk _ (Op.store 40 _ _) _ _ _ none :: _) _ _; refine wpList_stC rfl _ _ rfl (w.heap.size + 1) (kl 13) cl0 (by simp [Act.eval, Act.put]) (by simp [Act.eval, Act.put, clC, kl, ba]) z5 ?_; intro w9 z9 g9 e9) | (with_reducible show wpList Tryz.prog _ _ (Oper.mk _ (Op.load 48 _) _ _ _ none :: _) _ _; refine wpList_load_row rfl _ _ rfl w.heap.size (by simp [Act.eval, Act.put]) _ _ (0, 0) _ rb Tryz.underlying48 rfl (st_info _ _ _ _ _) ?_) | (with_reducible show wpList Tryz.prog _ _ (Oper.mk _ (Op.alloc 40) _ _ _ none :: _) _ _; refine wpList_alC rfl rfl ?_; intro wc rc bc ec; clear ec; have b3 := belT b2 bc; have x3 := row_later x2 bc; have z3 := z2.later bc) | (with_reducible show wpList Tryz.prog _ _ (Oper.mk _ (Op.store 40 _ _) _ _ _ none :: _) _ _; refine wpList_stC rfl _ _ rfl w2.heap.size C2 cl0 (by simp [Act.eval, Act.put]) (by simp [Act.eval, Act.put]) rc ?_; intro w4 r4 g4 e4; clear e4; have b4 := belowG b3 g4 b2.size b3.size; have x4 := row_gb x3 g4 (Nat.ne_of_lt (row_lt x2)); have z4 := z3.gb g4 (Nat.ne_of_lt z2.lt); have v4 := cell_of_row _ _ 1 _ _ _ x4) | (go_at_call 42; refine (locks_st g2 ao n c l w4 _ ((unhide M).later b4) ((unhide HW).later b4) (unhide H3)).mono ?_; rintro e w5 ⟨rfl, c5⟩; have b5 := belT b4 c5; have x5 := row_later x4 c5; have z5 := z4.later c5) | (go_at_call 38; refine (kchain3 ao n c l w1 ((unhide HW).later b1) (unhide HT) _ (unhide H2)).mono ?_; rintro e w2 ⟨rfl, c2⟩; have b2 := belT b1 c2; have x2 := row_later x1 c2; have z2 := z1.later c2) | (go_at_call 37; refine (isOdd_st _ ao n c l wz _ ((unhide HS).later bz) ((unhide HW).later bz) (unhide H1)).mono ?_; rintro e w1 ⟨rfl, c1⟩; have b1 := belT bz c1; have x1 := row_later rb c1; have z1 := rz.later c1) | (with_reducible show wpList Tryz.prog _ _ (Oper.mk _ (Op.alloc 40) _ _ _ none :: _) _ _; refine wpList_alC rfl rfl ?_; intro wz rz0 bz0 ez0; clear ez0; have bz := (unhide bX).trans (bz0.mono (by rw [unhide ez]; exact Nat.le_succ _)); have rb := row_later (unhide rX) bz0; have rz := rz0.at (unhide ez)))
        exact cl_end rfl (w.heap.size + 1) (kl 13) _ rfl rfl z9 rfl (belowG b5 g9 (Nat.le_succ _) b5.size)
    · simp only [if_true]
      have H1 := hide h1
      have H2 := hide h2
      clear h1 h2
      go_enter Tryz.func15, Tryz.ntmps15
      go_wp2_with (first | (with_reducible show wpList Tryz.prog _ _ (Oper.mk _ (Op.load 40 _) _ _ _ none :: _) _ _; refine wpList_ldC rfl _ rfl w2.heap.size C2 (by simp [Act.eval, Act.put]) r4 ?_) | (with_reducible show wpList Tryz.prog _ _ (Oper.mk _ (Op.store 40 _ _) _ _ _ none :: _) _ _; refine wpList_stC rfl _ _ rfl (w.heap.size + 1) C2 cl0 (by simp [Act.eval, Act.put]) (by simp [Act.eval, Act.put]) z4 ?_; intro w9 z9 g9 e9) | (with_reducible show wpList Tryz.prog _ _ (Oper.mk _ (Op.load 48 _) _ _ _ none :: _) _ _; refine wpList_load_row rfl _ _ rfl w.heap.size (by simp [Act.eval, Act.put]) _ _ (0, 0) _ rb Tryz.underlying48 rfl (st_info _ _ _ _ _) ?_) | (with_reducible show wpList Tryz.prog _ _ (Oper.mk _ (Op.alloc 40) _ _ _ none :: _) _ _; refine wpList_alC rfl rfl ?_; intro wc rc bc ec; clear ec; have b3 := belT b2 bc; have x3 := row_later x2 bc; have z3 := z2.later bc) | (with_reducible show wpList Tryz.prog _ _ (Oper.mk _ (Op.store 40 _ _) _ _ _ none :: _) _ _; refine wpList_stC rfl _ _ rfl w2.heap.size C2 cl0 (by simp [Act.eval, Act.put]) (by simp [Act.eval, Act.put]) rc ?_; intro w4 r4 g4 e4; clear e4; have b4 := belowG b3 g4 b2.size b3.size; have x4 := row_gb x3 g4 (Nat.ne_of_lt (row_lt x2)); have z4 := z3.gb g4 (Nat.ne_of_lt z2.lt); have v4 := cell_of_row _ _ 1 _ _ _ x4) | (go_at_call 38; refine (kchain3 ao n c l w1 ((unhide HW).later b1) (unhide HT) _ (unhide H2)).mono ?_; rintro e w2 ⟨rfl, c2⟩; have b2 := belT b1 c2; have x2 := row_later x1 c2; have z2 := z1.later c2) | (go_at_call 37; refine (isOdd_st _ ao n c l wz _ ((unhide HS).later bz) ((unhide HW).later bz) (unhide H1)).mono ?_; rintro e w1 ⟨rfl, c1⟩; have b1 := belT bz c1; have x1 := row_later rb c1; have z1 := rz.later c1) | (with_reducible show wpList Tryz.prog _ _ (Oper.mk _ (Op.alloc 40) _ _ _ none :: _) _ _; refine wpList_alC rfl rfl ?_; intro wz rz0 bz0 ez0; clear ez0; have bz := (unhide bX).trans (bz0.mono (by rw [unhide ez]; exact Nat.le_succ _)); have rb := row_later (unhide rX) bz0; have rz := rz0.at (unhide ez)))
      exact cl_end rfl (w.heap.size + 1) C2 _ rfl rfl z9 rfl (belowG b4 g9 (Nat.le_succ _) b4.size)
  · simp only [if_true]
    have H1 := hide h1
    clear h1
    go_enter Tryz.func15, Tryz.ntmps15
    go_wp2_with (first | (with_reducible show wpList Tryz.prog _ _ (Oper.mk _ (Op.store 40 _ _) _ _ _ none :: _) _ _; refine wpList_stC rfl _ _ rfl (w.heap.size + 1) (kl 13) cl0 (by simp [Act.eval, Act.put]) (by simp [Act.eval, Act.put, clC, kl, ba]) z1 ?_; intro w9 z9 g9 e9) | (with_reducible show wpList Tryz.prog _ _ (Oper.mk _ (Op.load 48 _) _ _ _ none :: _) _ _; refine wpList_load_row rfl _ _ rfl w.heap.size (by simp [Act.eval, Act.put]) _ _ (0, 0) _ rb Tryz.underlying48 rfl (st_info _ _ _ _ _) ?_) | (go_at_call 37; refine (isOdd_st _ ao n c l wz _ ((unhide HS).later bz) ((unhide HW).later bz) (unhide H1)).mono ?_; rintro e w1 ⟨rfl, c1⟩; have b1 := belT bz c1; have x1 := row_later rb c1; have z1 := rz.later c1) | (with_reducible show wpList Tryz.prog _ _ (Oper.mk _ (Op.alloc 40) _ _ _ none :: _) _ _; refine wpList_alC rfl rfl ?_; intro wz rz0 bz0 ez0; clear ez0; have bz := (unhide bX).trans (bz0.mono (by rw [unhide ez]; exact Nat.le_succ _)); have rb := row_later (unhide rX) bz0; have rz := rz0.at (unhide ez)))
    exact cl_end rfl (w.heap.size + 1) (kl 13) _ rfl rfl z9 rfl (belowG b1 g9 (Nat.le_succ _) b1.size)

theorem class_st (cs : Array Value) (ao : Option Addr) (n c : Nat) (l : List Wd) (w : World) (C : Cl) (hS : Sts cs w) (hW : Wds w ao n c l) (hT : ∀ x ∈ l, x.tx.size ≤ 1073741824) (h : clsF l = C) : Calls Tryz.prog 15 #[.agg cs, .slice ao n c] w (OutK w C) := by
  rw [← h]
  exact class_any cs ao n c l w hS hW hT


end Go.Proofs.YtddfbaaghjcbnaaGreatDoor

namespace Go.Proofs.YtddfbaaghjcbnaaGreatDoor
open Go.RowKit
set_option linter.unusedVariables false
set_option linter.unusedSimpArgs false


theorem klc_one (p : Cl) : (clC p).all (·.oneCell') = true := by simp [clC, Value.oneCell']
theorem klc_sz (p : Cl) : (clC p).size = 3 := rfl
theorem klc_info (p : Cl) : (Tryz.prog.info? 40).map (·.size) = some (clC p).size := by
  rw [show (clC p).size = 3 from rfl]
  kernel_rfl
theorem klc_at (p : Cl) {j : Nat} (hj : j < 3) : (clC p)[j]? = some ((clC p)[j]'(by rw [klc_sz]; exact hj)) := Array.getElem?_eq_getElem _
/-- A row of them. -/
def flatKc (l : List Cl) : List Value := l.flatMap fun x => (clC x).toList
theorem flatKc_len : ∀ l : List Cl, (flatKc l).length = l.length * 3
  | [] => rfl
  | x :: l => by
    have h := flatKc_len l
    have e : flatKc (x :: l) = (clC x).toList ++ flatKc l := rfl
    rw [e, List.length_append, h, show ((clC x).toList).length = 3 from rfl, List.length_cons]
    omega
theorem flatKc_app (l : List Cl) (x : Cl) : flatKc (l ++ [x]) = flatKc l ++ (clC x).toList := by simp [flatKc]
theorem flatKc_at : ∀ (l : List Cl) (i j : Nat) (x : Cl), l[i]? = some x → j < 3 → (flatKc l)[i * 3 + j]? = (clC x)[j]?
  | [], i, j, x, h, hj => by simp at h
  | y :: l, 0, j, x, h, hj => by
    simp at h
    subst h
    simp only [flatKc, List.flatMap_cons, Nat.zero_mul, Nat.zero_add]
    rw [List.getElem?_append_left (by rw [show ((clC y).toList).length = 3 from rfl]; exact hj)]
    simp
  | y :: l, i + 1, j, x, h, hj => by
    simp at h
    have ih := flatKc_at l i j x h hj
    simp only [flatKc, List.flatMap_cons] at ih ⊢
    have hs : ((clC y).toList).length = 3 := rfl
    rw [List.getElem?_append_right (by rw [hs]; omega), hs, show (i + 1) * 3 + j - 3 = i * 3 + j by omega]
    exact ih
/-- At an address lie the cells of one. -/
def AtKc (w : World) (b o : Nat) (p : Cl) : Prop := ∀ j, j < 3 → w.cell? ⟨b, o + j, none⟩ = (clC p)[j]?
theorem AtKc.lt {w : World} {b o : Nat} {p : Cl} (h : AtKc w b o p) : b < w.heap.size := by
  have h0 := h 0 (by decide)
  rw [klc_at p (by decide)] at h0
  exact World.block_lt_of_cell? w _ h0
theorem AtKc.keep {w w' : World} {b o : Nat} {p : Cl} (h : AtKc w b o p) (hb : w'.heap[b]? = w.heap[b]?) : AtKc w' b o p := by
  intro j hj
  rw [World.cell?_of_block (w := w) (a := ⟨b, o + j, none⟩) hb]
  exact h j hj
theorem AtKc.later {w w' : World} {b o : Nat} {p : Cl} (h : AtKc w b o p) (hb : Below w.heap.size w w') : AtKc w' b o p := h.keep (hb.block b h.lt)
theorem AtKc.of_row {w : World} {q : Nat} {p : Cl} (h : w.heap[q]? = some (.cells (clC p) 40 (0, 0))) : AtKc w q 0 p := by
  intro j hj
  rw [Nat.zero_add, cell_of_row w q j _ _ _ h]
theorem infoKc : (Tryz.prog.info? 40).map (fun i => (i.zero, i.size, i.bytes)) = some (some (.agg (clC cl0)), 3, 40) := by kernel_rfl
theorem AtKc.run {w : World} {b o : Nat} {p : Cl} (h : AtKc w b o p) : (loadVar 40 ⟨b, o, none⟩).run Tryz.prog w = .ok (.agg (clC p)) w := by
  have hl : (loadCells ⟨b, o, none⟩ (clC p).toList.length).run Tryz.prog w = .ok (clC p).toList.toArray w :=
    run_loadCells_list (P := Tryz.prog) w ⟨b, o, none⟩ (clC p).toList (fun j v hv => by
      have hj : j < 3 := (List.getElem?_eq_some_iff.1 hv).1
      rw [Addr.add_lit, h j hj]
      simpa using hv)
  obtain ⟨i0, hi, hz0, hz1, hz2⟩ := info_parts infoKc
  have hagg : (isAgg 40).run Tryz.prog w = .ok true w := by
    unfold isAgg
    rw [Sem.run_bind, run_underlying Tryz.underlying40 w]
    rfl
  simp only [Array.length_toList, Array.toArray_toList, klc_sz] at hl
  simp [loadVar, Sem.run_bind, hagg, sizeOf, typeInfo, hi, hz1, hl]
/-- 'l[i]', loaded whole. -/
theorem wpList_ldKc {ops : Array Oper} {rest : List Oper} {o : Oper} {a : Act} {w : World} {Q : Exit → Act → World → Prop} (hgd : o.guard = none) (x : Operand) (ho : o.op = .load 40 x)
    (b f : Nat) (hx : a.eval x = .pointer (some ⟨b, f, none⟩)) (p : Cl) (hp : AtKc w b f p) (h : wpList Tryz.prog ops Q rest (a.put o.dst (.agg (clC p))) w) : wpList Tryz.prog ops Q (o :: rest) a w := by
  refine wpList_plain hgd fun _ hK => ?_
  unfold Oper.wp execOp
  simp only [ho, hx, Instr.loadAt, Instr.sureAddr, Sem.run_bind, Sem.run_pure, Result.andThen_ok, hp.run]
  exact hK _ _ h
/-- The slice 'ao, n, c' holds l. -/
structure Kcs (w : World) (ao : Option Addr) (n c : Nat) (l : List Cl) : Prop where
  len : l.length = n
  le : n ≤ c
  max : c ≤ 9223372036854775807
  nil : ao = none → c = 0
  at' : n = 0 ∨ ∃ b off, ao = some ⟨b, off, none⟩ ∧ ∀ i p, l[i]? = some p → AtKc w b (off + i * 3) p
theorem Kcs.nought (w : World) : Kcs w .none 0 0 [] := ⟨rfl, Nat.le_refl _, by omega, fun _ => rfl, .inl rfl⟩
theorem Kcs.later {w w' : World} {ao : Option Addr} {n c : Nat} {l : List Cl} (h : Kcs w ao n c l) (hb : Below w.heap.size w w') : Kcs w' ao n c l := by
  refine ⟨h.len, h.le, h.max, h.nil, ?_⟩
  rcases h.at' with h0 | ⟨b, off, e, hc⟩
  · exact .inl h0
  · exact .inr ⟨b, off, e, fun i p hi => (hc i p hi).later hb⟩
theorem Kcs.keepB {w w' : World} {ao : Option Addr} {n c : Nat} {l : List Cl} (h : Kcs w ao n c l) (hk : ∀ k, ob ao k → k < w.heap.size → w'.heap[k]? = w.heap[k]?) : Kcs w' ao n c l := by
  refine ⟨h.len, h.le, h.max, h.nil, ?_⟩
  rcases h.at' with h0 | ⟨b, off, e, hc⟩
  · exact .inl h0
  · exact .inr ⟨b, off, e, fun i p hi => (hc i p hi).keep (hk b ⟨_, e, rfl⟩ (hc i p hi).lt)⟩
theorem Kcs.lit (w : World) (l : List Cl) (hl : l.length ≤ 100000) : Kcs (w.alloc (.cells (flatKc l).toArray 40)) (some ⟨w.heap.size, 0, none⟩) l.length l.length l := by
  refine ⟨rfl, Nat.le_refl _, by omega, (fun e => by cases e), .inr ⟨w.heap.size, 0, rfl, fun i p hi => ?_⟩⟩
  intro j hj
  rw [cell_of_row _ _ _ _ _ _ (heap_alloc_new w _), Nat.zero_add]
  simpa using flatKc_at l i j p hi hj
theorem elemKc : Tryz.prog.underlying 29 = some (.slice (Tryz.prog.elem 29)) := by kernel_rfl
/-- 'l[i]' for the walk: its address, and what lies there. -/
theorem Kcs.idx {w : World} {ao : Option Addr} {n c : Nat} {l : List Cl} (h : Kcs w ao n c l) {i : Nat} {p : Cl} (hi : l[i]? = some p) (I : Int) (hI : I = i) :
    ∃ b o, (∀ wx, (Instr.indexAt 29 (.slice ao n c) (.int .i64 I)).run Tryz.prog wx = .ok (.pointer (some ⟨b, o, none⟩)) wx) ∧ AtKc w b o p := by
  subst hI
  have hl : i < n := by rw [← h.len]; exact (List.getElem?_eq_some_iff.1 hi).1
  rcases h.at' with h0 | ⟨b, off, rfl, hc⟩
  · omega
  · refine ⟨b, off + i * 3, fun wx => ?_, hc i p hi⟩
    have hs : ∀ w : World, (sizeOf (Tryz.prog.elem 29)).run Tryz.prog w = .ok 3 w := by intro w; kernel_rfl
    rw [run_indexAt_slice wx 29 _ n c .i64 (i : Int) elemKc]
    simp [hs, hl, Addr.add_lit, Result.andThen]
/-- l in a row of the call's own, from block B on. -/
structure KcMine (B : Nat) (w : World) (ao : Option Addr) (n c : Nat) (l : List Cl) : Prop where
  len : l.length = n
  own : w.ownsRow B 40 3 (.slice ao n c) n (flatKc l)
theorem KcMine.nought (B : Nat) (w : World) : KcMine B w .none 0 0 [] := ⟨rfl, World.ownsRow_nil _ _ _ _⟩
theorem KcMine.ob {B : Nat} {w : World} {ao : Option Addr} {n c : Nat} {l : List Cl} (h : KcMine B w ao n c l) {k : Nat} (hk : ob ao k) : B ≤ k ∧ k < w.heap.size := by
  obtain ⟨a, rfl, rfl⟩ := hk
  rcases h.own.2 with ⟨hv, _⟩ | ⟨g, cap, cur, hv, hg, hh, _⟩
  · simp at hv
  · simp only [Value.slice.injEq, Option.some.injEq] at hv
    obtain ⟨rfl, _⟩ := hv
    exact ⟨hg, (Array.getElem?_eq_some_iff.1 hh).1⟩
theorem KcMine.keep {B : Nat} {w w' : World} {ao : Option Addr} {n c : Nat} {l : List Cl} (h : KcMine B w ao n c l) (hk : ∀ k, Proofs.YtddfbaaghjcbnaaGreatDoor.ob ao k → w'.heap[k]? = w.heap[k]?) : KcMine B w' ao n c l := by
  refine ⟨h.len, ⟨h.own.1, ?_⟩⟩
  rcases h.own.2 with hv | ⟨g, cap, cur, hv, hg, hh, r⟩
  · exact .inl hv
  · simp only [Value.slice.injEq] at hv
    obtain ⟨rfl, _, rfl⟩ := hv
    exact .inr ⟨g, _, cur, rfl, hg, by rw [hk g ⟨_, rfl, rfl⟩]; exact hh, r⟩
theorem KcMine.mono {B B' : Nat} {w : World} {ao : Option Addr} {n c : Nat} {l : List Cl} (h : KcMine B w ao n c l) (hB : B' ≤ B) : KcMine B' w ao n c l := by
  refine ⟨h.len, ⟨h.own.1, ?_⟩⟩
  rcases h.own.2 with hv | ⟨g, cap, cur, hv, hg, r⟩
  · exact .inl hv
  · exact .inr ⟨g, cap, cur, hv, by omega, r⟩
theorem KcMine.later {B : Nat} {w w' : World} {ao : Option Addr} {n c : Nat} {l : List Cl} (h : KcMine B w ao n c l) (hb : Below w.heap.size w w') : KcMine B w' ao n c l :=
  h.keep fun k hk => hb.block k (h.ob hk).2
theorem KcMine.gb {B g : Nat} {w w' : World} {ao : Option Addr} {n c : Nat} {l : List Cl} (h : KcMine B w ao n c l) (hg : g < B) (hb : Gb g w w') : KcMine B w' ao n c l :=
  h.keep fun k hk => hb.block k (h.ob hk).2 (by have := (h.ob hk).1; omega)
theorem KcMine.ss {B : Nat} {w : World} {ao : Option Addr} {n c : Nat} {l : List Cl} (h : KcMine B w ao n c l) : Kcs w ao n c l := by
  have hl := h.len
  rcases h.own.2 with ⟨hv, h0⟩ | ⟨g, cap, cur, hv, hg, hh, hle, hmax, hsz, htake⟩
  · simp only [Value.slice.injEq] at hv
    obtain ⟨rfl, rfl, rfl⟩ := hv
    exact ⟨h.len, Nat.le_refl _, by omega, fun _ => rfl, .inl rfl⟩
  · simp only [Value.slice.injEq] at hv
    obtain ⟨rfl, _, rfl⟩ := hv
    refine ⟨h.len, hle, by unfold maxLen at hmax; omega, (fun hq => by cases hq), .inr ⟨g, 0, rfl, fun i p hi => ?_⟩⟩
    intro j hj
    have h1 := flatKc_at l i j p hi hj
    rw [klc_at p hj] at h1 ⊢
    have := h.own.cells (g := g) rfl (i * 3 + j) _ h1
    rw [Addr.add_lit] at this
    rw [← this, Nat.zero_add, Nat.zero_add]
/-- 'append(l, p)', l of the call's own. -/
theorem wpList_appKc {ops : Array Oper} {rest : List Oper} {o : Oper} {a : Act} {w : World} {Q : Exit → Act → World → Prop} (hgd : o.guard = none) (s x : Operand)
    (ho : o.op = .call { callee := .builtin .append, args := #[s, x], argTypes := #[29, 29] })
    (B : Nat) (ao : Option Addr) (n c : Nat) (l : List Cl) (hs : a.eval s = .slice ao n c) (hm : KcMine B w ao n c l)
    (q : Nat) (y : Cl) (hx : a.eval x = .slice (some ⟨q, 0, none⟩) 1 1) (hb : AtKc w q 0 y) (hbound : n ≤ 100000000) (hB : B ≤ w.heap.size)
    (h : ∀ ao1 c1 w1, KcMine B w1 ao1 (n + 1) c1 (l ++ [y]) → Below B w w1 → wpList Tryz.prog ops Q rest (a.put o.dst (.slice ao1 (n + 1) c1)) w1) :
    wpList Tryz.prog ops Q (o :: rest) a w := by
  obtain ⟨i0, hi, hz0, hz1, hz2⟩ := info_parts infoKc
  have hlen := hm.len
  have hnews : ∀ j u, (clC y).toList[j]? = some u → w.cell? ((⟨q, 0, none⟩ : Addr).add j) = some u := by
    intro j u hu
    have hj : j < 3 := (List.getElem?_eq_some_iff.1 hu).1
    have := hb j hj
    rw [Addr.add_lit, this]
    simpa using hu
  have hone : ∀ u ∈ (clC y).toList, u.oneCell' = true := fun u hu => (Array.all_eq_true_iff_forall_mem.1 (klc_one y)) u (by simpa using hu)
  refine wpList_append_own_at w hgd s x 29 ho B 40 i0 (.agg (clC cl0)) 3 40 Tryz.underlying29 hi hz0 hz1 hz2 rfl (by decide) _ _ _ hs hm.own ⟨q, 0, none⟩ 1 1 (clC y).toList hx rfl hnews hone (by unfold maxLen; omega) (by omega) hB ?_
  intro v' w' hown hgrow _ hsrc
  rw [← flatKc_app] at hown
  have hex : ∃ ao1 c1, v' = .slice ao1 (n + 1) c1 := by
    rcases hown.2 with ⟨hv, h0⟩ | ⟨g, cap, cur, hv, _⟩
    · omega
    · exact ⟨_, _, hv⟩
  obtain ⟨ao1, c1, hv⟩ := hex
  subst hv
  exact h ao1 c1 w' ⟨by simp [hlen], hown⟩ ((Below.refl B w).grown hgrow hB (fun k hk => (hm.own.lt k hk).1))

/-- The same at a step of a region that draws its order. -/
theorem step_appKc {ops : Array Oper} {o : Oper} {a : Act} {w : World} {K : Act → World → Prop} {Q : Exit → Act → World → Prop} {G : Prop} (hgd : o.guard = none) (s x : Operand)
    (ho : o.op = .call { callee := .builtin .append, args := #[s, x], argTypes := #[29, 29] })
    (B : Nat) (ao : Option Addr) (n c : Nat) (l : List Cl) (hs : a.eval s = .slice ao n c) (hm : KcMine B w ao n c l)
    (q : Nat) (y : Cl) (hx : a.eval x = .slice (some ⟨q, 0, none⟩) 1 1) (hb : AtKc w q 0 y) (hbound : n ≤ 100000000) (hB : B ≤ w.heap.size)
    (h : ∀ ao1 c1 w1, KcMine B w1 ao1 (n + 1) c1 (l ++ [y]) → Below B w w1 → K (a.put o.dst (.slice ao1 (n + 1) c1)) w1) :
    if Region.wanted o (yielded ops a.tmps) = true then Oper.wp Tryz.prog o a w K Q else G := by
  have hw : Region.wanted o (yielded ops a.tmps) = true := by simp [Region.wanted, hgd]
  rw [if_pos hw]
  obtain ⟨i0, hi, hz0, hz1, hz2⟩ := info_parts infoKc
  have hlen := hm.len
  have hnews : ∀ j u, (clC y).toList[j]? = some u → w.cell? ((⟨q, 0, none⟩ : Addr).add j) = some u := by
    intro j u hu
    have hj : j < 3 := (List.getElem?_eq_some_iff.1 hu).1
    have := hb j hj
    rw [Addr.add_lit, this]
    simpa using hu
  have hone : ∀ u ∈ (clC y).toList, u.oneCell' = true := fun u hu => (Array.all_eq_true_iff_forall_mem.1 (klc_one y)) u (by simpa using hu)
  obtain ⟨v', w', hr, hown, hgrow, _, hsrc⟩ := run_append_own_at (P := Tryz.prog) w B 29 o.type 40 i0 (.agg (clC cl0)) 3 40 Tryz.underlying29 hi hz0 hz1 hz2 rfl (by decide) _ _ _ hm.own ⟨q, 0, none⟩ 1 1 (clC y).toList rfl hnews hone (by unfold maxLen; omega) (by omega) hB
  rw [← flatKc_app] at hown
  have hbel : Below B w w' := (Below.refl B w).grown hgrow hB (fun k hk => (hm.own.lt k hk).1)
  have hex : ∃ ao1 c1, v' = .slice ao1 (n + 1) c1 := by
    rcases hown.2 with ⟨hv, h0⟩ | ⟨g, cap, cur, hv, _⟩
    · omega
    · exact ⟨_, _, hv⟩
  obtain ⟨ao1, c1, hv⟩ := hex
  subst hv
  unfold Oper.wp execOp
  simp only [ho, resolve, invoke, builtin, Sem.run_bind, Sem.run_pure, Result.andThen_ok, List.map_toArray, List.map_cons, List.map_nil, hs, hx, hr]
  exact h ao1 c1 w' ⟨by simp [hlen], hown⟩ hbel
/-- A call at a step of a region that draws its order. -/
theorem step_call2 {P : Program} {ops : Array Oper} {o : Oper} {a : Act} {w : World} {K : Act → World → Prop} {Q : Exit → Act → World → Prop} {G : Prop} (hgd : o.guard = none) (f : FuncId) (x y : Operand) (t u : TypeId)
    (ho : o.op = .call { callee := .value (.func f), args := #[x, y], argTypes := #[t, u] }) (eg : ∀ args w, (callFunc f args).run P w = .ok (.enter f args) w)
    (vx vy : Value) (hx : a.eval x = vx) (hy : a.eval y = vy) {R : Ending → World → Prop} (hc : Calls P f #[vx, vy] w R)
    (h : ∀ e w', R e w' → ∃ v, e = .returned v ∧ K (a.put o.dst v) w') :
    if Region.wanted o (yielded ops a.tmps) = true then Oper.wp P o a w K Q else G := by
  have hw : Region.wanted o (yielded ops a.tmps) = true := by simp [Region.wanted, hgd]
  rw [if_pos hw]
  have he : a.eval (.func f) = .func (.func f) #[] #[] := rfl
  unfold Oper.wp
  simp [execOp, ho, resolve, invoke, he, eg, go_sem]
  simp [go_sem] at hx hy
  rw [hx, hy]
  refine hc.mono ?_
  intro e w' hr
  obtain ⟨v, rfl, hk⟩ := h e w' hr
  simpa [go_sem] using hk

end Go.Proofs.YtddfbaaghjcbnaaGreatDoor

namespace Go.Proofs.YtddfbaaghjcbnaaGreatDoor
open Go.RowKit
set_option linter.unusedVariables false
set_option linter.unusedSimpArgs false

theorem eq_ft (f : Ft) (w : World) : (binOp .eql 26 (.agg (ftC f)) (.agg #[.int .i64 0, .int .i64 0])).run Tryz.prog w = .ok (.bool (decide (f = ok0))) w := by
  obtain ⟨e, a⟩ := f
  unfold ftC ok0
  rw [run_eql_struct, run_equalIn_agg w 9999 _ _ _ (by kernel_rfl) (by kernel_rfl)]
  simp only [Ft.mk.injEq]
  by_cases h1 : e = 0
  · by_cases h2 : a = 0
    · simp [go_sem, Tryz.underlying26, h1, h2]
    · simp [go_sem, Tryz.underlying26, h1, h2]
  · simp [go_sem, Tryz.underlying26, h1]
theorem ne_ft (f : Ft) (w : World) : (binOp .neq 26 (.agg (ftC f)) (.agg #[.int .i64 0, .int .i64 0])).run Tryz.prog w = .ok (.bool (!decide (f = ok0))) w := by
  have h := eq_ft f w
  rw [run_eql_struct] at h
  rw [run_neq_struct]
  generalize (Op.equalIn 10000 26 (.agg (ftC f)) (.agg #[.int .i64 0, .int .i64 0])).run Tryz.prog w = X at h ⊢
  cases X <;> simp_all [Result.andThen]
theorem wpList_ldT {ops : Array Oper} {rest : List Oper} {o : Oper} {a : Act} {w : World} {Q : Exit → Act → World → Prop} (hgd : o.guard = none) (x : Operand) (ho : o.op = .load 26 x)
    (g : Nat) (f : Ft) (hx : a.eval x = .pointer (some ⟨g, 0, none⟩)) (hg : Tb g f w)
    (h : wpList Tryz.prog ops Q rest (a.put o.dst (.agg (ftC f))) w) : wpList Tryz.prog ops Q (o :: rest) a w :=
  wpList_load_row hgd _ x ho g hx _ (ftC f) (0, 0) _ hg Tryz.underlying26 rfl (ftc_info f) h

end Go.Proofs.YtddfbaaghjcbnaaGreatDoor

namespace Go.Proofs.YtddfbaaghjcbnaaGreatDoor
open Go.RowKit
set_option linter.unusedVariables false
set_option linter.unusedSimpArgs false

theorem ixF_spec (p : Wd → Bool) : ∀ (l : List Wd) (i : Nat), (ixF p l i = -1 ∧ ∀ x ∈ l, p x = false) ∨ ∃ a x b, l = a ++ x :: b ∧ ixF p l i = ((i + a.length : Nat) : Int) ∧ p x = true ∧ ∀ y ∈ a, p y = false
  | [], i => .inl ⟨rfl, fun x hx => (by cases hx)⟩
  | x :: l, i => by
    by_cases h : p x = true
    · exact .inr ⟨[], x, l, rfl, by simp [ixF, h], h, fun y hy => (by cases hy)⟩
    · have h' : p x = false := by simpa using h
      rcases ixF_spec p l (i + 1) with ⟨h1, h2⟩ | ⟨a, y, b, h1, h2, h3, h4⟩
      · refine .inl ⟨by simp only [ixF, if_neg h]; exact h1, fun z hz => ?_⟩
        rcases List.mem_cons.1 hz with rfl | hz
        · exact h'
        · exact h2 z hz
      · refine .inr ⟨x :: a, y, b, by rw [h1]; rfl, ?_, h3, fun z hz => ?_⟩
        · simp only [ixF, if_neg h]
          rw [h2]
          simp only [List.length_cons]
          congr 1
          omega
        · rcases List.mem_cons.1 hz with rfl | hz
          · exact h'
          · exact h4 z hz
theorem en_class : ∀ args w, (callFunc 15 args).run Tryz.prog w = .ok (.enter 15 args) w := enters_of Tryz.func15 (by kernel_rfl) rfl
/-- What Of leaves. -/
def OutF (w : World) (R : List Cl × Ft) (e : Ending) (w' : World) : Prop := ∃ ao n c, e = .returned (.tuple #[.slice ao n c, .agg (ftC R.2)]) ∧ KcMine w.heap.size w' ao n c R.1 ∧ Below w.heap.size w w'
theorem of_end {w0 w : World} {a : Act} (R : List Cl × Ft) (ao : Option Addr) (n c g : Nat) (hp : a.tmps.getD 3 undef = .pointer (some ⟨g, 0, none⟩)) (h2 : a.tmps.getD 2 undef = .slice ao n c) (hd : a.defers = []) (hT : Tb g R.2 w) (hM : KcMine w0.heap.size w ao n c R.1) (hb : Below w0.heap.size w0 w) :
    bodyPost Tryz.prog Tryz.f6 (fun e w' => OutF w0 R e w') .ret a w :=
  bodyPost_ret (results_tmp_cell rfl _ _ g _ hp hT.run) hd ⟨ao, n, c, by rw [h2], hM, hb⟩
theorem index_st (ao : Option Addr) (n c : Nat) (l : List Wd) (w : World) (I : Int) (hW : Wds w ao n c l) (h : ixF isE l 0 = I) : Calls Tryz.prog 13 #[.slice ao n c, .func (.func 14) #[] #[]] w fun e w' => e = .returned (.int .i64 I) ∧ Below w.heap.size w w' := by
  have c := indexFunc_any 14 #[] isE ao n c l w hW ent_isEnd (fun x wx hx => isEnd_any x wx)
  rw [h] at c
  exact c
theorem sts_info {cs : Array Value} {w : World} (h : Sts cs w) : (Tryz.prog.info? 48).map (·.size) = some cs.size := by
  obtain ⟨g1, g2, g3, g4, g5, rfl, _⟩ := h.ex
  exact st_info _ _ _ _ _
theorem sts_size {cs : Array Value} {w : World} (h : Sts cs w) : Zst.size = cs.size := by
  obtain ⟨g1, g2, g3, g4, g5, rfl, _⟩ := h.ex
  rfl
theorem sts_one {cs : Array Value} {w : World} (h : Sts cs w) : cs.all (·.oneCell') = true := by
  obtain ⟨g1, g2, g3, g4, g5, rfl, _⟩ := h.ex
  exact st_one _ _ _ _ _
theorem sts_new {cs : Array Value} {wn wc wd : World} (h : Sts cs wn) (qc : Below wn.heap.size wn wc) (gd : Gb wn.heap.size wc wd) : Sts cs wd := by
  obtain ⟨g1, g2, g3, g4, g5, rfl, m1, m2, m3, m4, m5⟩ := h.ex
  exact ⟨_, _, _, _, _, rfl, (m1.later qc).gb gd (Nat.ne_of_lt m1.lt), (m2.later qc).gb gd (Nat.ne_of_lt m2.lt), (m3.later qc).gb gd (Nat.ne_of_lt m3.lt), (m4.later qc).gb gd (Nat.ne_of_lt m4.lt), (m5.later qc).gb gd (Nat.ne_of_lt m5.lt)⟩
def lenOf : Value → Nat
  | .slice _ n _ => n
  | _ => 0
theorem KcMine.as {B B' : Nat} {w : World} {ao : Option Addr} {n c : Nat} {l l' : List Cl} (h : KcMine B w ao n c l) (hB : B' ≤ B) (e : l = l') : KcMine B' w ao n c l' := by
  subst e
  exact h.mono hB

theorem atkc_new (w : World) (k : Int) (n v : ByteArray) : AtKc (w.alloc (.cells #[.int .i64 k, .string n, .string v] 40)) w.heap.size 0 ⟨k, n, v⟩ := AtKc.of_row (heap_alloc_new w _)
/-- The class of the first words of a slice, its cells written out. -/
theorem class_cut (cs : Array Value) (ao : Option Addr) (n c : Nat) (l : List Wd) (w : World) (hi : Nat) (k : Int) (nm va : ByteArray) (hS : Sts cs w) (hW : Wds w ao n c l) (hT : ∀ x ∈ l, x.tx.size ≤ 1073741824) (hh : hi ≤ n) (h : clsF (l.take hi) = ⟨k, nm, va⟩) :
    Calls Tryz.prog 15 #[.agg cs, .slice (cutW ao c 0) (hi - 0) (c - 0)] w fun e w' => e = .returned (.agg #[.int .i64 k, .string nm, .string va]) ∧ Below w.heap.size w w' := by
  have hc := hW.cut (lo := 0) (hi := hi) (Nat.zero_le _) hh
  exact class_st cs _ _ _ _ w ⟨k, nm, va⟩ hS hc (fun x hx => hT x (by rw [List.drop_zero] at hx; exact List.mem_of_mem_take hx)) (by rw [List.drop_zero, Nat.sub_zero]; exact h)
theorem Sts.drew {cs : Array Value} {w : World} (h : Sts cs w) : Sts cs w.drew := h.later (below_drew w)
theorem Wds.drew {w : World} {ao : Option Addr} {n c : Nat} {l : List Wd} (h : Wds w ao n c l) : Wds w.drew ao n c l := h.later (below_drew w)

set_option maxHeartbeats 8000000 in
set_option maxRecDepth 20000 in
theorem of_any (s : ByteArray) (w : World) (hV : Vr w) : Calls Tryz.prog 6 #[.string s] w (OutF w (ofF (bl s))) := by
  have C0 := hide (all_any s w)
  have HV := hide hV
  have hlen := alW_len (bl s)
  have HTX := hide (alW_tx (bl s))
  unfold ofF
  obtain ⟨⟨ws, f⟩, hW⟩ : ∃ R, R = alW (bl s) := ⟨_, rfl⟩
  rw [← hW] at C0 hlen HTX ⊢
  simp only at hlen ⊢
  have CA := hide (show ∀ wx, Vr wx → Calls Tryz.prog 5 #[.string s] wx (OutL wx (ws, f)) from fun wx h => by rw [hW]; exact all_any s wx h)
  clear hV C0 hW
  have hne := ne_ft f
  by_cases hf : f = ok0
  · subst hf
    rw [if_pos (show ok0 = (⟨0, 0⟩ : Ft) from rfl)]
    simp only [decide_true, Bool.not_true] at hne
    obtain ⟨T, hT⟩ : ∃ T, T = ofW ws := ⟨_, rfl⟩
    rw [← hT]
    have HT := hide hT
    have HN := hide newSets_any
    clear hT
    go_enter Tryz.func6, Tryz.ntmps6
    go_wp2_with (first | (with_reducible show wpList Tryz.prog _ _ (Oper.mk _ (Op.alloc 26) _ _ _ none :: _) _ _; refine wpList_alT rfl rfl ?_; intro wf rf qf tf; clear tf; have yf := rz1.later qf; have bf := belT b1 qf; have mf := ma.later qf) | (with_reducible show wpList Tryz.prog _ _ (Oper.mk _ (Op.alloc 26) _ _ _ none :: _) _ _; refine wpList_alT rfl rfl ?_; intro wz rz bz tz; clear tz) | (go_at_call 5; refine (unhide CA wz ((unhide HV).later bz)).mono ?_; rintro e wa ⟨ao, n, c, rfl, ma, ca⟩; have b1 := belT bz ca; have rz1 := rz.later ca) | (with_reducible show wpList Tryz.prog _ _ (Oper.mk _ (Op.store 26 _ _) _ _ _ none :: _) _ _; refine wpList_stT rfl _ _ rfl wa.heap.size ok0 ⟨0, 0⟩ (by simp [Act.eval, Act.put]) (by simp [Act.eval, Act.put]) rf ?_; intro wg rg gg tg; clear tg; have yg := yf.gb gg (Nat.ne_of_lt rz1.lt); have bg := belowG bf gg b1.size bf.size; have mg := mf.keep (fun k hk => gg.block k (mf.ob hk).2 (Nat.ne_of_lt (ma.ob hk).2))) | (with_reducible show wpList Tryz.prog _ _ (Oper.mk _ (Op.load 26 _) _ _ _ none :: _) _ _; refine wpList_ldT rfl _ rfl wa.heap.size ok0 (by simp [Act.eval, Act.put]) rg ?_) | (go_at_call 12; refine (unhide HN wg).mono ?_; rintro e wn ⟨cs, rfl, sn, cn⟩; have yn := yg.later cn; have bn := belT bg cn; have mn := mg.later cn) | (with_reducible show wpList Tryz.prog _ _ (Oper.mk _ (Op.alloc 48) _ _ _ none :: _) _ _; refine wpList_alK rfl _ rfl Zst zeroSt ?_; intro wc rc qc tc; clear tc; have yc := yn.later qc; have bc := belT bn qc; have mc := mn.later qc) | (with_reducible show wpList Tryz.prog _ _ (Oper.mk _ (Op.store 48 _ _) _ _ _ none :: _) _ _; refine wpList_stK rfl _ _ _ rfl wn.heap.size cs Zst (by simp [Act.eval, Act.put]) (by simp [Act.eval, Act.put]) rc (sts_info sn) (sts_size sn) (sts_one sn) ?_; intro wd rd gd td; clear td; have yd := yc.gb gd (Nat.ne_of_lt yn.lt); have bd := belowG bc gd bn.size bc.size; have md := mc.keep (fun k hk => gd.block k (mc.ob hk).2 (Nat.ne_of_lt (mn.ob hk).2)); have sd := sts_new sn qc gd))
    obtain ⟨g1, g2, g3, g4, g5, hcs, _⟩ := sn.ex
    subst hcs
    have hgd := (Array.getElem?_eq_some_iff.1 rd).1
    have W0 := md.ss
    have L0 : n = 0 ∨ ∀ k, ob ao k → k < wd.heap.size := .inr fun k hk => (md.ob hk).2
    have hB0 : w.heap.size ≤ wd.heap.size := bd.size
    have hW1 : w.heap.size < wd.heap.size := yd.lt
    have hM0 : KcMine wd.heap.size wd .none 0 0 [] := KcMine.nought _ _
    have hln0 := W0.len
    generalize wn.heap.size = G at *
    have HTX2 := hide (fun x (hx : x ∈ ws) => Nat.le_trans (unhide HTX x hx) (show 1048576 ≤ 1073741824 by omega))
    have BD := hide bd
    have SD := hide sd
    clear sn sd rc rf rg yf yg yn yc mf mg mn mc ma md bf bg bn bc b1 bz qf qc gg gd ca cn rz rz1 hne CA HN HTX bd
    go_loopw [4, 7] (fun sv lv wr => ∃ (bo : Option Addr) (m d : Nat) (l : List Wd) (co : Option Addr) (k e : Nat) (acc : List Cl), sv = .slice bo m d ∧ lv = .slice co k e ∧ Wds wr bo m d l ∧ (m = 0 ∨ ∀ q, ob bo q → q < wd.heap.size) ∧ (∀ x ∈ l, x.tx.size ≤ 1073741824) ∧ KcMine wd.heap.size wr co k e acc ∧ Tb w.heap.size ⟨0, 0⟩ wr ∧ wr.heap[G]? = some (.cells #[.map (some g1), .map (some g2), .map (some g3), .map (some g4), .map (some g5)] 48 (0, 0)) ∧ Below wd.heap.size wd wr ∧ k + m ≤ n ∧ acc ++ ofW l = T) (fun sv _ _ => lenOf sv)
    case atStart => exact ⟨ao, n, c, ws, .none, 0, 0, [], rfl, rfl, W0, L0, unhide HTX2, hM0, yd, rd, Below.refl _ _, by omega, by rw [List.nil_append]; exact (unhide HT).symm⟩
    case round =>
      clear W0 L0 hM0 yd rd HT HTX2
      obtain ⟨bo, m, d, l, co, k, e, acc, rfl, rfl, hW, hL, hX, hM, hY, hR, hbw, hkm, hq⟩ := hrel
      have hml := hW.len
      have hmd := hW.le
      have hmx := hW.max
      have HW := hide hW
      have HL := hide hL
      have HX := hide hX
      have HM := hide hM
      have HY := hide hY
      have HR := hide hR
      have HBW := hide hbw
      have HQ := hide hq
      clear hW hL hX hM hY hR hbw hq
      by_cases hm0 : m = 0
      · subst hm0
        have hq := unhide HQ
        have hl0 : l = [] := List.eq_nil_of_length_eq_zero hml
        rw [hl0, ofW_nil, List.append_nil] at hq
        have HQ2 := hide hq
        have hY := unhide HY
        clear hq hl0 hml HQ HW HL HX
        go_wp2_with (with_reducible show wpList Tryz.prog _ _ (Oper.mk _ (Op.store 26 _ _) _ _ _ none :: _) _ _; refine wpList_stT rfl _ _ rfl w.heap.size ⟨0, 0⟩ ⟨0, 0⟩ (by simp [Act.eval, Act.put]) (by simp [Act.eval, Act.put, ftC]) hY ?_; intro w9 r9 g9 t9)
        exact of_end (T, ok0) co k e w.heap.size rfl rfl rfl r9 (((unhide HM).keep (fun q hq2 => g9.block q ((unhide HM).ob hq2).2 (by have := ((unhide HM).ob hq2).1; omega))).as hB0 (unhide HQ2)) (belowG ((unhide BD).trans ((unhide HBW).mono hB0)) g9 (Nat.le_refl _) (Nat.le_trans hB0 (unhide HBW).size))
      · have hm1 : (0 : Int) < (m : Int) := by omega
        rcases ixF_spec isE l 0 with ⟨hi, hno⟩ | ⟨a, x, b, hl, hi, hx, hno⟩
        · have hq := unhide HQ
          rw [ofW_none l (by intro e; rw [e] at hml; simp at hml; omega) hno] at hq
          have HQ2 := hide hq
          have HI := hide hi
          clear hq hi hno HQ
          obtain ⟨⟨Ck, Cn, Cv⟩, hC⟩ : ∃ C, clsF l = C := ⟨_, rfl⟩
          rw [hC] at HQ2
          have hcut := fun wx => run_cutW_h bo m d m hmd (m : Int) rfl wx
          have CC := hide (fun wx (h1 : Sts #[.map (some g1), .map (some g2), .map (some g3), .map (some g4), .map (some g5)] wx) (h2 : Wds wx bo m d l) => class_cut #[.map (some g1), .map (some g2), .map (some g3), .map (some g4), .map (some g5)] bo m d l wx m Ck Cn Cv h1 h2 (unhide HX) (Nat.le_refl m) (by rw [List.take_of_length_le (by rw [hml]; exact Nat.le_refl _)]; exact hC))
          clear hC
          go_wp2_with (go_at_call 13; refine (index_st bo m d l wr _ (unhide HW) (unhide HI)).mono ?_; rintro e w1 ⟨rfl, q1⟩)
          have hBW1 := (unhide HBW).trans (q1.mono (unhide HBW).size)
          have S1 := ((unhide SD).later hBW1).drew
          have W1 := ((unhide HW).later q1).drew
          have M1 := (unhide HM).later q1
          have R1 := row_later (unhide HR) q1
          have x0 := cell_of_row _ _ 0 _ _ _ R1
          have x1 := cell_of_row _ _ 1 _ _ _ R1
          have x2 := cell_of_row _ _ 2 _ _ _ R1
          have x3 := cell_of_row _ _ 3 _ _ _ R1
          have x4 := cell_of_row _ _ 4 _ _ _ R1
          go_region_law (first | (refine step_call2 rfl 15 _ _ _ _ rfl en_class (.agg #[.map (some g1), .map (some g2), .map (some g3), .map (some g4), .map (some g5)]) (.slice (cutW bo d 0) (m - 0) (d - 0)) (by simp [Act.eval, Act.put]) (by simp [Act.eval, Act.put]) (unhide CC w1.drew S1 W1) ?_; rintro e w2 ⟨rfl, c2⟩; have q2 := drew_trans c2; have M2 := M1.later q2; refine ⟨_, rfl, ?_⟩) | (refine step_appKc rfl _ _ rfl wd.heap.size co k e acc (by simp [Act.eval, Act.put]) (M2.later (below_alloc w2 _)) w2.heap.size ⟨Ck, Cn, Cv⟩ (by simp [Act.eval, Act.put]) (atkc_new w2 Ck Cn Cv) (by omega) (by have := hBW1.size; have := q2.size; simp; omega) ?_; intro ao1 c1 w3 m3 b3))
          all_goals go_wp2_with fail
          all_goals
            have hbx : Below wd.heap.size wr w3 := ((q1.mono (unhide HBW).size).trans (q2.mono (Nat.le_trans (unhide HBW).size q1.size))).trans (((below_alloc w2 _).mono (Nat.le_trans (Nat.le_trans (unhide HBW).size q1.size) q2.size)).trans b3)
            rw [show (min ((m : Int) + 1) (m : Int)).toNat = m by omega]
            refine ⟨⟨cutW bo d m, m - m, d - m, l.drop m, ao1, k + 1, c1, acc ++ [⟨Ck, Cn, Cv⟩], rfl, rfl, ((unhide HW).keepZ (low_keep (unhide HL) hbx (Nat.le_refl _))).cut_l (Nat.le_refl m), low_cut (unhide HL), fun x hx => unhide HX x (List.mem_of_mem_drop hx), m3, (unhide HY).up hbx hW1, (hbx.block G hgd).trans (unhide HR), (unhide HBW).trans hbx, by omega, ?_⟩, ?_⟩
            · rw [List.drop_of_length_le (by rw [hml]; exact Nat.le_refl _), ofW_nil, List.append_nil]
              exact unhide HQ2
            · simp only [lenOf]; omega
        · have hq := unhide HQ
          rw [hl, ofW_split a b x hx hno] at hq
          have hla : a.length + 1 + b.length = m := by rw [← hml, hl]; simp; omega
          rw [Nat.zero_add] at hi
          have HI := hide hi
          have hd1 : l.drop (a.length + 1) = b := by rw [hl, ← List.drop_drop, List.drop_left]; rfl
          have hi0 : ¬ ((a.length : Nat) : Int) < 0 := by omega
          have HD := hide hd1
          have htk : l.take a.length = a := by rw [hl, List.take_left]
          have HTK := hide htk
          generalize hA : a.length = A at *
          by_cases ha : A = 0
          · have ha2 : a = [] := List.eq_nil_of_length_eq_zero (by omega)
            rw [if_pos ha2, List.nil_append] at hq
            have HQ2 := hide hq
            subst ha
            have hA0 : ¬ (0 : Int) < ((0 : Nat) : Int) := by omega
            clear hq hi hl hx hno HQ hd1 htk ha2
            go_wp2_with (go_at_call 13; refine (index_st bo m d l wr _ (unhide HW) (unhide HI)).mono ?_; rintro e w1 ⟨rfl, q1⟩)
            have hbx : Below wd.heap.size wr w1 := q1.mono (unhide HBW).size
            rw [show (min (1 : Int) (m : Int)).toNat = 1 by omega]
            refine ⟨⟨cutW bo d 1, m - 1, d - 1, l.drop 1, co, k, e, acc, rfl, rfl, ((unhide HW).keepZ (low_keep (unhide HL) hbx (Nat.le_refl _))).cut_l (by omega), low_cut (unhide HL), fun x hx => unhide HX x (List.mem_of_mem_drop hx), (unhide HM).later q1, (unhide HY).up hbx hW1, (hbx.block G hgd).trans (unhide HR), (unhide HBW).trans hbx, by omega, ?_⟩, ?_⟩
            · have h1 := unhide HD
              rw [Nat.zero_add] at h1
              rw [h1]
              exact unhide HQ2
            · simp only [lenOf]; omega
          · have ha2 : a ≠ [] := by intro e; rw [e] at hA; simp at hA; omega
            rw [if_neg ha2] at hq
            have hA0 : (0 : Int) < ((A : Nat) : Int) := by omega
            obtain ⟨⟨Ck, Cn, Cv⟩, hC⟩ : ∃ C, clsF a = C := ⟨_, rfl⟩
            rw [hC, ← List.append_assoc] at hq
            have HQ2 := hide hq
            have hcut := fun wx => run_cutW_h bo m d A (by omega) (A : Int) rfl wx
            have CC := hide (fun wx (h1 : Sts #[.map (some g1), .map (some g2), .map (some g3), .map (some g4), .map (some g5)] wx) (h2 : Wds wx bo m d l) => class_cut #[.map (some g1), .map (some g2), .map (some g3), .map (some g4), .map (some g5)] bo m d l wx A Ck Cn Cv h1 h2 (unhide HX) (by omega) (by rw [htk]; exact hC))
            clear hC hq hi hl hx hno HQ hd1 htk ha2
            go_wp2_with (go_at_call 13; refine (index_st bo m d l wr _ (unhide HW) (unhide HI)).mono ?_; rintro e w1 ⟨rfl, q1⟩)
            have hBW1 := (unhide HBW).trans (q1.mono (unhide HBW).size)
            have S1 := ((unhide SD).later hBW1).drew
            have W1 := ((unhide HW).later q1).drew
            have M1 := (unhide HM).later q1
            have R1 := row_later (unhide HR) q1
            have x0 := cell_of_row _ _ 0 _ _ _ R1
            have x1 := cell_of_row _ _ 1 _ _ _ R1
            have x2 := cell_of_row _ _ 2 _ _ _ R1
            have x3 := cell_of_row _ _ 3 _ _ _ R1
            have x4 := cell_of_row _ _ 4 _ _ _ R1
            go_region_law (first | (refine step_call2 rfl 15 _ _ _ _ rfl en_class (.agg #[.map (some g1), .map (some g2), .map (some g3), .map (some g4), .map (some g5)]) (.slice (cutW bo d 0) (A - 0) (d - 0)) (by simp [Act.eval, Act.put]) (by simp [Act.eval, Act.put]) (unhide CC w1.drew S1 W1) ?_; rintro e w2 ⟨rfl, c2⟩; have q2 := drew_trans c2; have M2 := M1.later q2; refine ⟨_, rfl, ?_⟩) | (refine step_appKc rfl _ _ rfl wd.heap.size co k e acc (by simp [Act.eval, Act.put]) (M2.later (below_alloc w2 _)) w2.heap.size ⟨Ck, Cn, Cv⟩ (by simp [Act.eval, Act.put]) (atkc_new w2 Ck Cn Cv) (by omega) (by have := hBW1.size; have := q2.size; simp; omega) ?_; intro ao1 c1 w3 m3 b3))
            all_goals go_wp2_with fail
            all_goals
              have hbx : Below wd.heap.size wr w3 := ((q1.mono (unhide HBW).size).trans (q2.mono (Nat.le_trans (unhide HBW).size q1.size))).trans (((below_alloc w2 _).mono (Nat.le_trans (Nat.le_trans (unhide HBW).size q1.size) q2.size)).trans b3)
              rw [show (min ((A : Int) + 1) (m : Int)).toNat = A + 1 by omega]
              refine ⟨⟨cutW bo d (A + 1), m - (A + 1), d - (A + 1), l.drop (A + 1), ao1, k + 1, c1, acc ++ [⟨Ck, Cn, Cv⟩], rfl, rfl, ((unhide HW).keepZ (low_keep (unhide HL) hbx (Nat.le_refl _))).cut_l (by omega), low_cut (unhide HL), fun x hx => unhide HX x (List.mem_of_mem_drop hx), m3, (unhide HY).up hbx hW1, (hbx.block G hgd).trans (unhide HR), (unhide HBW).trans hbx, by omega, ?_⟩, ?_⟩
              · rw [unhide HD]
                exact unhide HQ2
              · simp only [lenOf]; omega
  · rw [if_neg (show ¬ f = (⟨0, 0⟩ : Ft) from hf)]
    rw [decide_eq_false hf, Bool.not_false] at hne
    obtain ⟨fe, fa⟩ := f
    clear hf
    go_enter Tryz.func6, Tryz.ntmps6
    go_wp2_with (first | (with_reducible show wpList Tryz.prog _ _ (Oper.mk _ (Op.alloc 26) _ _ _ none :: _) _ _; refine wpList_alT rfl rfl ?_; intro wf rf qf tf; clear tf; have yf := rz1.later qf; have bf := belT b1 qf) | (with_reducible show wpList Tryz.prog _ _ (Oper.mk _ (Op.alloc 26) _ _ _ none :: _) _ _; refine wpList_alT rfl rfl ?_; intro wz rz bz tz; clear tz) | (go_at_call 5; refine (unhide CA wz ((unhide HV).later bz)).mono ?_; rintro e wa ⟨ao, n, c, rfl, ma, ca⟩; have b1 := belT bz ca; have rz1 := rz.later ca) | (with_reducible show wpList Tryz.prog _ _ (Oper.mk _ (Op.store 26 _ _) _ _ _ none :: _) _ _; refine wpList_stT rfl _ _ rfl wa.heap.size ⟨fe, fa⟩ ⟨0, 0⟩ (by simp [Act.eval, Act.put]) (by simp [Act.eval, Act.put]) rf ?_; intro wg rg gg tg; clear tg; have yg := yf.gb gg (Nat.ne_of_lt rz1.lt); have bg := belowG bf gg b1.size bf.size) | (with_reducible show wpList Tryz.prog _ _ (Oper.mk _ (Op.load 26 _) _ _ _ none :: _) _ _; refine wpList_ldT rfl _ rfl wa.heap.size ⟨fe, fa⟩ (by simp [Act.eval, Act.put]) rg ?_))
    have u0 := tb_e rg
    have u1 := tb_a rg
    have v0 := tb_e yg
    have v1 := tb_a yg
    have p0 := frozen_of_row wg w.heap.size 0 _ _ yg
    have p1 := frozen_of_row wg w.heap.size 1 _ _ yg
    go_region
    all_goals go_wp2_with fail
    all_goals exact of_end ([], ⟨fe, fa⟩) .none 0 0 w.heap.size rfl rfl rfl (tb_two yg) (KcMine.nought _ _) (((bg.trans (below_set w.heap.size 0 wg _)).trans (below_set w.heap.size 1 _ _)).trans ((below_drew _).mono (by simp; exact bg.size)))

end Go.Proofs.YtddfbaaghjcbnaaGreatDoor
