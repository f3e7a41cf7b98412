/-
  What one change leaves of a row of words that is the call's own. Conditions: the change by its contract; at most 100,000 words.
-/
import Derived.Test.YtgbahfadjdincaaGreatDoorDgCh
import Derived.Deep.RegionWith
import Derived.Shelf.Abstract
namespace Go.Proofs.YtgbahfadjdincaaGreatDoor
open Go.RowKit
set_option linter.unusedVariables false
set_option linter.unusedSimpArgs false

theorem bl_drew {B : Nat} {w x : World} (h : Below B w x) : Below B w x.drew := ⟨h.os, h.tape, h.output, h.size, h.block⟩
theorem bl_drewN {B : Nat} {w x : World} (h : Below B w x) (k : Nat) : Below B w (x.drewN k) := ⟨h.os, h.tape, h.output, h.size, h.block⟩
theorem gb_tr {q : Nat} {a b c : World} (h : Gb q a b) (k : Gb q b c) : Gb q a c :=
  ⟨k.os.trans h.os, k.tape.trans h.tape, k.output.trans h.output, Nat.le_trans h.size k.size, fun i hi hq => (k.block i (Nat.lt_of_lt_of_le hi h.size) hq).trans (h.block i hi hq)⟩
theorem gb_bl {q B : Nat} {a b c : World} (h : Gb q a b) (k : Below B b c) (hB : a.heap.size ≤ B) : Gb q a c :=
  ⟨k.os.trans h.os, k.tape.trans h.tape, k.output.trans h.output, Nat.le_trans h.size k.size, fun i hi hq => (k.block i (by omega)).trans (h.block i hi hq)⟩
theorem run_cut_own (g n c t : Nat) (h : t ≤ c) (wx : World) : (Instr.slice 29 (.slice (some ⟨g, 0, none⟩) n c) none (some (.int .i64 (t : Int))) none).run Tryz.prog wx = .ok (.slice (some ⟨g, 0, none⟩) t c) wx := by
  have := run_cutW_h (some ⟨g, 0, none⟩) n c t h (t : Int) rfl wx
  rw [cutW0] at this
  exact this
theorem set_take {M : List Wd} {t : Nat} {x : Wd} (h : t < M.length) : (M.set t x).take (t + 1) = M.take t ++ [x] := by
  rw [List.set_eq_take_append_cons_drop, if_pos h, List.take_append, List.length_take, Nat.min_eq_left (by omega), List.take_of_length_le (by rw [List.length_take]; omega), show t + 1 - t = 1 by omega]
  rfl
theorem set_drop {M : List Wd} {t f : Nat} {x : Wd} (h : t < f) : (M.set t x).drop f = M.drop f := by
  rw [List.drop_set, if_pos h]

set_option maxHeartbeats 8000000 in
set_option maxRecDepth 20000 in
theorem without_any (F : Nat) (P : List Wd → List Wd → Nat) (hP : DgC F P) (hE : ∀ args w, (callFunc F args).run Tryz.prog w = .ok (.enter F args) w) (hQ : ∀ k l, P k l ≤ l.length) (B g n c : Nat) (l : List Wd) (w : World) (h : WdMine B w (some ⟨g, 0, none⟩) n c l) (hB : B ≤ w.heap.size) (hn : n ≤ 100000) :
    Calls Tryz.prog 33 #[.slice (some ⟨g, 0, none⟩) n c, .func (.func F) #[] #[]] w fun e w' => ∃ m, e = .returned (.slice (some ⟨g, 0, none⟩) m c) ∧ WdMine B w' (some ⟨g, 0, none⟩) m c (dwo P 0 [] l) ∧ Gb g w w' := by
  have hlen := hide h.len
  have hle := h.ss.le
  have hmx := h.ss.max
  have H := hide h
  obtain ⟨R, hR⟩ : ∃ R, R = dwo P 0 [] l := ⟨_, rfl⟩
  rw [← hR]
  have HR := hide hR
  clear h hR
  go_enter Tryz.func33, Tryz.ntmps33
  go_wp2_with fail
  go_loopw [5, 6] (fun tv fv wr => ∃ (t f : Nat) (M : List Wd), t ≤ f ∧ f ≤ n ∧ tv = .int .i64 (t : Int) ∧ fv = .int .i64 (f : Int) ∧ WdMine B wr (some ⟨g, 0, none⟩) n c M ∧ Gb g w wr ∧ dwo P 0 (M.take t) (M.drop f) = R) (fun _ fv _ => n - (intOf fv).toNat)
  case atStart => exact ⟨0, 0, l, Nat.le_refl _, Nat.zero_le _, rfl, rfl, unhide H, Gb.refl _ _, by rw [List.take_zero, List.drop_zero]; exact (unhide HR).symm⟩
  case round =>
    clear H HR hlen
    obtain ⟨t, f, M, ht, hf, rfl, rfl, hM, hb, hq⟩ := hrel
    have hsz := hb.size
    have hml := hide hM.len
    have HM := hide hM
    have HQ := hide hq
    clear hM hq
    by_cases hlt : f < n
    · have hlj : ((f : Nat) : Int) < (n : Int) := by omega
      have htc : t ≤ c := by omega
      have i15 := run_cut_own g n c t htc
      have i18 := fun wx => run_cutW_l (some ⟨g, 0, none⟩) n c f hf (f : Int) rfl wx
      have hnp : 0 < n - f := by omega
      have CC := hide (fun wx (hx : Below wr.heap.size wr wx) => hP (some ⟨g, 0, none⟩) t c (M.take t) (cutW (some ⟨g, 0, none⟩) c f) (n - f) (c - f) (M.drop f) wx (((unhide HM).first (m := t) (by omega)).ss.later hx) (((unhide HM).ss.cut_l hf).later hx) hnp)
      have hpl := hQ (M.take t) (M.drop f)
      rw [List.length_drop, unhide hml] at hpl
      have HG := hide (@dwo_go P (M.take t) (M.drop f))
      obtain ⟨x, hx⟩ : ∃ x, M[f]? = some x := ⟨_, List.getElem?_eq_getElem (by rw [unhide hml]; exact hlt)⟩
      have hd := kdrop_cons hx
      have HS := hide (@dwo_stay P (M.take t) x (M.drop (f + 1)))
      rw [← hd] at HS
      obtain ⟨p, hp⟩ : ∃ p, p = P (M.take t) (M.drop f) := ⟨_, rfl⟩
      rw [← hp] at CC hpl HG HS
      obtain ⟨g2, e2, _, _, i29, a29⟩ := (unhide HM).idx hx (f : Int) rfl
      cases e2
      obtain ⟨y, hy⟩ : ∃ x, M[t]? = some x := ⟨_, List.getElem?_eq_getElem (by rw [unhide hml]; omega)⟩
      obtain ⟨g3, e3, _, _, i31, _⟩ := (unhide HM).idx hy (t : Int) rfl
      cases e3
      have HA := hide a29
      have HX := hide hx
      clear hp hx hy hd a29
      by_cases h0 : p = 0
      · subst h0
        have HS1 := hide (unhide HS rfl)
        clear HS HG
        go_wp2_with fail
        go_region_with (go_at_fn F; refine (unhide CC _ (by (repeat' (first | exact Below.refl _ _ | refine bl_drew ?_ | refine bl_drewN ?_ _)) <;> fail)).mono ?_; rintro e w2 ⟨rfl, q2⟩)
        all_goals
          have Q2 : Below wr.heap.size wr w2 := (show Below wr.heap.size wr _ from (by (repeat' (first | exact Below.refl _ _ | refine bl_drew ?_ | refine bl_drewN ?_ _)) <;> fail)).trans q2
          go_wp2_with (first | (with_reducible show wpList Tryz.prog _ _ (Oper.mk _ (Op.load 34 _) _ _ _ none :: _) _ _; refine wpList_ldW rfl _ rfl g (f * 3) (by simp [Act.eval, Act.put]) x ((unhide HA).later Q2) ?_) | (with_reducible show wpList Tryz.prog _ _ (Oper.mk _ (Op.store 34 _ _) _ _ _ none :: _) _ _; refine wpList_putW rfl (.tmp 31) (.tmp 30) rfl B g n c M t x _ rfl (by simp [Act.eval, Act.put]) (by simp [Act.eval, Act.put]) ((unhide HM).later Q2) (by omega) ?_; intro w3 m3 g3))
          go_roundw
          case rel => exact ⟨t + 1, f + 1, M.set t x, by omega, by omega, by go_num, by go_num, m3, gb_tr (gb_bl hb Q2 hsz) g3, by rw [set_take (by rw [unhide hml]; omega), set_drop (by omega), ← unhide HS1]; exact unhide HQ⟩
          case measure => simp [intOf]; omega
      · have hp0 : (0 : Int) < (p : Int) := by omega
        have HG1 := hide (unhide HG h0)
        clear HS HG
        go_wp2_with fail
        go_region_with (go_at_fn F; refine (unhide CC _ (by (repeat' (first | exact Below.refl _ _ | refine bl_drew ?_ | refine bl_drewN ?_ _)) <;> fail)).mono ?_; rintro e w2 ⟨rfl, q2⟩)
        all_goals
          have Q2 : Below wr.heap.size wr w2 := (show Below wr.heap.size wr _ from (by (repeat' (first | exact Below.refl _ _ | refine bl_drew ?_ | refine bl_drewN ?_ _)) <;> fail)).trans q2
          go_wp2_with fail
          go_roundw
          case rel => exact ⟨t, f + p, M, by omega, by omega, rfl, by go_num, (unhide HM).later Q2, gb_bl hb Q2 hsz, by rw [← List.drop_drop, ← unhide HG1]; exact unhide HQ⟩
          case measure => simp [intOf]; omega
    · have hfn : f = n := by omega
      subst hfn
      have htc : t ≤ c := by omega
      have i38 := run_cut_own g f c t htc
      have h1 := hide (show M.take t = R by rw [← unhide HQ, List.drop_of_length_le (by rw [unhide hml]; exact Nat.le_refl _), dwo_nil])
      have M1 := hide ((unhide HM).first (m := t) ht)
      go_wp2_with fail
      go_ret
      exact ⟨t, rfl, by rw [← unhide h1]; exact unhide M1, hb⟩

end Go.Proofs.YtgbahfadjdincaaGreatDoor
