/-
  The document's own answer for commands: WithStmt. Conditions: the slice can be read; at most 1000000 bytes.
-/
import Derived.Test.YtpidlfifipgadaaCmRf3
import Derived.Test.YtpidlfifipgadaaCmRf4
import Derived.Test.YtpidlfifipgadaaCmLib
namespace Go.Proofs.Ytpidlfifipgadaa
open Go.RowKit
set_option linter.unusedVariables false
set_option linter.unusedSimpArgs false

set_option maxHeartbeats 2000000 in
set_option maxRecDepth 100000 in
theorem with_ref (bo : Option Addr) (bn bc : Nat) (b : List Int) (id : Int) (w : World) (h : Bs w bo bn bc b) (hn : bn ≤ 1000000) (hi : 0 ≤ id ∧ id < 4294967296) :
    Calls Try.prog 12 #[.slice bo bn bc, .int .u32 id] w fun e w' => OutP w (wsP b id).1 (wsP b id).2 e w' := by
  have cR := hide (read_ref bo bn bc b w h (by omega))
  have hag := cm_again h.byt
  have hlen := h.len
  have HW := hide (show wsP b id = if (rdP b).2 ≠ 0 then (none, (rdP b).2) else if abt (rdP b).1.k = false then (none, 2) else (some (cmB { (rdP b).1 with s := id }), 0) from rfl)
  generalize wsP b id = WW at *
  clear h
  obtain ⟨c, er, hr⟩ : ∃ c er, rdP b = (c, er) := ⟨_, _, rfl⟩
  rw [hr] at cR hag HW
  simp only at hag HW
  clear hr
  have HAG := hide hag
  clear hag
  by_cases he : er = 0
  · subst he
    rw [if_neg (by simp)] at HW
    obtain ⟨a1, a2, a3, a4, a5⟩ := unhide HAG rfl
    have cA := hide (fun wx => about_ref c.k wx)
    cases qa : abt c.k
    · rw [qa, if_pos rfl] at HW
      rw [qa] at cA
      clear a1 a2 a3 a4 a5 HAG
      go_enter Try.func12, Try.ntmps12
      go_wp2_with fail
      refine (unhide cR).mono ?_
      rintro e w1 ⟨xo, xn, xc, rfl, hb1, ho1, b1⟩
      have k0 : (w1.alloc (.cells (c.cd xo xn xc).row 28)).cell? ⟨w1.heap.size, 0, none⟩ = some (.int .u8 c.k) := by rw [cell_top w1 _ _ 0 _ rfl]; rfl
      have B1 := hide (b1.trans ((below_alloc w1 (.cells (c.cd xo xn xc).row 28)).mono b1.size))
      clear hb1 ho1 b1 cR
      go_wp2_with (first | (go_at_call 45; refine same_world (unhide cA _) ?_) | (with_reducible show wpList Try.prog _ _ (Oper.mk _ (Op.store 28 _ _) _ _ _ none :: _) _ _; refine wpList_storeN rfl (.tmp 6) (.tmp 11) rfl (c.cd xo xn xc) (by simp [Act.eval, Act.put]) (by simp [Act.eval, Act.put]) rfl ?_))
      go_ret2
      rw [unhide HW]
      exact ⟨rfl, unhide B1⟩
    · rw [qa, if_neg (by simp)] at HW
      rw [qa] at cA
      have NF := hide (nf_with (id := id) a2 qa)
      have OK := hide (show ({ c with s := id } : Cm).ok from ⟨a3.k, hi, a3.p, a3.f, a3.n, a3.o, a3.d⟩)
      clear a1 a2 a3 HAG
      go_enter Try.func12, Try.ntmps12
      go_wp2_with fail
      refine (unhide cR).mono ?_
      rintro e w1 ⟨xo, xn, xc, rfl, hb1, ho1, b1⟩
      have hal := heap_alloc_new w1 (.cells (c.cd xo xn xc).row 28)
      have k0 : (w1.alloc (.cells (c.cd xo xn xc).row 28)).cell? ⟨w1.heap.size, 0, none⟩ = some (.int .u8 c.k) := by rw [cell_top w1 _ _ 0 _ rfl]; rfl
      have k2 : (w1.alloc (.cells (c.cd xo xn xc).row 28)).cell? ⟨w1.heap.size, 2, none⟩ = some (.int .u32 c.s) := by rw [cell_top w1 _ _ 2 _ rfl]; rfl
      have f2 : (w1.alloc (.cells (c.cd xo xn xc).row 28)).frozen? ⟨w1.heap.size, 2, none⟩ = false := frozen_of_row _ _ 2 _ _ hal
      have HS := hide (show (w1.alloc (.cells ((c.cd xo xn xc).row.setIfInBounds 2 (.int .u32 id)) 28)).heap[w1.heap.size]? = some (.cells (({ c with s := id } : Cm).cd xo xn xc).row 28 (0, 0)) from heap_alloc_new w1 _)
      have gS : Gb w1.heap.size w1 (w1.alloc (.cells ((c.cd xo xn xc).row.setIfInBounds 2 (.int .u32 id)) 28)) := Gb.of (below_alloc w1 _)
      have bS := b1.trans ((gS.below (Nat.le_refl _)).mono b1.size)
      have cP := hide (append_ref_ok none 0 0 [] { c with s := id } xo xn xc _ (Bs.nought _) (unhide OK) (hb1.new gS) (unhide NF) (by have := hb1.len; simp only at this ⊢; omega))
      rw [List.nil_append] at cP
      have BS := hide bS
      clear hb1 ho1 b1 cR gS bS hal
      go_wp2_with (first | (go_at_call 45; refine same_world (unhide cA _) ?_) | (with_reducible show wpList Try.prog _ _ (Oper.mk _ (Op.store 28 _ _) _ _ _ none :: _) _ _; refine wpList_storeN rfl (.tmp 6) (.tmp 11) rfl (c.cd xo xn xc) (by simp [Act.eval, Act.put]) (by simp [Act.eval, Act.put]) rfl ?_) | (with_reducible show wpList Try.prog _ _ (Oper.mk _ (Op.load 28 _) _ _ _ none :: _) _ _; refine wpList_loadC rfl (.tmp 6) rfl w1.heap.size (({ c with s := id } : Cm).cd xo xn xc) (by simp [Act.eval, Act.put]) (unhide HS) ?_))
      refine (unhide cP).mono ?_
      rintro e w2 ⟨ao, n, cc, rfl, m2, b2⟩
      have M2 := hide (m2.mono (unhide BS).size)
      have B2 := hide ((unhide BS).trans (b2.mono (unhide BS).size))
      clear m2 b2 cP
      go_wp2_with fail
      go_ret2
      rw [unhide HW]
      exact ⟨_, _, _, rfl, unhide M2, unhide B2⟩
  · rw [if_pos he] at HW
    have he' : (er != 0) = true := by simpa using he
    clear he HAG
    go_enter Try.func12, Try.ntmps12
    go_wp2_with fail
    refine (unhide cR).mono ?_
    rintro e w1 ⟨xo, xn, xc, rfl, hb1, ho1, b1⟩
    have B1 := hide (b1.trans ((below_alloc w1 (.cells (c.cd xo xn xc).row 28)).mono b1.size))
    clear hb1 ho1 b1 cR
    go_wp2_with (with_reducible show wpList Try.prog _ _ (Oper.mk _ (Op.store 28 _ _) _ _ _ none :: _) _ _; refine wpList_storeN rfl (.tmp 6) (.tmp 11) rfl (c.cd xo xn xc) (by simp [Act.eval, Act.put]) (by simp [Act.eval, Act.put]) rfl ?_)
    go_ret2
    rw [unhide HW]
    exact ⟨rfl, unhide B1⟩


end Go.Proofs.Ytpidlfifipgadaa
