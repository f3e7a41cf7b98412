/-
  What endBlock of package sha does to a hash of the kind 2: the words behind the block that the rest is, and no rest. Conditions: the table of constants holds what the program's text says.
-/
import Derived.Test.YtfnnafhifpolmaaDoorShaEnd
import Derived.Deep.DrawnRows
namespace Go.Proofs.YtfnnafhifpolmaaDoor
open Go.RowKit
set_option linter.unusedVariables false
set_option linter.unusedSimpArgs false
attribute [local go_sem ↓] Go.wp_at_zero Go.wp_at_succ

set_option maxHeartbeats 4000000 in
set_option maxRecDepth 4000 in
theorem endBlock2_any (g : Nat) (W R : List Int) (c : Int) (w : World) (h : Hs w g 2 W R c) (hWw : Wds W) (hR : Byt R) (hg : 1 ≤ g) (hv : Vars w) :
    Calls Tryd.prog 53 #[.pointer (some ⟨g, 0, none⟩)] w fun e w' => e = .returned (.tuple #[]) ∧ Hs w' g 2 (mix2 W (wds R)) (zs 64) c ∧ Gb g w w' := by
  have H := hide h
  have HV := hide hv
  have HWw := hide hWw
  have HR := hide hR
  have hlt := h.lt
  have wc := hide (wordsOf_any R w h.rl hR)
  clear h hv hWw hR
  go_enter Tryd.func53, Tryd.ntmps53
  go_wp2_with (first
    | (with_reducible show wpList Tryd.prog _ _ (Oper.mk _ (Op.load 50 _) _ _ _ none :: _) _ _; refine wpList_rLoad rfl (.tmp 5) rfl g rfl 2 W R c (unhide H) ?_))
  refine (unhide wc).mono ?_
  rintro e w1 ⟨rfl, b1⟩
  have H1 := hide ((unhide H).later b1)
  have hs1 := b1.size
  have B1 := hide b1
  clear b1 wc
  go_wp2_with (first
    | (with_reducible show wpList Tryd.prog _ _ (Oper.mk _ (Op.alloc 66) _ _ _ none :: _) _ _; refine wpList_aAlloc ta16 rfl rfl ?_; intro w2 a2 b2 s2; have S2 := hide s2; clear s2)
    | (with_reducible show wpList Tryd.prog _ _ (Oper.mk _ (Op.store 66 _ _) _ _ _ none :: _) _ _; refine wpList_aStore ta16 rfl (.tmp 2) (.tmp 7) rfl w1.heap.size (wds R) (zs 16) rfl rfl a2 (wds_len R) (zs_len 16) ?_; intro w3 a3 o3 s3 b3; have A3 := hide a3; have H3 := hide (((unhide H1).later b2).keep (o3 g (by omega))); have B3 := hide (((unhide B1).trans (b2.mono hs1)).trans (b3.mono hs1)); have S3 := hide s3; have kc := (unhide H3).kind; clear a2 b2 a3 o3 b3 s3))
  have hgb : g < w1.heap.size := by omega
  have hs3 : w1.heap.size < w3.heap.size := by have := unhide S2; have := unhide S3; omega
  have mc := hide (fun (wx : World) (hv : Vars wx) => mixed256_any W (wds R) wx hv (unhide H3).wl (unhide HWw) (wds_len R) (wds_wds (unhide HR)))
  obtain ⟨W0, W1, W2, W3, W4, W5, W6, W7, hW8⟩ := list8 (unhide H3).wl
  obtain ⟨b0, b1, b2, b3, b4, b5, b6, b7, b8, b9, b10, b11, b12, b13, b14, b15, hB16⟩ := list16 (wds_len R)
  obtain ⟨m0, m1, m2, m3, m4, m5, m6, m7, hM8⟩ := list8 (mix2_len W (wds R))
  rw [hM8] at mc
  rw [hB16] at mc A3
  have HM := hide (show mix2 W (wds R) = [m0, m1, m2, m3, m4, m5, m6, m7] from hM8)
  rw [hW8] at mc H3
  have hvW : (#[Value.int .u32 W0, Value.int .u32 W1, Value.int .u32 W2, Value.int .u32 W3, Value.int .u32 W4, Value.int .u32 W5, Value.int .u32 W6, Value.int .u32 W7] : Array Value) = vk .u32 [W0, W1, W2, W3, W4, W5, W6, W7] := rfl
  have hvB : (#[Value.int .u32 b0, Value.int .u32 b1, Value.int .u32 b2, Value.int .u32 b3, Value.int .u32 b4, Value.int .u32 b5, Value.int .u32 b6, Value.int .u32 b7, Value.int .u32 b8, Value.int .u32 b9, Value.int .u32 b10, Value.int .u32 b11, Value.int .u32 b12, Value.int .u32 b13, Value.int .u32 b14, Value.int .u32 b15] : Array Value) = vk .u32 [b0, b1, b2, b3, b4, b5, b6, b7, b8, b9, b10, b11, b12, b13, b14, b15] := rfl
  have hvM := hide (show vk .u32 [m0, m1, m2, m3, m4, m5, m6, m7] = (#[Value.int .u32 m0, Value.int .u32 m1, Value.int .u32 m2, Value.int .u32 m3, Value.int .u32 m4, Value.int .u32 m5, Value.int .u32 m6, Value.int .u32 m7] : Array Value) from rfl)
  rw [unhide hvM] at mc
  have p0 : w3.cell? ⟨g, 1, none⟩ = some (.int .u32 W0) := (unhide H3).word (i := 0) (by omega)
  have p1 : w3.cell? ⟨g, 2, none⟩ = some (.int .u32 W1) := (unhide H3).word (i := 1) (by omega)
  have p2 : w3.cell? ⟨g, 3, none⟩ = some (.int .u32 W2) := (unhide H3).word (i := 2) (by omega)
  have p3 : w3.cell? ⟨g, 4, none⟩ = some (.int .u32 W3) := (unhide H3).word (i := 3) (by omega)
  have p4 : w3.cell? ⟨g, 5, none⟩ = some (.int .u32 W4) := (unhide H3).word (i := 4) (by omega)
  have p5 : w3.cell? ⟨g, 6, none⟩ = some (.int .u32 W5) := (unhide H3).word (i := 5) (by omega)
  have p6 : w3.cell? ⟨g, 7, none⟩ = some (.int .u32 W6) := (unhide H3).word (i := 6) (by omega)
  have p7 : w3.cell? ⟨g, 8, none⟩ = some (.int .u32 W7) := (unhide H3).word (i := 7) (by omega)
  have d0 : w3.cell? ⟨w1.heap.size, 0, none⟩ = some (.int .u32 b0) := (unhide A3).cell (i := 0) (by simp)
  have d1 : w3.cell? ⟨w1.heap.size, 1, none⟩ = some (.int .u32 b1) := (unhide A3).cell (i := 1) (by simp)
  have d2 : w3.cell? ⟨w1.heap.size, 2, none⟩ = some (.int .u32 b2) := (unhide A3).cell (i := 2) (by simp)
  have d3 : w3.cell? ⟨w1.heap.size, 3, none⟩ = some (.int .u32 b3) := (unhide A3).cell (i := 3) (by simp)
  have d4 : w3.cell? ⟨w1.heap.size, 4, none⟩ = some (.int .u32 b4) := (unhide A3).cell (i := 4) (by simp)
  have d5 : w3.cell? ⟨w1.heap.size, 5, none⟩ = some (.int .u32 b5) := (unhide A3).cell (i := 5) (by simp)
  have d6 : w3.cell? ⟨w1.heap.size, 6, none⟩ = some (.int .u32 b6) := (unhide A3).cell (i := 6) (by simp)
  have d7 : w3.cell? ⟨w1.heap.size, 7, none⟩ = some (.int .u32 b7) := (unhide A3).cell (i := 7) (by simp)
  have d8 : w3.cell? ⟨w1.heap.size, 8, none⟩ = some (.int .u32 b8) := (unhide A3).cell (i := 8) (by simp)
  have d9 : w3.cell? ⟨w1.heap.size, 9, none⟩ = some (.int .u32 b9) := (unhide A3).cell (i := 9) (by simp)
  have d10 : w3.cell? ⟨w1.heap.size, 10, none⟩ = some (.int .u32 b10) := (unhide A3).cell (i := 10) (by simp)
  have d11 : w3.cell? ⟨w1.heap.size, 11, none⟩ = some (.int .u32 b11) := (unhide A3).cell (i := 11) (by simp)
  have d12 : w3.cell? ⟨w1.heap.size, 12, none⟩ = some (.int .u32 b12) := (unhide A3).cell (i := 12) (by simp)
  have d13 : w3.cell? ⟨w1.heap.size, 13, none⟩ = some (.int .u32 b13) := (unhide A3).cell (i := 13) (by simp)
  have d14 : w3.cell? ⟨w1.heap.size, 14, none⟩ = some (.int .u32 b14) := (unhide A3).cell (i := 14) (by simp)
  have d15 : w3.cell? ⟨w1.heap.size, 15, none⟩ = some (.int .u32 b15) := (unhide A3).cell (i := 15) (by simp)
  have KS := hide (fun (w5 : World) (b5 : Below w3.heap.size w3.drew w5) => (show Hs w5 g 2 [W0, W1, W2, W3, W4, W5, W6, W7] R c from (unhide H3).keep ((b5.block g (by omega)))))
  have VD := hide (show Vars w3.drew from (unhide HV).later (unhide HV).size ((unhide B3).trans ⟨rfl, rfl, rfl, Nat.le_refl _, fun _ _ => rfl⟩))
  clear hM8 hB16 hW8
  go_region_with (go_at_call 57; refine (unhide mc _ (unhide VD)).mono ?_; rintro e w5 ⟨rfl, b5⟩; have H5 := hide (unhide KS w5 b5); have q0 : w5.cell? ⟨g, 1, none⟩ = some (.int .u32 W0) := (unhide H5).word (i := 0) (by omega); have r0 := (unhide H5).free 1; have q1 : w5.cell? ⟨g, 2, none⟩ = some (.int .u32 W1) := (unhide H5).word (i := 1) (by omega); have r1 := (unhide H5).free 2; have q2 : w5.cell? ⟨g, 3, none⟩ = some (.int .u32 W2) := (unhide H5).word (i := 2) (by omega); have r2 := (unhide H5).free 3; have q3 : w5.cell? ⟨g, 4, none⟩ = some (.int .u32 W3) := (unhide H5).word (i := 3) (by omega); have r3 := (unhide H5).free 4; have q4 : w5.cell? ⟨g, 5, none⟩ = some (.int .u32 W4) := (unhide H5).word (i := 4) (by omega); have r4 := (unhide H5).free 5; have q5 : w5.cell? ⟨g, 6, none⟩ = some (.int .u32 W5) := (unhide H5).word (i := 5) (by omega); have r5 := (unhide H5).free 6; have q6 : w5.cell? ⟨g, 7, none⟩ = some (.int .u32 W6) := (unhide H5).word (i := 6) (by omega); have r6 := (unhide H5).free 7; have q7 : w5.cell? ⟨g, 8, none⟩ = some (.int .u32 W7) := (unhide H5).word (i := 7) (by omega); have r7 := (unhide H5).free 8; have B5 := hide b5; clear b5)
  all_goals have H6 := hide (show Hs ((((((((w5.setCell ⟨g, 1, none⟩ (.int .u32 m0)).setCell ⟨g, 2, none⟩ (.int .u32 m1)).setCell ⟨g, 3, none⟩ (.int .u32 m2)).setCell ⟨g, 4, none⟩ (.int .u32 m3)).setCell ⟨g, 5, none⟩ (.int .u32 m4)).setCell ⟨g, 6, none⟩ (.int .u32 m5)).setCell ⟨g, 7, none⟩ (.int .u32 m6)).setCell ⟨g, 8, none⟩ (.int .u32 m7)) g 2 [m0, m1, m2, m3, m4, m5, m6, m7] R c from (Hs.setW (Hs.setW (Hs.setW (Hs.setW (Hs.setW (Hs.setW (Hs.setW (Hs.setW (unhide H5) (i := 0) (by omega) m0) (i := 1) (by omega) m1) (i := 2) (by omega) m2) (i := 3) (by omega) m3) (i := 4) (by omega) m4) (i := 5) (by omega) m5) (i := 6) (by omega) m6) (i := 7) (by omega) m7))
  all_goals have G6 := hide (show Gb g w ((((((((w5.setCell ⟨g, 1, none⟩ (.int .u32 m0)).setCell ⟨g, 2, none⟩ (.int .u32 m1)).setCell ⟨g, 3, none⟩ (.int .u32 m2)).setCell ⟨g, 4, none⟩ (.int .u32 m3)).setCell ⟨g, 5, none⟩ (.int .u32 m4)).setCell ⟨g, 6, none⟩ (.int .u32 m5)).setCell ⟨g, 7, none⟩ (.int .u32 m6)).setCell ⟨g, 8, none⟩ (.int .u32 m7)) from (Gb.set (Gb.set (Gb.set (Gb.set (Gb.set (Gb.set (Gb.set (Gb.set (((Gb.of (g := g) (unhide B3)).drew).trans (Gb.of (w := w3.drew) (unhide B5))) 1 (.int .u32 m0)) 2 (.int .u32 m1)) 3 (.int .u32 m2)) 4 (.int .u32 m3)) 5 (.int .u32 m4)) 6 (.int .u32 m5)) 7 (.int .u32 m6)) 8 (.int .u32 m7)))
  all_goals clear p0 q0 r0 p1 q1 r1 p2 q2 r2 p3 q3 r3 p4 q4 r4 p5 q5 r5 p6 q6 r6 p7 q7 r7 d0 d1 d2 d3 d4 d5 d6 d7 d8 d9 d10 d11 d12 d13 d14 d15 hvW hvB
  all_goals obtain ⟨w6, hw6⟩ : ∃ w6, ((((((((w5.setCell ⟨g, 1, none⟩ (.int .u32 m0)).setCell ⟨g, 2, none⟩ (.int .u32 m1)).setCell ⟨g, 3, none⟩ (.int .u32 m2)).setCell ⟨g, 4, none⟩ (.int .u32 m3)).setCell ⟨g, 5, none⟩ (.int .u32 m4)).setCell ⟨g, 6, none⟩ (.int .u32 m5)).setCell ⟨g, 7, none⟩ (.int .u32 m6)).setCell ⟨g, 8, none⟩ (.int .u32 m7)) = w6 := ⟨_, rfl⟩
  all_goals rw [hw6] at H6 G6 ⊢
  all_goals clear hw6
  all_goals go_wp2_with (first
    | (with_reducible show wpList Tryd.prog _ _ (Oper.mk _ (Op.build 50 _) _ _ _ none :: _) _ _; refine wpList_bld rfl _ _ rfl _ rBuilt0 ?_)
    | (with_reducible show wpList Tryd.prog _ _ (Oper.mk _ (Op.store 50 _ _) _ _ _ none :: _) _ _; refine wpList_rStore rfl (.tmp 34) (.tmp 32) rfl g rfl 2 _ R c (unhide H6) (zs 64) rfl (zs_len 64) ?_; intro w7 h7 g7))
  all_goals refine bodyPost_end (results_none rfl _ _ _) rfl ?_
  all_goals exact ⟨rfl, by rw [unhide HM]; exact h7, (unhide G6).trans g7⟩

end Go.Proofs.YtfnnafhifpolmaaDoor
