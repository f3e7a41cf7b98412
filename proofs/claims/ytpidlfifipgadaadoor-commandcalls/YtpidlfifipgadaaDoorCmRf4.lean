/-
  The document's own answer for commands: Append of a command that may be. Conditions: the numbers fit; the slices can be read; lengths below 2 to the 40.
-/
import Derived.Test.YtpidlfifipgadaaDoorCmRf1
import Derived.Deep.RegionHeld3
import Derived.BigQuiet
namespace Go.Proofs.YtpidlfifipgadaaDoor
open Go.RowKit
set_option linter.unusedVariables false
set_option linter.unusedSimpArgs false

theorem mine_row0 {B : Nat} {w : World} {g : Nat} (h : w.heap[g]? = some (.cells #[] 5 (0, 0))) (hg : B ≤ g) : Mine B w (some ⟨g, 0, none⟩) 0 0 [] :=
  ⟨rfl, ⟨rfl, .inr ⟨g, 0, #[], rfl, hg, h, Nat.le_refl _, by unfold maxLen; omega, rfl, rfl⟩⟩, Byt.nil⟩
theorem bs_row1 {w : World} {g : Nat} {k : Int} (h : w.heap[g]? = some (.cells #[.int .u8 k] 5 (0, 0))) (h0 : 0 ≤ k) (h1 : k ≤ 255) : Bs w (some ⟨g, 0, none⟩) 1 1 [k] :=
  ⟨rfl, Nat.le_refl _, by omega, (fun e => by cases e), Byt.one h0 h1, .inr ⟨g, 0, rfl, fun i hi => by
    have : i = 0 := by omega
    subst this
    rw [cell_of_row w g _ _ _ _ h]
    rfl⟩⟩

theorem row8R {w : World} {g : Nat} {c : Cm} {xo : Option Addr} {xn xc : Nat} (h : w.heap[g]? = some (.cells (c.cd xo xn xc).row 26 (0, 0))) :
    w.cell? ⟨g, 0, none⟩ = some (.int .u8 c.k) ∧ w.cell? ⟨g, 1, none⟩ = some (.string c.t) ∧ w.cell? ⟨g, 2, none⟩ = some (.int .u32 c.s) ∧ w.cell? ⟨g, 3, none⟩ = some (.int .u16 c.p) ∧ w.cell? ⟨g, 4, none⟩ = some (.int .u8 c.f) ∧ w.cell? ⟨g, 5, none⟩ = some (.int .u32 c.n) ∧ w.cell? ⟨g, 6, none⟩ = some (.int .u16 c.o) ∧ w.cell? ⟨g, 7, none⟩ = some (.slice xo xn xc) := by
  refine ⟨?_, ?_, ?_, ?_, ?_, ?_, ?_, ?_⟩ <;> (rw [cell_of_row w g _ _ _ _ h]; rfl)

set_option maxHeartbeats 8000000 in
set_option maxRecDepth 100000 in
theorem append_ref_ok (bo : Option Addr) (bn bc : Nat) (b : List Int) (c : Cm) (xo : Option Addr) (xn xc : Nat) (w : World) (hb : Bs w bo bn bc b) (hc : c.ok) (hd : Bs w xo xn xc c.d) (hnf : Nf c) (hsz : bn + 8 * (c.t.size + xn) + 1000 ≤ 1099511627776) :
    Calls Tryd.prog 14 #[.slice bo bn bc, .agg (c.cd xo xn xc).row] w fun e w' => OutP w (some (b ++ cmB c)) 2 e w' := by
  have cK := hide (check_ref_ok c xo xn xc (w.alloc (.cells (c.cd xo xn xc).row 26)) hd.len hnf)
  have b0 := below_alloc w (.cells (c.cd xo xn xc).row 26)
  have h0 := heap_alloc_new w (.cells (c.cd xo xn xc).row 26)
  have z0 : (w.alloc (.cells (c.cd xo xn xc).row 26)).heap.size = w.heap.size + 1 := by simp
  have hbx : ∀ wx : World, (Instr.box 26 (.agg (c.cd xo xn xc).row)).run Tryd.prog wx = .ok (.pointer (some ⟨wx.heap.size, 0, none⟩)) (wx.alloc (.cells (c.cd xo xn xc).row 26)) := by intro wx; rfl
  have hbl := hb.len
  have hdl := hd.len
  have hck := hc.k
  have HBB := hide hb
  have HDD := hide hd
  have HC := hide hc
  have H0 := hide h0
  have B0 := hide b0
  clear hb hd hc hnf h0 b0
  go_enter Tryd.func14, Tryd.ntmps14
  go_wp2_with (with_reducible show wpList Tryd.prog _ _ (Oper.mk _ (Op.load 26 _) _ _ _ none :: _) _ _; refine wpList_loadC rfl (.tmp 3) rfl w.heap.size (c.cd xo xn xc) (by simp [Act.eval, Act.put]) (unhide H0) ?_)
  refine (unhide cK).mono ?_
  rintro e w1 ⟨rfl, b1⟩
  rw [z0] at b1
  have z1 := b1.size
  rw [z0] at z1
  have H1 := hide ((b1.block w.heap.size (by omega)).trans (unhide H0))
  have HB1 := hide ((unhide B0).trans (b1.mono (by omega)))
  have k0 : w1.cell? ⟨w.heap.size, 0, none⟩ = some (.int .u8 c.k) := by rw [cell_of_row _ _ 0 _ _ _ (unhide H1)]; rfl
  have BB1 := hide ((unhide HBB).later (unhide HB1))
  clear b1 cK H0 B0
  have KC := hide (fun (w' : World) (hb : Below w1.heap.size w1 w') => (show w'.cell? ⟨w.heap.size, 0, none⟩ = some (.int .u8 c.k) from (hb.cell (p := ⟨w.heap.size, 0, none⟩) (by simp only; omega)).trans k0))
  have bW_a : Below w1.heap.size w1 ((w1.alloc (.cells #[] 5)).drew) := (below_alloc w1 _).drew
  have hR_a : ((w1.alloc (.cells #[] 5)).drew).heap[w1.heap.size]? = some (.cells #[] 5 (0, 0)) := heap_alloc_new w1 _
  have hW_a : w1.heap.size ≤ ((w1.alloc (.cells #[] 5)).drew).heap.size := bW_a.size
  have MA_a := hide (mine_row0 (B := w1.heap.size) hR_a (by omega))
  have BA_a := hide ((unhide BB1).later bW_a)
  have BW_a := hide bW_a
  have bW_b : Below w1.heap.size w1 (((w1.alloc (.cells #[] 5)).alloc (.cells #[.int .u8 c.k] 5)).drew) := (Below.alloc (below_alloc w1 _) (by simp) _).drew
  have hO_b : (((w1.alloc (.cells #[] 5)).alloc (.cells #[.int .u8 c.k] 5)).drew).heap[w1.heap.size]? = some (.cells #[] 5) := heap_alloc2_old w1 _ _
  have hN_b : (((w1.alloc (.cells #[] 5)).alloc (.cells #[.int .u8 c.k] 5)).drew).heap[w1.heap.size + 1]? = some (.cells #[.int .u8 c.k] 5) := heap_alloc2_new w1 _ _
  have hR_b := hO_b
  have RC_b := hide hN_b
  have hW_b : w1.heap.size ≤ (((w1.alloc (.cells #[] 5)).alloc (.cells #[.int .u8 c.k] 5)).drew).heap.size := bW_b.size
  have MA_b := hide (mine_row0 (B := w1.heap.size) hR_b (by omega))
  have BA_b := hide ((unhide BB1).later bW_b)
  have BW_b := hide bW_b
  have zW_b : w1.heap.size + 1 < (((w1.alloc (.cells #[] 5)).alloc (.cells #[.int .u8 c.k] 5)).drew).heap.size := (Array.getElem?_eq_some_iff.1 (unhide RC_b)).1
  have bW_c : Below w1.heap.size w1 (((w1.alloc (.cells #[.int .u8 c.k] 5)).alloc (.cells #[] 5)).drew) := (Below.alloc (below_alloc w1 _) (by simp) _).drew
  have hO_c : (((w1.alloc (.cells #[.int .u8 c.k] 5)).alloc (.cells #[] 5)).drew).heap[w1.heap.size]? = some (.cells #[.int .u8 c.k] 5) := heap_alloc2_old w1 _ _
  have hN_c : (((w1.alloc (.cells #[.int .u8 c.k] 5)).alloc (.cells #[] 5)).drew).heap[w1.heap.size + 1]? = some (.cells #[] 5) := heap_alloc2_new w1 _ _
  have hR_c := hN_c
  have RC_c := hide hO_c
  have hW_c : w1.heap.size ≤ (((w1.alloc (.cells #[.int .u8 c.k] 5)).alloc (.cells #[] 5)).drew).heap.size := bW_c.size
  have MA_c := hide (mine_row0 (B := w1.heap.size) hR_c (by omega))
  have BA_c := hide ((unhide BB1).later bW_c)
  have BW_c := hide bW_c
  have zW_c : w1.heap.size < (((w1.alloc (.cells #[.int .u8 c.k] 5)).alloc (.cells #[] 5)).drew).heap.size := (Array.getElem?_eq_some_iff.1 (unhide RC_c)).1
  clear bW_a bW_b bW_c hR_a hR_b hR_c hO_b hN_b hO_c hN_c
  go_wp2_with fail
  go_region_held3 (fun w' => w'.cell? ⟨w.heap.size, 0, none⟩ = some (.int .u8 c.k)) (first | exact unhide KC _ b3 | exact unhide KC _ b2 | (refine unhide KC _ ?_; (repeat' (first | with_reducible exact b2 | with_reducible exact Below.refl _ _ | with_reducible refine Below.drew ?_ | with_reducible refine Below.alloc ?_ ?_ _ | exact Nat.le_refl _ | exact b2.size | omega | (simp; done) | (simp; omega))); done) | go_keep) (first | (refine step_appK rfl (.tmp 11) (.tmp 12) rfl w1.heap.size (some ⟨w1.heap.size, 0, none⟩) 0 0 [] (by simp [Act.eval, Act.put]) (unhide MA_a) bo bn bc b (by simp [Act.eval, Act.put]) (unhide BA_a) (by omega) hW_a ?_; intro ao2 c2 w2 m2 g2; rw [Nat.zero_add, List.nil_append] at m2; have b2 := (unhide BW_a).trans (mine_grown (unhide MA_a) hW_a g2)) | (refine step_appK rfl (.tmp 11) (.tmp 12) rfl w1.heap.size (some ⟨w1.heap.size, 0, none⟩) 0 0 [] (by simp [Act.eval, Act.put]) (unhide MA_b) bo bn bc b (by simp [Act.eval, Act.put]) (unhide BA_b) (by omega) hW_b ?_; intro ao2 c2 w2 m2 g2; rw [Nat.zero_add, List.nil_append] at m2; have b2 := (unhide BW_b).trans (mine_grown (unhide MA_b) hW_b g2); have r2b := bs_row1 ((g2.block (w1.heap.size + 1) zW_b (by simp [Value.ownBlock])).trans (unhide RC_b)) hck.1 hck.2) | (refine step_appK rfl (.tmp 11) (.tmp 12) rfl w1.heap.size (some ⟨w1.heap.size + 1, 0, none⟩) 0 0 [] (by simp [Act.eval, Act.put]) (unhide MA_c) bo bn bc b (by simp [Act.eval, Act.put]) (unhide BA_c) (by omega) hW_c ?_; intro ao2 c2 w2 m2 g2; rw [Nat.zero_add, List.nil_append] at m2; have b2 := (unhide BW_c).trans (mine_grown (unhide MA_c) hW_c g2); have r2c := bs_row1 ((g2.block (w1.heap.size) zW_c (by simp [Value.ownBlock])).trans (unhide RC_c)) hck.1 hck.2) | (refine step_appK rfl (.tmp 13) (.tmp 16) rfl w1.heap.size ao2 bn c2 b (by simp [Act.eval, Act.put]) (m2.later (Below.drew (below_alloc w2 (.cells #[.int .u8 c.k] 5)))) (some ⟨w2.heap.size, 0, none⟩) 1 1 [c.k] (by simp [Act.eval, Act.put]) ((Bs.one w2 c.k hck.1 hck.2).later (below_drew _)) (by omega) (Nat.le_trans b2.size (Below.drew (below_alloc w2 (.cells #[.int .u8 c.k] 5))).size) ?_; intro ao3 c3 w3 m3 g3; have b3 := b2.trans ((Below.mono (Below.drew (below_alloc w2 (.cells #[.int .u8 c.k] 5))) b2.size).trans (mine_grown (m2.later (Below.drew (below_alloc w2 (.cells #[.int .u8 c.k] 5)))) (Nat.le_trans b2.size (Below.drew (below_alloc w2 (.cells #[.int .u8 c.k] 5))).size) g3))) | (refine step_appK rfl (.tmp 13) (.tmp 16) rfl w1.heap.size ao2 bn c2 b (by simp [Act.eval, Act.put]) (m2.later (below_alloc w2 (.cells #[.int .u8 c.k] 5))) (some ⟨w2.heap.size, 0, none⟩) 1 1 [c.k] (by simp [Act.eval, Act.put]) ((Bs.one w2 c.k hck.1 hck.2)) (by omega) (Nat.le_trans b2.size (below_alloc w2 (.cells #[.int .u8 c.k] 5)).size) ?_; intro ao3 c3 w3 m3 g3; have b3 := b2.trans ((Below.mono (below_alloc w2 (.cells #[.int .u8 c.k] 5)) b2.size).trans (mine_grown (m2.later (below_alloc w2 (.cells #[.int .u8 c.k] 5))) (Nat.le_trans b2.size (below_alloc w2 (.cells #[.int .u8 c.k] 5)).size) g3))) | (refine step_appK rfl (.tmp 13) (.tmp 16) rfl w1.heap.size ao2 bn c2 b (by simp [Act.eval, Act.put]) (m2.later (below_drew w2)) (some ⟨w1.heap.size + 1, 0, none⟩) 1 1 [c.k] (by simp [Act.eval, Act.put]) (r2b.later (below_drew w2)) (by omega) (Nat.le_trans b2.size (below_drew w2).size) ?_; intro ao3 c3 w3 m3 g3; have b3 := b2.trans ((Below.mono (below_drew w2) b2.size).trans (mine_grown (m2.later (below_drew w2)) (Nat.le_trans b2.size (below_drew w2).size) g3))) | (refine step_appK rfl (.tmp 13) (.tmp 16) rfl w1.heap.size ao2 bn c2 b (by simp [Act.eval, Act.put]) m2 (some ⟨w1.heap.size + 1, 0, none⟩) 1 1 [c.k] (by simp [Act.eval, Act.put]) r2b (by omega) (Nat.le_trans b2.size (Below.refl w2.heap.size w2).size) ?_; intro ao3 c3 w3 m3 g3; have b3 := b2.trans ((Below.mono (Below.refl w2.heap.size w2) b2.size).trans (mine_grown m2 (Nat.le_trans b2.size (Below.refl w2.heap.size w2).size) g3))) | (refine step_appK rfl (.tmp 13) (.tmp 16) rfl w1.heap.size ao2 bn c2 b (by simp [Act.eval, Act.put]) (m2.later (below_drew w2)) (some ⟨w1.heap.size, 0, none⟩) 1 1 [c.k] (by simp [Act.eval, Act.put]) (r2c.later (below_drew w2)) (by omega) (Nat.le_trans b2.size (below_drew w2).size) ?_; intro ao3 c3 w3 m3 g3; have b3 := b2.trans ((Below.mono (below_drew w2) b2.size).trans (mine_grown (m2.later (below_drew w2)) (Nat.le_trans b2.size (below_drew w2).size) g3))) | (refine step_appK rfl (.tmp 13) (.tmp 16) rfl w1.heap.size ao2 bn c2 b (by simp [Act.eval, Act.put]) m2 (some ⟨w1.heap.size, 0, none⟩) 1 1 [c.k] (by simp [Act.eval, Act.put]) r2c (by omega) (Nat.le_trans b2.size (Below.refl w2.heap.size w2).size) ?_; intro ao3 c3 w3 m3 g3; have b3 := b2.trans ((Below.mono (Below.refl w2.heap.size w2) b2.size).trans (mine_grown m2 (Nat.le_trans b2.size (Below.refl w2.heap.size w2).size) g3))))
  all_goals
    have M3 := hide m3
    have B3 := hide b3
    clear m2 g2 m3 g3 b2 b3
    try clear r2b
    try clear r2c
    have hz3 := (unhide B3).size
    have H3 := hide (((unhide B3).block w.heap.size (by omega)).trans (unhide H1))
    have HD3 := hide ((unhide HDD).later ((unhide HB1).trans ((unhide B3).mono (by omega))))
    obtain ⟨u0, u1, u2, u3, u4, u5, u6, u7⟩ := row8R (unhide H3)
    have cS := hide (fun wx => shape_ref c.k wx)
    have hw := shp_fl c.k
    have HRES0 := hide (show b ++ cmB c = (b ++ [c.k]) ++ (fl c.k).flatMap (fb c) by unfold cmB; simp)
    obtain ⟨⟨k0_, k1_⟩, ⟨s0, s1⟩, ⟨p0, p1⟩, ⟨f0, f1⟩, ⟨n0, n1⟩, ⟨o0, o1⟩, hby⟩ := unhide HC
    clear MA_a MA_b MA_c BA_a BA_b BA_c BW_a BW_b BW_c RC_b RC_c hW_a hW_b hW_c zW_b zW_c KC k0
    generalize shp c.k = sh at *
    generalize fl c.k = l at *
    rcases hw with ⟨rfl, rfl⟩ | ⟨rfl, rfl⟩ | ⟨rfl, rfl⟩ | ⟨rfl, rfl⟩ | ⟨rfl, rfl⟩ | ⟨rfl, rfl⟩ | ⟨rfl, rfl⟩ | ⟨rfl, rfl⟩ | ⟨rfl, rfl⟩
    · have HR := hide (show b ++ cmB c = b ++ [c.k] by rw [unhide HRES0]; simp [List.flatMap_cons, fb0, fb1, fb2, fb3, fb4, fb5, fb6, fb7])
      go_wp2_with (go_at_call 30; refine same_world (unhide cS _) ?_)
      go_ret2
      rw [unhide HR]
      exact ⟨_, _, _, rfl, (unhide M3).mono (by omega), (unhide HB1).trans ((unhide B3).mono (by omega))⟩
    · have HR := hide (show b ++ cmB c = b ++ [c.k] ++ nums c.t by rw [unhide HRES0]; simp [List.flatMap_cons, fb0, fb1, fb2, fb3, fb4, fb5, fb6, fb7])
      go_wp2_with (first | (go_at_call 30; refine same_world (unhide cS _) ?_) | (at_builtin; refine wpList_appT rfl (.tmp 39) (.tmp 41) rfl w1.heap.size ao3 (bn + 1) c3 (b ++ [c.k]) (by simp [Act.eval, Act.put]) (unhide M3) c.t (by simp [Act.eval, Act.put]) (by omega) (unhide B3).size ?_; intro ao7 c7 w7 m7 b7; have M7 := hide m7; have B7 := hide ((unhide B3).trans b7); clear m7 b7))
      go_ret2
      rw [unhide HR]
      exact ⟨_, _, _, rfl, (unhide M7).mono (by omega), (unhide HB1).trans ((unhide B7).mono (by omega))⟩
    · have HR := hide (show b ++ cmB c = b ++ [c.k] ++ le c.n 4 by rw [unhide HRES0]; simp [List.flatMap_cons, fb0, fb1, fb2, fb3, fb4, fb5, fb6, fb7])
      have cX5 := hide (fixed_ref ao3 (bn + 1) c3 (b ++ [c.k]) c.n 4 w3 (unhide M3).bs (by omega) (by omega) (by omega) (by omega) (by omega) (by have : (2 : Int) ^ (8 * (4 : Int).toNat) = 4294967296 := (by decide); omega))
      rw [show (4 : Int).toNat = 4 from rfl] at cX5
      go_wp2_with (go_at_call 30; refine same_world (unhide cS _) ?_)
      refine (unhide cX5).mono ?_
      rintro e w5 ⟨ao5, c5, rfl, m5, b5⟩
      have hz5 := (unhide B3).size
      have M5 := hide (m5.mono hz5)
      have B5 := hide ((unhide B3).trans (b5.mono hz5))
      have H5 := hide ((b5.block w.heap.size (by omega)).trans (unhide H3))
      clear m5 b5 cX5
      obtain ⟨t0, t1, t2, t3, t4, t5, t6, t7⟩ := row8R (unhide H5)
      go_wp2_with fail
      go_ret2
      rw [unhide HR]
      exact ⟨_, _, _, rfl, (unhide M5).mono (by omega), (unhide HB1).trans ((unhide B5).mono (by omega))⟩
    · have HR := hide (show b ++ cmB c = b ++ [c.k] ++ le c.s 4 ++ [c.f, 1, 0, 0, 0] ++ c.d by rw [unhide HRES0]; simp [List.flatMap_cons, fb1, fb3, fb4, fb7, le])
      have cX5 := hide (fixed_ref ao3 (bn + 1) c3 (b ++ [c.k]) c.s 4 w3 (unhide M3).bs (by omega) (by omega) (by omega) (by omega) (by omega) (by have : (2 : Int) ^ (8 * (4 : Int).toNat) = 4294967296 := (by decide); omega))
      rw [show (4 : Int).toNat = 4 from rfl] at cX5
      go_wp2_with (go_at_call 30; refine same_world (unhide cS _) ?_)
      clear u0 u1 u2 u3 u4 u5 u6 u7
      refine (unhide cX5).mono ?_
      rintro e w5 ⟨ao5, c5, rfl, m5, b5⟩
      have hz5 := (unhide B3).size
      have M5 := hide (m5.mono hz5)
      have B5 := hide ((unhide B3).trans (b5.mono hz5))
      have H5 := hide ((b5.block w.heap.size (by omega)).trans (unhide H3))
      clear m5 b5 cX5
      obtain ⟨t0, t1, t2, t3, t4, t5, t6, t7⟩ := row8R (unhide H5)
      have KF := hide (fun (w' : World) (hb : Below w1.heap.size w5 w') => (show w'.cell? ⟨w.heap.size, 4, none⟩ = some (.int .u8 c.f) ∧ w'.cell? ⟨w.heap.size, 7, none⟩ = some (.slice xo xn xc) from ⟨(hb.cell (p := ⟨w.heap.size, 4, none⟩) (by simp only; omega)).trans t4, (hb.cell (p := ⟨w.heap.size, 7, none⟩) (by simp only; omega)).trans t7⟩))
      have bL := (below_alloc w5 (.cells #[.int .u8 c.f, .int .u8 1, .int .u8 0, .int .u8 0, .int .u8 0] 5)).drew
      have hz5' := (unhide B5).size
      have ML := hide ((unhide M5).later bL)
      have BL := hide (show Bs ((w5.alloc (.cells #[.int .u8 c.f, .int .u8 1, .int .u8 0, .int .u8 0, .int .u8 0] 5)).drew) (some ⟨w5.heap.size, 0, none⟩) 5 5 [c.f, 1, 0, 0, 0] from (Bs.lit w5 [c.f, 1, 0, 0, 0] (by intro x hx; simp at hx; omega) (by simp)).later (below_drew _))
      have hL := Nat.le_trans hz5' bL.size
      have BLW := hide (bL.mono hz5')
      clear bL
      have DD := hide (fun (w' : World) (hb : Below w1.heap.size w1 w') => (unhide HDD).later ((unhide HB1).trans (hb.mono (by omega))))
      go_wp2_with fail
      go_region_held3 (fun w' => w'.cell? ⟨w.heap.size, 4, none⟩ = some (.int .u8 c.f) ∧ w'.cell? ⟨w.heap.size, 7, none⟩ = some (.slice xo xn xc)) (first | with_reducible exact unhide KF _ b8 | with_reducible exact unhide KF _ b7 | with_reducible exact unhide KF _ ((Below.refl _ _).alloc hz5' _) | with_reducible exact unhide KF _ ((Below.refl _ _).alloc hz5' _).drew | with_reducible exact unhide KF _ (Below.refl _ _) | go_keep) (first | (refine step_appK rfl (.tmp 53) (.tmp 56) rfl w1.heap.size ao5 (bn + 1 + 4) c5 (b ++ [c.k] ++ le c.s 4) (by simp [Act.eval, Act.put]) (unhide ML) (some ⟨w5.heap.size, 0, none⟩) 5 5 [c.f, 1, 0, 0, 0] (by simp [Act.eval, Act.put]) (unhide BL) (by omega) hL ?_; intro ao7 c7 w7 m7 g7; have b7 := (unhide BLW).trans (mine_grown (unhide ML) hL g7)) | (refine step_appK rfl (.tmp 57) (.tmp 59) rfl w1.heap.size ao7 (bn + 1 + 4 + 5) c7 (b ++ [c.k] ++ le c.s 4 ++ [c.f, 1, 0, 0, 0]) (by simp [Act.eval, Act.put]) m7 xo xn xc c.d (by simp [Act.eval, Act.put]) (unhide DD _ ((unhide B5).trans b7)) (by omega) (Nat.le_trans hz5' b7.size) ?_; intro ao8 c8 w8 m8 g8; have b8 := b7.trans (mine_grown m7 (Nat.le_trans hz5' b7.size) g8)))
      have M8 := hide m8
      have B8 := hide ((unhide B5).trans b8)
      clear m7 g7 m8 g8 b7 b8
      go_wp2_with fail
      go_ret2
      rw [unhide HR]
      exact ⟨_, _, _, rfl, (unhide M8).mono (by omega), (unhide HB1).trans ((unhide B8).mono (by omega))⟩
    · have HR := hide (show b ++ cmB c = b ++ [c.k] ++ le c.s 4 ++ le c.p 2 ++ c.d by rw [unhide HRES0]; simp [List.flatMap_cons, fb0, fb1, fb2, fb3, fb4, fb5, fb6, fb7])
      have cX5 := hide (fixed_ref ao3 (bn + 1) c3 (b ++ [c.k]) c.s 4 w3 (unhide M3).bs (by omega) (by omega) (by omega) (by omega) (by omega) (by have : (2 : Int) ^ (8 * (4 : Int).toNat) = 4294967296 := (by decide); omega))
      rw [show (4 : Int).toNat = 4 from rfl] at cX5
      go_wp2_with (go_at_call 30; refine same_world (unhide cS _) ?_)
      clear u0 u1 u2 u3 u4 u5 u6 u7
      refine (unhide cX5).mono ?_
      rintro e w5 ⟨ao5, c5, rfl, m5, b5⟩
      have hz5 := (unhide B3).size
      have M5 := hide (m5.mono hz5)
      have B5 := hide ((unhide B3).trans (b5.mono hz5))
      have H5 := hide ((b5.block w.heap.size (by omega)).trans (unhide H3))
      clear m5 b5 cX5
      obtain ⟨t0, t1, t2, t3, t4, t5, t6, t7⟩ := row8R (unhide H5)
      have KF := hide (fun (w' : World) (hb : Below w1.heap.size w5 w') => (show w'.cell? ⟨w.heap.size, 3, none⟩ = some (.int .u16 c.p) ∧ w'.cell? ⟨w.heap.size, 7, none⟩ = some (.slice xo xn xc) from ⟨(hb.cell (p := ⟨w.heap.size, 3, none⟩) (by simp only; omega)).trans t3, (hb.cell (p := ⟨w.heap.size, 7, none⟩) (by simp only; omega)).trans t7⟩))
      have hz5' := (unhide B5).size
      have cY := hide (fixed_ref ao5 (bn + 1 + 4) c5 (b ++ [c.k] ++ le c.s 4) c.p 2 w5.drew ((unhide M5).bs.later (below_drew _)) (by omega) (by omega) (by omega) (by omega) (by omega) (by have : (2 : Int) ^ (8 * (2 : Int).toNat) = 65536 := (by decide); omega))
      have hwp : IntKind.u64.wrap c.p = c.p := by rw [IntKind.wrap_u64]; omega
      rw [show (2 : Int).toNat = 2 from rfl] at cY
      have cZ := hide (fixed_ref ao5 (bn + 1 + 4) c5 (b ++ [c.k] ++ le c.s 4) c.p 2 w5 (unhide M5).bs (by omega) (by omega) (by omega) (by omega) (by omega) (by have : (2 : Int) ^ (8 * (2 : Int).toNat) = 65536 := (by decide); omega))
      rw [show (2 : Int).toNat = 2 from rfl] at cZ
      have DD := hide (fun (w' : World) (hb : Below w1.heap.size w1 w') => (unhide HDD).later ((unhide HB1).trans (hb.mono (by omega))))
      go_wp2_with fail
      go_region_held3 (fun w' => w'.cell? ⟨w.heap.size, 3, none⟩ = some (.int .u16 c.p) ∧ w'.cell? ⟨w.heap.size, 7, none⟩ = some (.slice xo xn xc)) (first | with_reducible exact unhide KF _ b8 | with_reducible exact unhide KF _ b7 | with_reducible exact unhide KF _ (Below.refl _ _) | with_reducible exact unhide KF _ (Below.refl _ _).drew | go_keep) (first | (go_at_call 31; (try rw [hwp]); (with_reducible refine (unhide cY).mono ?_); rintro e w7 ⟨ao7, c7, rfl, m7, b7'⟩; have b7 := ((below_drew w5).mono hz5').trans (b7'.mono hz5'); have m7 := m7.mono hz5') | (go_at_call 31; (try rw [hwp]); (with_reducible refine (unhide cZ).mono ?_); rintro e w7 ⟨ao7, c7, rfl, m7, b7'⟩; have b7 := b7'.mono hz5'; have m7 := m7.mono hz5') | (refine step_appK rfl (.tmp 67) (.tmp 69) rfl w1.heap.size ao7 (bn + 1 + 4 + 2) c7 (b ++ [c.k] ++ le c.s 4 ++ le c.p 2) (by simp [Act.eval, Act.put]) m7 xo xn xc c.d (by simp [Act.eval, Act.put]) (unhide DD _ ((unhide B5).trans b7)) (by omega) (Nat.le_trans hz5' b7.size) ?_; intro ao8 c8 w8 m8 g8; have b8 := b7.trans (mine_grown m7 (Nat.le_trans hz5' b7.size) g8)))
      have M8 := hide m8
      have B8 := hide ((unhide B5).trans b8)
      clear m7 m8 g8 b7 b8
      go_wp2_with fail
      go_ret2
      rw [unhide HR]
      exact ⟨_, _, _, rfl, (unhide M8).mono (by omega), (unhide HB1).trans ((unhide B8).mono (by omega))⟩
    · have HR := hide (show b ++ cmB c = b ++ [c.k] ++ le c.s 4 by rw [unhide HRES0]; simp [List.flatMap_cons, fb0, fb1, fb2, fb3, fb4, fb5, fb6, fb7])
      have cX5 := hide (fixed_ref ao3 (bn + 1) c3 (b ++ [c.k]) c.s 4 w3 (unhide M3).bs (by omega) (by omega) (by omega) (by omega) (by omega) (by have : (2 : Int) ^ (8 * (4 : Int).toNat) = 4294967296 := (by decide); omega))
      rw [show (4 : Int).toNat = 4 from rfl] at cX5
      go_wp2_with (go_at_call 30; refine same_world (unhide cS _) ?_)
      clear u0 u1 u2 u3 u4 u5 u6 u7
      refine (unhide cX5).mono ?_
      rintro e w5 ⟨ao5, c5, rfl, m5, b5⟩
      have hz5 := (unhide B3).size
      have M5 := hide (m5.mono hz5)
      have B5 := hide ((unhide B3).trans (b5.mono hz5))
      have H5 := hide ((b5.block w.heap.size (by omega)).trans (unhide H3))
      clear m5 b5 cX5
      obtain ⟨t0, t1, t2, t3, t4, t5, t6, t7⟩ := row8R (unhide H5)
      go_wp2_with fail
      go_ret2
      rw [unhide HR]
      exact ⟨_, _, _, rfl, (unhide M5).mono (by omega), (unhide HB1).trans ((unhide B5).mono (by omega))⟩
    · have HR := hide (show b ++ cmB c = b ++ [c.k] ++ le c.o 2 by rw [unhide HRES0]; simp [List.flatMap_cons, fb0, fb1, fb2, fb3, fb4, fb5, fb6, fb7])
      have cX5 := hide (fixed_ref ao3 (bn + 1) c3 (b ++ [c.k]) c.o 2 w3 (unhide M3).bs (by omega) (by omega) (by omega) (by omega) (by omega) (by have : (2 : Int) ^ (8 * (2 : Int).toNat) = 65536 := (by decide); omega))
      rw [show (2 : Int).toNat = 2 from rfl] at cX5
      go_wp2_with (go_at_call 30; refine same_world (unhide cS _) ?_)
      refine (unhide cX5).mono ?_
      rintro e w5 ⟨ao5, c5, rfl, m5, b5⟩
      have hz5 := (unhide B3).size
      have M5 := hide (m5.mono hz5)
      have B5 := hide ((unhide B3).trans (b5.mono hz5))
      have H5 := hide ((b5.block w.heap.size (by omega)).trans (unhide H3))
      clear m5 b5 cX5
      obtain ⟨t0, t1, t2, t3, t4, t5, t6, t7⟩ := row8R (unhide H5)
      go_wp2_with fail
      go_ret2
      rw [unhide HR]
      exact ⟨_, _, _, rfl, (unhide M5).mono (by omega), (unhide HB1).trans ((unhide B5).mono (by omega))⟩
    · have HR := hide (show b ++ cmB c = b ++ [c.k] ++ le c.s 4 ++ le c.n 4 by rw [unhide HRES0]; simp [List.flatMap_cons, fb0, fb1, fb2, fb3, fb4, fb5, fb6, fb7])
      have cX5 := hide (fixed_ref ao3 (bn + 1) c3 (b ++ [c.k]) c.s 4 w3 (unhide M3).bs (by omega) (by omega) (by omega) (by omega) (by omega) (by have : (2 : Int) ^ (8 * (4 : Int).toNat) = 4294967296 := (by decide); omega))
      rw [show (4 : Int).toNat = 4 from rfl] at cX5
      go_wp2_with (go_at_call 30; refine same_world (unhide cS _) ?_)
      clear u0 u1 u2 u3 u4 u5 u6 u7
      refine (unhide cX5).mono ?_
      rintro e w5 ⟨ao5, c5, rfl, m5, b5⟩
      have hz5 := (unhide B3).size
      have M5 := hide (m5.mono hz5)
      have B5 := hide ((unhide B3).trans (b5.mono hz5))
      have H5 := hide ((b5.block w.heap.size (by omega)).trans (unhide H3))
      clear m5 b5 cX5
      obtain ⟨t0, t1, t2, t3, t4, t5, t6, t7⟩ := row8R (unhide H5)
      have cX6 := hide (fixed_ref ao5 (bn + 1 + 4) c5 (b ++ [c.k] ++ le c.s 4) c.n 4 w5 (unhide M5).bs (by omega) (by omega) (by omega) (by omega) (by omega) (by have : (2 : Int) ^ (8 * (4 : Int).toNat) = 4294967296 := (by decide); omega))
      rw [show (4 : Int).toNat = 4 from rfl] at cX6
      go_wp2_with fail
      clear t0 t1 t2 t3 t4 t5 t6 t7
      refine (unhide cX6).mono ?_
      rintro e w6 ⟨ao6, c6, rfl, m6, b6⟩
      have hz6 := (unhide B5).size
      have M6 := hide (m6.mono hz6)
      have B6 := hide ((unhide B5).trans (b6.mono hz6))
      have H6 := hide ((b6.block w.heap.size (by omega)).trans (unhide H5))
      clear m6 b6 cX6
      obtain ⟨t0, t1, t2, t3, t4, t5, t6, t7⟩ := row8R (unhide H6)
      go_wp2_with fail
      go_ret2
      rw [unhide HR]
      exact ⟨_, _, _, rfl, (unhide M6).mono (by omega), (unhide HB1).trans ((unhide B6).mono (by omega))⟩
    · have HR := hide (show b ++ cmB c = b ++ [c.k] ++ c.d by rw [unhide HRES0]; simp [List.flatMap_cons, fb0, fb1, fb2, fb3, fb4, fb5, fb6, fb7])
      go_wp2_with (first | (go_at_call 30; refine same_world (unhide cS _) ?_) | (at_builtin; refine wpList_app rfl (.tmp 80) (.tmp 82) rfl w1.heap.size ao3 (bn + 1) c3 (b ++ [c.k]) (by simp [Act.eval, Act.put]) (unhide M3) xo xn xc c.d (by simp [Act.eval, Act.put]) (unhide HD3) (by omega) (unhide B3).size ?_; intro ao7 c7 w7 m7 b7; have M7 := hide m7; have B7 := hide ((unhide B3).trans b7); clear m7 b7))
      go_ret2
      rw [unhide HR]
      exact ⟨_, _, _, rfl, (unhide M7).mono (by omega), (unhide HB1).trans ((unhide B7).mono (by omega))⟩
end Go.Proofs.YtpidlfifipgadaaDoor
