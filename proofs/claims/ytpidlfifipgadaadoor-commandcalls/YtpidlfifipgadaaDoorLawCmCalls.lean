/-
  CommandCalls: any command is checked and written, and any kind named, as the document's answer says. Conditions: those of the statement; the library's table of powers of ten reads as its initialiser lays it.
-/
import Derived.Test.YtpidlfifipgadaaDoorCmRf4
import Derived.Test.YtpidlfifipgadaaDoorCmRf6
import Derived.Test.YtpidlfifipgadaaDoorCmRn
import Derived.Test.YtpidlfifipgadaaDoorCmAns
import Derived.Test.YtpidlfifipgadaaDoorKit
import Derived.Deep.RegionHeld3
import Derived.Deep.CutRange
import Derived.Deep.DeepCutAuto
namespace Go.Proofs.YtpidlfifipgadaaDoor
open Go.RowKit
set_option linter.unusedVariables false
set_option linter.unusedSimpArgs false

/-- What both Append tell. -/
def apL (b : List Int) (c : Cm) (xo : Option Addr) (xn xc : Nat) : List Int := if ckC (c.cd xo xn xc) = 0 then b ++ cmB c else []
theorem append_two (bo : Option Addr) (bn bc : Nat) (b : List Int) (c : Cm) (xo : Option Addr) (xn xc : Nat) (w : World) (hb : Bs w bo bn bc b) (hc : c.ok) (hd : Bs w xo xn xc c.d) (hsz : bn + 8 * (c.t.size + xn) + 1000 ≤ 1099511627776) :
    Calls Tryd.prog 12 #[.slice bo bn bc, .agg (c.cd xo xn xc).row] w fun e w' => ∃ so sn sc, e = .returned (.tuple #[.slice so sn sc, .int .i64 (ckC (c.cd xo xn xc))]) ∧ Bs w' so sn sc (apL b c xo xn xc) ∧ Below w.heap.size w w' := by
  refine (cmAppend_any bo bn bc b c xo xn xc w hb hc hd hsz).mono fun e w' h => ?_
  unfold apL
  rcases ckC_two (c.cd xo xn xc) with q | q
  · rw [if_pos q] at h ⊢
    obtain ⟨ao, n, c1, h1, h2, h3⟩ := h
    rw [q]
    exact ⟨_, _, _, h1, h2.bs, h3⟩
  · rw [if_neg (by omega)] at h ⊢
    rw [q]
    exact ⟨none, 0, 0, h.1, Bs.nought _, h.2⟩
theorem append_two_ref (bo : Option Addr) (bn bc : Nat) (b : List Int) (c : Cm) (xo : Option Addr) (xn xc : Nat) (w : World) (hb : Bs w bo bn bc b) (hc : c.ok) (hd : Bs w xo xn xc c.d) (hsz : bn + 8 * (c.t.size + xn) + 1000 ≤ 1099511627776) :
    Calls Tryd.prog 14 #[.slice bo bn bc, .agg (c.cd xo xn xc).row] w fun e w' => ∃ so sn sc, e = .returned (.tuple #[.slice so sn sc, .int .i64 (ckC (c.cd xo xn xc))]) ∧ Bs w' so sn sc (apL b c xo xn xc) ∧ Below w.heap.size w w' := by
  unfold apL
  rcases ckC_two (c.cd xo xn xc) with q | q
  · rw [if_pos q]
    refine (append_ref_ok bo bn bc b c xo xn xc w hb hc hd ((ck_iff c xo xn xc hd.len).1 q) hsz).mono fun e w' h => ?_
    obtain ⟨ao, n, c1, h1, h2, h3⟩ := h
    rw [q]
    exact ⟨_, _, _, h1, h2.bs, h3⟩
  · rw [if_neg (by omega), q]
    refine (append_ref_bad bo bn bc c xo xn xc w hd.len (fun h => by have := (ck_iff c xo xn xc hd.len).2 h; omega) hc.f.1).mono fun e w' h => ?_
    exact ⟨none, 0, 0, h.1, Bs.nought _, h.2⟩
theorem check_two_ref (c : Cm) (xo : Option Addr) (xn xc : Nat) (w : World) (hl : c.d.length = xn) (hf : 0 ≤ c.f) :
    Calls Tryd.prog 16 #[.agg (c.cd xo xn xc).row] w fun e w' => e = .returned (.int .i64 (ckC (c.cd xo xn xc))) ∧ Below w.heap.size w w' := by
  rcases ckC_two (c.cd xo xn xc) with q | q
  · rw [q]
    exact check_ref_ok c xo xn xc w hl ((ck_iff c xo xn xc hl).1 q)
  · rw [q]
    exact check_ref_bad c xo xn xc w hl (fun h => by have := (ck_iff c xo xn xc hl).2 h; omega) hf
theorem same_self' (bo : Option Addr) (m d : Nat) (ao : Option Addr) (n c : Nat) (l : List Int) (w : World) (h : Bs w ao n c l) (k : Bs w bo m d l) :
    Calls Tryd.prog 6 #[.slice ao n c, .slice bo m d] w fun e w' => e = .returned (.bool true) ∧ w' = w := same_self bo m d ao n c l w h k

set_option maxHeartbeats 16000000 in
set_option maxRecDepth 100000 in
theorem lawCmCalls (bo : Option Addr) (bn bc : Nat) (b : List Int) (c : Cm) (xo : Option Addr) (xn xc : Nat) (w : World) (hv : Vars w) (hb : Bs w bo bn bc b) (hc : c.ok) (hd : Bs w xo xn xc c.d) :
    Calls Tryd.prog 4 #[.slice bo bn bc, .agg (c.cd xo xn xc).row] w fun e w' => e = .returned (.bool true) ∧ Below w.heap.size w w' := by
  have hbl := hb.len
  have hbmx := hb.max
  have hble := hb.le
  have hdl := hd.len
  have hk := hc.k
  have hf := hc.f
  have HSM := hide (fun wx => small_any (c.cd xo xn xc) wx)
  have HAP := hide (fun so sn sc wx hbx hdx hsz => append_two so sn sc b c xo xn xc wx hbx hc hdx hsz)
  have HAR := hide (fun so sn sc wx hbx hdx hsz => append_two_ref so sn sc b c xo xn xc wx hbx hc hdx hsz)
  have HCK := hide (fun wx => cmCheck_any (c.cd xo xn xc) wx)
  have HCR := hide (fun wx => check_two_ref c xo xn xc wx hdl hf.1)
  have HNM := hide (fun wx hvx => name_any c.k wx hvx hk.1 hk.2)
  have HNR := hide (fun wx => name_ref c.k wx hk.1 hk.2)
  have HAN := hide (fun wx => answer_any c.k wx)
  have HAF := hide (fun wx => answer_ref c.k wx)
  have HAB := hide (fun wx => about_any c.k wx)
  have HAC := hide (fun wx => about_ref c.k wx)
  obtain ⟨SM, hSM⟩ : ∃ SM, SM = (decide ((c.cd xo xn xc).t.size ≤ 3000) && decide ((c.cd xo xn xc).dn ≤ 3000)) := ⟨_, rfl⟩
  have hST : SM = true → c.t.size ≤ 3000 ∧ xn ≤ 3000 := fun q => by
    rw [hSM, Bool.and_eq_true, decide_eq_true_eq, decide_eq_true_eq] at q
    exact q
  rw [← hSM] at HSM
  generalize hL : apL b c xo xn xc = L at *
  generalize hE : ckC (c.cd xo xn xc) = E at *
  generalize hM : nmS c.k = NM at *
  generalize hA : anP c.k = AN at *
  generalize hB : abt c.k = AB at *
  have HBB := hide hb
  have HDD := hide (show Bs w xo xn xc c.d from hd)
  have HV := hide hv
  clear hL hE hM hA hB hSM hb hd hc hv hk hf
  obtain ⟨K, T, S, P, F, N, O, D⟩ := c
  simp only [Cm.cd, Cd.row] at *
  have b0 := below_alloc w (.cells #[.int .u8 K, .string T, .int .u32 S, .int .u16 P, .int .u8 F, .int .u32 N, .int .u16 O, .slice xo xn xc] 26)
  have h0 := heap_alloc_new w (.cells #[.int .u8 K, .string T, .int .u32 S, .int .u16 P, .int .u8 F, .int .u32 N, .int .u16 O, .slice xo xn xc] 26)
  have z0 : (w.alloc (.cells #[.int .u8 K, .string T, .int .u32 S, .int .u16 P, .int .u8 F, .int .u32 N, .int .u16 O, .slice xo xn xc] 26)).heap.size = w.heap.size + 1 := by simp
  have H0 := hide h0
  have B0 := hide b0
  clear h0 b0
  go_enter Tryd.func4, Tryd.ntmps4
  go_wp2_with fail
  refine (cmLives_any _).mono ?_
  rintro e w1 ⟨rfl, b1⟩
  rw [z0] at b1
  have H1 := hide ((b1.block w.heap.size (by omega)).trans (unhide H0))
  have HB1 := hide ((unhide B0).trans (b1.mono (by omega)))
  have z1 := b1.size
  rw [z0] at z1
  clear b1
  have CL := hide (fun (w' : World) (hx : w'.heap[w.heap.size]? = some (.cells #[.int .u8 K, .string T, .int .u32 S, .int .u16 P, .int .u8 F, .int .u32 N, .int .u16 O, .slice xo xn xc] 26 (0, 0))) => (show w'.cell? ⟨w.heap.size, 0, none⟩ = some (.int .u8 K) ∧ w'.cell? ⟨w.heap.size, 1, none⟩ = some (.string T) ∧ w'.cell? ⟨w.heap.size, 2, none⟩ = some (.int .u32 S) ∧ w'.cell? ⟨w.heap.size, 3, none⟩ = some (.int .u16 P) ∧ w'.cell? ⟨w.heap.size, 4, none⟩ = some (.int .u8 F) ∧ w'.cell? ⟨w.heap.size, 5, none⟩ = some (.int .u32 N) ∧ w'.cell? ⟨w.heap.size, 6, none⟩ = some (.int .u16 O) ∧ w'.cell? ⟨w.heap.size, 7, none⟩ = some (.slice xo xn xc) from ⟨by rw [cell_of_row _ _ 0 _ _ _ hx]; rfl, by rw [cell_of_row _ _ 1 _ _ _ hx]; rfl, by rw [cell_of_row _ _ 2 _ _ _ hx]; rfl, by rw [cell_of_row _ _ 3 _ _ _ hx]; rfl, by rw [cell_of_row _ _ 4 _ _ _ hx]; rfl, by rw [cell_of_row _ _ 5 _ _ _ hx]; rfl, by rw [cell_of_row _ _ 6 _ _ _ hx]; rfl, by rw [cell_of_row _ _ 7 _ _ _ hx]; rfl⟩))
  by_cases hbig : (bn : Int) > 3000
  · go_wp2_with fail
    go_ret
    exact ⟨rfl, unhide HB1⟩
  · obtain ⟨u0, u1, u2, u3, u4, u5, u6, u7⟩ := unhide CL w1 (unhide H1)
    have cM := hide (unhide HSM w1)
    cases SM
    rotate_left
    · have hs := hST rfl
      go_wp2_with fail
      refine (unhide cM).mono ?_
      rintro e w2 ⟨rfl, b2⟩
      have z2 := b2.size
      have H2 := hide ((b2.block w.heap.size (by omega)).trans (unhide H1))
      have HB2 := hide ((unhide HB1).trans (b2.mono (unhide HB1).size))
      have KS := hide (fun (w' : World) (hx : Below w2.heap.size w2 w') => unhide CL w' ((hx.block w.heap.size (by omega)).trans (unhide H2)))
      have KB := hide (fun (w' : World) (hx : Below w2.heap.size w2 w') => (unhide HBB).later ((unhide HB2).trans (hx.mono (unhide HB2).size)))
      have KD := hide (fun (w' : World) (hx : Below w2.heap.size w2 w') => (unhide HDD).later ((unhide HB2).trans (hx.mono (unhide HB2).size)))
      have cO := hide (own_any bo bn bc b w2.drew (unhide KB _ (below_drew w2)) (by omega))
      have cP := hide (fun g wx (hx : Below w2.heap.size w2 wx) (ho : Bs wx (some ⟨g, 0, none⟩) (bn + 8) (bn + 8) (b ++ pad)) => unhide HAP (some ⟨g, 0, none⟩) bn (bn + 8) wx (ho.pre hbl) (unhide KD wx hx) (by omega))
      clear b2 cM u0 u1 u2 u3 u4 u5 u6 u7 HB1
      go_wp2_with fail
      go_region_held3 (fun w' => w'.cell? ⟨w.heap.size, 0, none⟩ = some (.int .u8 K) ∧ w'.cell? ⟨w.heap.size, 1, none⟩ = some (.string T) ∧ w'.cell? ⟨w.heap.size, 2, none⟩ = some (.int .u32 S) ∧ w'.cell? ⟨w.heap.size, 3, none⟩ = some (.int .u16 P) ∧ w'.cell? ⟨w.heap.size, 4, none⟩ = some (.int .u8 F) ∧ w'.cell? ⟨w.heap.size, 5, none⟩ = some (.int .u32 N) ∧ w'.cell? ⟨w.heap.size, 6, none⟩ = some (.int .u16 O) ∧ w'.cell? ⟨w.heap.size, 7, none⟩ = some (.slice xo xn xc)) (first | with_reducible exact unhide KS _ b4 | with_reducible exact unhide KS _ b3 | with_reducible exact unhide KS _ (Below.refl _ _) | with_reducible exact unhide KS _ (Below.drew (Below.refl _ _)) | go_keep) (first | (go_at_call 13; (with_reducible refine (unhide cO).mono ?_); rintro e w3 ⟨g, rfl, o3, b3'⟩; have b3 := (below_drew w2).trans b3') | (go_at_call 12; (with_reducible refine (unhide cP g w3 b3 o3).mono ?_); rintro e w4 ⟨so, sn, sc, rfl, s4, b4'⟩; have b4 := b3.trans (b4'.mono b3.size)))
      have B4 := hide b4
      have S4 := hide s4
      clear b3 b3' b4 b4' s4 o3 cO cP
      have cQ := hide (unhide HAR bo bn bc w4 (unhide KB _ (unhide B4)) (unhide KD _ (unhide B4)) (by omega))
      obtain ⟨v0, v1, v2, v3, v4, v5, v6, v7⟩ := unhide KS w4 (unhide B4)
      go_wp2_with fail
      refine (unhide cQ).mono ?_
      rintro e w6 ⟨ro, rn, rc, rfl, r6, b6⟩
      have B6 := hide ((unhide B4).trans (b6.mono (unhide B4).size))
      have z6 := (unhide B6).size
      have KT := hide (fun (w' : World) (hx : Below w6.heap.size w6 w') => unhide KS w' ((unhide B6).trans (hx.mono z6)))
      have KV := hide (fun (w' : World) (hx : Below w6.heap.size w6 w') => (unhide HV).later ((unhide HB2).trans (((unhide B6).trans (hx.mono z6)).mono (unhide HB2).size)))
      have HB6 := hide ((unhide HB2).trans ((unhide B6).mono (unhide HB2).size))
      have cS := hide (same_self ro rn rc so sn sc L w6.drew (((unhide S4).later b6).later (below_drew _)) (r6.later (below_drew _)))
      have dw := below_drew w6
      clear b6 r6 cQ v0 v1 v2 v3 v4 v5 v6 v7
      go_wp2_with fail
      go_region_held3 (fun w' => w'.cell? ⟨w.heap.size, 0, none⟩ = some (.int .u8 K) ∧ w'.cell? ⟨w.heap.size, 1, none⟩ = some (.string T) ∧ w'.cell? ⟨w.heap.size, 2, none⟩ = some (.int .u32 S) ∧ w'.cell? ⟨w.heap.size, 3, none⟩ = some (.int .u16 P) ∧ w'.cell? ⟨w.heap.size, 4, none⟩ = some (.int .u8 F) ∧ w'.cell? ⟨w.heap.size, 5, none⟩ = some (.int .u32 N) ∧ w'.cell? ⟨w.heap.size, 6, none⟩ = some (.int .u16 O) ∧ w'.cell? ⟨w.heap.size, 7, none⟩ = some (.slice xo xn xc)) (first | with_reducible exact unhide KT _ bM | with_reducible exact unhide KT _ bN | with_reducible exact unhide KT _ bD | with_reducible exact unhide KT _ bC | with_reducible exact unhide KT _ dw | with_reducible exact unhide KT _ (Below.refl _ _) | go_keep) (first | (go_at_call 6; (with_reducible refine (unhide cS).mono ?_); rintro e wS ⟨rfl, rfl⟩) | (go_at_call 15; (with_reducible refine (unhide HCK (w6.drew)).mono ?_); rintro e wC ⟨rfl, bC'⟩; have bC := dw.trans (bC'.mono dw.size)) | (go_at_call 15; (with_reducible refine (unhide HCK (wD)).mono ?_); rintro e wC ⟨rfl, bC'⟩; have bC := bD.trans (bC'.mono bD.size)) | (go_at_call 16; (with_reducible refine (unhide HCR (w6.drew)).mono ?_); rintro e wD ⟨rfl, bD'⟩; have bD := dw.trans (bD'.mono dw.size)) | (go_at_call 16; (with_reducible refine (unhide HCR (wC)).mono ?_); rintro e wD ⟨rfl, bD'⟩; have bD := bC.trans (bD'.mono bC.size)) | (go_at_call 9; (with_reducible refine (unhide HNM (wD) (unhide KV _ bD)).mono ?_); rintro e wN ⟨rfl, bN'⟩; have bN := bD.trans (bN'.mono bD.size)) | (go_at_call 9; (with_reducible refine (unhide HNM (wC) (unhide KV _ bC)).mono ?_); rintro e wN ⟨rfl, bN'⟩; have bN := bC.trans (bN'.mono bC.size)) | (go_at_call 9; (with_reducible refine (unhide HNM (wM) (unhide KV _ bM)).mono ?_); rintro e wN ⟨rfl, bN'⟩; have bN := bM.trans (bN'.mono bM.size)) | (go_at_call 17; (with_reducible refine (unhide HNR (wD)).mono ?_); rintro e wM ⟨rfl, bM'⟩; have bM := bD.trans (bM'.mono bD.size)) | (go_at_call 17; (with_reducible refine (unhide HNR (wC)).mono ?_); rintro e wM ⟨rfl, bM'⟩; have bM := bC.trans (bM'.mono bC.size)) | (go_at_call 17; (with_reducible refine (unhide HNR (wN)).mono ?_); rintro e wM ⟨rfl, bM'⟩; have bM := bN.trans (bM'.mono bN.size)) | (go_at_call 10; (with_reducible refine (unhide HAN wM).mono ?_); rintro e wZ ⟨rfl, hwZ⟩; have hwY := hwZ.symm; clear hwZ; subst hwY) | (go_at_call 10; (with_reducible refine (unhide HAN wN).mono ?_); rintro e wZ ⟨rfl, hwZ⟩; have hwY := hwZ.symm; clear hwZ; subst hwY) | (go_at_call 18; (with_reducible refine (unhide HAF wM).mono ?_); rintro e wZ ⟨rfl, hwZ⟩; have hwY := hwZ.symm; clear hwZ; subst hwY) | (go_at_call 18; (with_reducible refine (unhide HAF wN).mono ?_); rintro e wZ ⟨rfl, hwZ⟩; have hwY := hwZ.symm; clear hwZ; subst hwY) | (go_at_call 19; (with_reducible refine (unhide HAB wM).mono ?_); rintro e wZ ⟨rfl, hwZ⟩; have hwY := hwZ.symm; clear hwZ; subst hwY) | (go_at_call 19; (with_reducible refine (unhide HAB wN).mono ?_); rintro e wZ ⟨rfl, hwZ⟩; have hwY := hwZ.symm; clear hwZ; subst hwY) | (go_at_call 20; (with_reducible refine (unhide HAC wM).mono ?_); rintro e wZ ⟨rfl, hwZ⟩; have hwY := hwZ.symm; clear hwZ; subst hwY) | (go_at_call 20; (with_reducible refine (unhide HAC wN).mono ?_); rintro e wZ ⟨rfl, hwZ⟩; have hwY := hwZ.symm; clear hwZ; subst hwY))
      all_goals (go_wp2_with fail; go_ret; first | exact ⟨rfl, (unhide HB6).trans (bM.mono (unhide HB6).size)⟩ | exact ⟨rfl, (unhide HB6).trans (bN.mono (unhide HB6).size)⟩)
    · go_wp2_with fail
      refine (unhide cM).mono ?_
      rintro e w2 ⟨rfl, b2⟩
      have HB2 := hide ((unhide HB1).trans (b2.mono (unhide HB1).size))
      clear b2 cM
      go_wp2_with fail
      go_ret
      exact ⟨rfl, unhide HB2⟩

end Go.Proofs.YtpidlfifipgadaaDoor
