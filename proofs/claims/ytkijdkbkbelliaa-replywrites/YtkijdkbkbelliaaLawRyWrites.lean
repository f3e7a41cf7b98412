/-
  ReplyWrites walked: any reply is written as the document's own answer writes it, or refused as it refuses it. Conditions: the slices can be read; numbers within their kinds.
-/
import Derived.Test.YtkijdkbkbelliaaRySmall
import Derived.Test.YtkijdkbkbelliaaRyRfPr
import Derived.Test.YtkijdkbkbelliaaRyRfOk
import Derived.Test.YtkijdkbkbelliaaKit
import Derived.Deep.RegionHeld3
import Derived.Deep.CutRange
import Derived.Deep.DeepCutAuto
namespace Go.Proofs.Ytkijdkbkbelliaa
open Go.RowKit
set_option linter.unusedVariables false
set_option linter.unusedSimpArgs false

/-- What a writer leaves: the bytes, the error. -/
theorem OutP.two {w w' : World} {ok : Bool} {l : List Int} {e : Ending} (h : OutP w (if ok = true then some l else none) e w') : ∃ ao n k, e = .returned (.tuple #[.slice ao n k, .int .i64 (if ok = true then 0 else 2)]) ∧ Bs w' ao n k (if ok = true then l else []) ∧ Below w.heap.size w w' := by
  cases ok
  · rw [if_neg (by decide)] at h
    exact ⟨_, _, _, h.1, Bs.nought _, h.2⟩
  · rw [if_pos rfl] at h
    obtain ⟨ao, n, c, e1, hm, hb⟩ := h
    exact ⟨_, _, _, e1, hm.bs, hb⟩
theorem OutB.two {w w' : World} {l : List Int} {e : Ending} (h : OutB w l e w') : ∃ ao n k, e = .returned (.slice ao n k) ∧ Bs w' ao n k l ∧ Below w.heap.size w w' := by
  obtain ⟨ao, n, c, e1, hm, hb⟩ := h
  exact ⟨_, _, _, e1, hm.bs, hb⟩
/-- Bytes are themselves. -/
theorem same_self {l : List Int} (w : World) (ao : Option Addr) (n c : Nat) (bo : Option Addr) (m d : Nat) (h : Bs w ao n c l) (k : Bs w bo m d l) :
    Calls Try.prog 12 #[.slice ao n c, .slice bo m d] w fun e w' => e = .returned (.bool true) ∧ w' = w := by
  have q := sameBytes_any ao n c l bo m d l w h k
  rwa [decide_eq_true rfl] at q
theorem sml_of {r : Rp} {xn : Nat} (h : sml r xn = true) : r.ok.info.size ≤ 3000 ∧ xn ≤ 3000 ∧ r.er.st.size ≤ 3000 ∧ r.er.tx.size ≤ 3000 ∧ r.fi.size ≤ 3000 := by
  unfold sml at h
  simp only [Bool.and_eq_true, decide_eq_true_eq] at h
  exact ⟨h.1, h.2.1, h.2.2.1, h.2.2.2.1, h.2.2.2.2⟩

set_option maxHeartbeats 16000000 in
set_option maxRecDepth 100000 in
theorem lawRyWrites (bo : Option Addr) (bn bc : Nat) (b : List Int) (c : Int) (r : Rp) (xo : Option Addr) (xn xc : Nat) (w : World) (hb : Bs w bo bn bc b) (hx : Bs w xo xn xc r.ok.tr) (hK : RpK r) :
    Calls Try.prog 4 #[.slice bo bn bc, .int .u32 c, .agg (r.row xo xn xc)] w fun e w' => e = .returned (.bool true) ∧ Below w.heap.size w w' := by
  have HP := hide (Pk.new w (r.row xo xn xc))
  have cL := hide (lives_any (w.alloc (.cells (r.row xo xn xc) 50)))
  have hble := hb.le
  have hbmx := hb.max
  by_cases hbig : 3000 < bn
  · simp only [Rp.row] at *
    have q1 : (3000 : Int) < (bn : Int) := by omega
    clear hb hx hK
    go_enter Try.func4, Try.ntmps4
    go_wp2_with fail
    refine (unhide cL).mono ?_
    rintro e w1 ⟨rfl, b1⟩
    have HP1 := hide ((unhide HP).later b1)
    clear b1 cL HP
    go_wp2_with fail
    go_ret
    exact ⟨rfl, (unhide HP1).bel⟩
  have hbl := hb.len
  have hxl := hx.len
  have cM := hide (fun wx => small_any r xo xn xc wx (Nat.le_trans hx.le hx.max))
  have SM := hide (fun h => sml_of (r := r) (xn := xn) h)
  obtain ⟨Z, hZ⟩ : ∃ z, z = sml r xn := ⟨_, rfl⟩
  rw [← hZ] at cM SM
  have hn3 : bn ≤ 3000 := by omega
  have HB := hide hb
  have HX := hide hx
  have hxle := hx.le
  have hxmx := hx.max
  have HBL := hide hbl
  have HXL := hide hxl
  have SZ := hide (Try.rpSize r xo xn xc)
  have cO := hide (fun (wx : World) (hw : Below w.heap.size w wx) => own_any bo bn bc b wx (hb.later hw) (by omega))
  have q1 : ¬ ((3000 : Int) < (bn : Int)) := by omega
  have HK := hide hK
  clear hZ
  simp only [Rp.row] at *
  clear hb hx hK hbig hbl hxl
  go_enter Try.func4, Try.ntmps4
  go_wp2_with fail
  refine (unhide cL).mono ?_
  rintro e w1 ⟨rfl, b1⟩
  have HP1 := hide ((unhide HP).later b1)
  clear b1 cL HP
  have p0 := (unhide HP1).cell (j := 0) (v := .int .u64 r.ok.af) rfl
  have p1 := (unhide HP1).cell (j := 1) (v := .int .u64 r.ok.ins) rfl
  have p2 := (unhide HP1).cell (j := 2) (v := .int .u16 r.ok.st) rfl
  have p3 := (unhide HP1).cell (j := 3) (v := .int .u16 r.ok.wa) rfl
  have p4 := (unhide HP1).cell (j := 4) (v := .string r.ok.info) rfl
  have p5 := (unhide HP1).cell (j := 5) (v := .slice xo xn xc) rfl
  have p6 := (unhide HP1).cell (j := 6) (v := .bool r.la) rfl
  have p7 := (unhide HP1).cell (j := 7) (v := .int .u16 r.er.co) rfl
  have p8 := (unhide HP1).cell (j := 8) (v := .string r.er.st) rfl
  have p9 := (unhide HP1).cell (j := 9) (v := .string r.er.tx) rfl
  have p10 := (unhide HP1).cell (j := 10) (v := .int .u16 r.eo.wa) rfl
  have p11 := (unhide HP1).cell (j := 11) (v := .int .u16 r.eo.st) rfl
  have p12 := (unhide HP1).cell (j := 12) (v := .int .u32 r.pr.id) rfl
  have p13 := (unhide HP1).cell (j := 13) (v := .int .u16 r.pr.co) rfl
  have p14 := (unhide HP1).cell (j := 14) (v := .int .u16 r.pr.pa) rfl
  have p15 := (unhide HP1).cell (j := 15) (v := .int .u16 r.pr.wa) rfl
  have p16 := (unhide HP1).cell (j := 16) (v := .string r.fi) rfl
  go_wp2_with fail
  refine (unhide cM _).mono ?_
  rintro e w2 ⟨rfl, b2⟩
  have HP2 := hide ((unhide HP1).later b2)
  clear b2 cM HP1 p0 p1 p2 p3 p4 p5 p6 p7 p8 p9 p10 p11 p12 p13 p14 p15 p16
  cases Z
  · clear SM cO
    go_wp2_with fail
    go_ret
    exact ⟨rfl, (unhide HP2).bel⟩
  have SM1 := unhide SM rfl
  obtain ⟨sm1, sm2, sm3, sm4, sm5⟩ := SM1
  obtain ⟨E1, hE1⟩ : ∃ z : Int, z = if oOk c r.ok = true then 0 else 2 := ⟨_, rfl⟩
  obtain ⟨L1, hL1⟩ : ∃ z : List Int, z = if oOk c r.ok = true then b ++ okB c r.la r.ok else [] := ⟨_, rfl⟩
  obtain ⟨E2, hE2⟩ : ∃ z : Int, z = if eOk r.er = true then 0 else 2 := ⟨_, rfl⟩
  obtain ⟨L2, hL2⟩ : ∃ z : List Int, z = if eOk r.er = true then b ++ erB r.er else [] := ⟨_, rfl⟩
  obtain ⟨E3, hE3⟩ : ∃ z : Int, z = if fOk r.fi = true then 0 else 2 := ⟨_, rfl⟩
  obtain ⟨L3, hL3⟩ : ∃ z : List Int, z = if fOk r.fi = true then b ++ fiB r.fi else [] := ⟨_, rfl⟩
  have cP1 := hide (fun (wx : World) (hw : Below w.heap.size w wx) ao k (h : Bs wx ao bn k b) => (appendOk_any ao bn k b c r.ok r.la xo xn xc wx h ((unhide HX).later hw) (unhide HK).ok (by have := unhide HBL; have := unhide HXL; omega)).mono fun _ _ q => q.two)
  have cQ1 := hide (fun (wx : World) (hw : Below w.heap.size w wx) => (appendOk_ref bo bn bc b c r.ok r.la xo xn xc wx ((unhide HB).later hw) ((unhide HX).later hw) (unhide HK).ok (by have := unhide HBL; have := unhide HXL; omega)).mono fun _ _ q => q.two)
  have cP2 := hide (fun (wx : World) ao k (h : Bs wx ao bn k b) => (appendErr_any ao bn k b r.er wx h (unhide HK).er (by have := unhide HBL; have := unhide HXL; omega)).mono fun _ _ q => q.two)
  have cQ2 := hide (fun (wx : World) (hw : Below w.heap.size w wx) => (appendErr_ref bo bn bc b r.er wx ((unhide HB).later hw) (unhide HK).er (by have := unhide HBL; have := unhide HXL; omega)).mono fun _ _ q => q.two)
  have cP3 := hide (fun (wx : World) ao k (h : Bs wx ao bn k b) => (appendFile_any ao bn k b r.fi wx h (by have := unhide HBL; have := unhide HXL; omega)).mono fun _ _ q => q.two)
  have cQ3 := hide (fun (wx : World) (hw : Below w.heap.size w wx) => (appendFile_ref bo bn bc b r.fi wx ((unhide HB).later hw) (by have := unhide HBL; have := unhide HXL; omega)).mono fun _ _ q => q.two)
  have cP4 := hide (fun (wx : World) ao k (h : Bs wx ao bn k b) => (appendEof_any ao bn k b r.eo wx h (unhide HK).eo (by have := unhide HBL; have := unhide HXL; omega)).mono fun _ _ q => q.two)
  have cQ4 := hide (fun (wx : World) (hw : Below w.heap.size w wx) => (appendEof_ref bo bn bc b r.eo wx ((unhide HB).later hw) (unhide HK).eo (by have := unhide HBL; have := unhide HXL; omega)).mono fun _ _ q => q.two)
  have cP5 := hide (fun (wx : World) ao k (h : Bs wx ao bn k b) => (appendPrepared_any ao bn k b r.pr wx h (unhide HK).pr (by have := unhide HBL; have := unhide HXL; omega)).mono fun _ _ q => q.two)
  have cQ5 := hide (fun (wx : World) (hw : Below w.heap.size w wx) => (appendPrepared_ref bo bn bc b r.pr wx ((unhide HB).later hw) (unhide HK).pr (by have := unhide HBL; have := unhide HXL; omega)).mono fun _ _ q => q.two)
  simp only [← hE1, ← hL1] at cP1 cQ1
  simp only [← hE2, ← hL2] at cP2 cQ2
  simp only [← hE3, ← hL3] at cP3 cQ3
  generalize b ++ eoB r.eo = L4 at *
  generalize b ++ prB r.pr = L5 at *
  clear SM hE1 hL1 hE2 hL2 hE3 hL3 sm1 sm2 sm3 sm4 sm5 HK
  have KC := hide (fun (w' : World) (hb : Below w2.heap.size w2 w') => (show w'.cell? ⟨w.heap.size, 0, none⟩ = some (.int .u64 r.ok.af) ∧ w'.cell? ⟨w.heap.size, 1, none⟩ = some (.int .u64 r.ok.ins) ∧ w'.cell? ⟨w.heap.size, 2, none⟩ = some (.int .u16 r.ok.st) ∧ w'.cell? ⟨w.heap.size, 3, none⟩ = some (.int .u16 r.ok.wa) ∧ w'.cell? ⟨w.heap.size, 4, none⟩ = some (.string r.ok.info) ∧ w'.cell? ⟨w.heap.size, 5, none⟩ = some (.slice xo xn xc) ∧ w'.cell? ⟨w.heap.size, 6, none⟩ = some (.bool r.la) from (have h := (unhide HP2).later hb; ⟨h.cell (j := 0) rfl, h.cell (j := 1) rfl, h.cell (j := 2) rfl, h.cell (j := 3) rfl, h.cell (j := 4) rfl, h.cell (j := 5) rfl, h.cell (j := 6) rfl⟩)))
  have bz := Below.refl w2.heap.size w2
  go_wp2_with fail
  go_region_held3 (fun w' => w'.cell? ⟨w.heap.size, 0, none⟩ = some (.int .u64 r.ok.af) ∧ w'.cell? ⟨w.heap.size, 1, none⟩ = some (.int .u64 r.ok.ins) ∧ w'.cell? ⟨w.heap.size, 2, none⟩ = some (.int .u16 r.ok.st) ∧ w'.cell? ⟨w.heap.size, 3, none⟩ = some (.int .u16 r.ok.wa) ∧ w'.cell? ⟨w.heap.size, 4, none⟩ = some (.string r.ok.info) ∧ w'.cell? ⟨w.heap.size, 5, none⟩ = some (.slice xo xn xc) ∧ w'.cell? ⟨w.heap.size, 6, none⟩ = some (.bool r.la)) (first | exact unhide KC _ bA | exact unhide KC _ bO | (refine unhide KC _ ?_; (repeat' (first | with_reducible exact bA | with_reducible exact bO | with_reducible exact bz | with_reducible exact Below.refl _ _ | with_reducible refine Below.drew ?_)); done) | go_keep) (first | (go_at_call 20; refine (unhide cO _ ((unhide HP2).later bz).bel).mono ?_; rintro e wO ⟨gO, rfl, oO, bO0⟩; have bO := bup bz bO0) | (go_at_call 20; refine (unhide cO _ ((unhide HP2).later (Below.drew bz)).bel).mono ?_; rintro e wO ⟨gO, rfl, oO, bO0⟩; have bO := bup (Below.drew bz) bO0) | (go_at_call 9; refine (unhide cP1 _ ((unhide HP2).later bO).bel _ _ (oO.pre (unhide HBL))).mono ?_; rintro e wA ⟨aA, nA, kA, rfl, mA, bA0⟩; have bA := bup bO bA0) | (go_at_call 9; refine (unhide cP1 _ ((unhide HP2).later (Below.drew bO)).bel _ _ ((oO.later (below_drew _)).pre (unhide HBL))).mono ?_; rintro e wA ⟨aA, nA, kA, rfl, mA, bA0⟩; have bA := bup (Below.drew bO) bA0))
  have HPA := hide ((unhide HP2).later bA)
  have MA := hide mA
  have p0 := (unhide HPA).cell (j := 0) (v := .int .u64 r.ok.af) rfl
  have p1 := (unhide HPA).cell (j := 1) (v := .int .u64 r.ok.ins) rfl
  have p2 := (unhide HPA).cell (j := 2) (v := .int .u16 r.ok.st) rfl
  have p3 := (unhide HPA).cell (j := 3) (v := .int .u16 r.ok.wa) rfl
  have p4 := (unhide HPA).cell (j := 4) (v := .string r.ok.info) rfl
  have p5 := (unhide HPA).cell (j := 5) (v := .slice xo xn xc) rfl
  have p6 := (unhide HPA).cell (j := 6) (v := .bool r.la) rfl
  clear mA bA bA0 bO bO0 oO bz KC HP2 cP1
  go_wp2_with fail
  clear p0 p1 p2 p3 p4 p5 p6
  refine (unhide cQ1 _ (unhide HPA).bel).mono ?_
  rintro e w3 ⟨aB, nB, kB, rfl, mB, bB⟩
  have HP3 := hide ((unhide HPA).later bB)
  have cS := hide (sameBytes_any aA nA kA L1 aB nB kB L1 w3 ((unhide MA).later bB) mB)
  rw [decide_eq_true rfl] at cS
  clear bB mB MA HPA cQ1
  go_wp2_with fail
  refine same_world (unhide cS) ?_
  clear cS
  have KC := hide (fun (w' : World) (hb : Below w3.heap.size w3 w') => (show w'.cell? ⟨w.heap.size, 7, none⟩ = some (.int .u16 r.er.co) ∧ w'.cell? ⟨w.heap.size, 8, none⟩ = some (.string r.er.st) ∧ w'.cell? ⟨w.heap.size, 9, none⟩ = some (.string r.er.tx) from (have h := (unhide HP3).later hb; ⟨h.cell (j := 7) rfl, h.cell (j := 8) rfl, h.cell (j := 9) rfl⟩)))
  have bz := Below.refl w3.heap.size w3
  go_wp2_with fail
  go_region_held3 (fun w' => w'.cell? ⟨w.heap.size, 7, none⟩ = some (.int .u16 r.er.co) ∧ w'.cell? ⟨w.heap.size, 8, none⟩ = some (.string r.er.st) ∧ w'.cell? ⟨w.heap.size, 9, none⟩ = some (.string r.er.tx)) (first | exact unhide KC _ bA | exact unhide KC _ bO | (refine unhide KC _ ?_; (repeat' (first | with_reducible exact bA | with_reducible exact bO | with_reducible exact bz | with_reducible exact Below.refl _ _ | with_reducible refine Below.drew ?_)); done) | go_keep) (first | (go_at_call 20; refine (unhide cO _ ((unhide HP3).later bz).bel).mono ?_; rintro e wO ⟨gO, rfl, oO, bO0⟩; have bO := bup bz bO0) | (go_at_call 20; refine (unhide cO _ ((unhide HP3).later (Below.drew bz)).bel).mono ?_; rintro e wO ⟨gO, rfl, oO, bO0⟩; have bO := bup (Below.drew bz) bO0) | (go_at_call 22; refine (unhide cP2 _ _ _ (oO.pre (unhide HBL))).mono ?_; rintro e wA ⟨aA, nA, kA, rfl, mA, bA0⟩; have bA := bup bO bA0) | (go_at_call 22; refine (unhide cP2 _ _ _ ((oO.later (below_drew _)).pre (unhide HBL))).mono ?_; rintro e wA ⟨aA, nA, kA, rfl, mA, bA0⟩; have bA := bup (Below.drew bO) bA0))
  have HPA := hide ((unhide HP3).later bA)
  have MA := hide mA
  have p7 := (unhide HPA).cell (j := 7) (v := .int .u16 r.er.co) rfl
  have p8 := (unhide HPA).cell (j := 8) (v := .string r.er.st) rfl
  have p9 := (unhide HPA).cell (j := 9) (v := .string r.er.tx) rfl
  clear mA bA bA0 bO bO0 oO bz KC HP3 cP2
  go_wp2_with fail
  clear p7 p8 p9
  refine (unhide cQ2 _ (unhide HPA).bel).mono ?_
  rintro e w4 ⟨aB, nB, kB, rfl, mB, bB⟩
  have HP4 := hide ((unhide HPA).later bB)
  have cS := hide (sameBytes_any aA nA kA L2 aB nB kB L2 w4 ((unhide MA).later bB) mB)
  rw [decide_eq_true rfl] at cS
  clear bB mB MA HPA cQ2
  go_wp2_with fail
  refine same_world (unhide cS) ?_
  clear cS
  have KC := hide (fun (w' : World) (hb : Below w4.heap.size w4 w') => (show w'.cell? ⟨w.heap.size, 16, none⟩ = some (.string r.fi) from (have h := (unhide HP4).later hb; h.cell (j := 16) rfl)))
  have bz := Below.refl w4.heap.size w4
  go_wp2_with fail
  go_region_held3 (fun w' => w'.cell? ⟨w.heap.size, 16, none⟩ = some (.string r.fi)) (first | exact unhide KC _ bA | exact unhide KC _ bO | (refine unhide KC _ ?_; (repeat' (first | with_reducible exact bA | with_reducible exact bO | with_reducible exact bz | with_reducible exact Below.refl _ _ | with_reducible refine Below.drew ?_)); done) | go_keep) (first | (go_at_call 20; refine (unhide cO _ ((unhide HP4).later bz).bel).mono ?_; rintro e wO ⟨gO, rfl, oO, bO0⟩; have bO := bup bz bO0) | (go_at_call 20; refine (unhide cO _ ((unhide HP4).later (Below.drew bz)).bel).mono ?_; rintro e wO ⟨gO, rfl, oO, bO0⟩; have bO := bup (Below.drew bz) bO0) | (go_at_call 14; refine (unhide cP3 _ _ _ (oO.pre (unhide HBL))).mono ?_; rintro e wA ⟨aA, nA, kA, rfl, mA, bA0⟩; have bA := bup bO bA0) | (go_at_call 14; refine (unhide cP3 _ _ _ ((oO.later (below_drew _)).pre (unhide HBL))).mono ?_; rintro e wA ⟨aA, nA, kA, rfl, mA, bA0⟩; have bA := bup (Below.drew bO) bA0))
  have HPA := hide ((unhide HP4).later bA)
  have MA := hide mA
  have p16 := (unhide HPA).cell (j := 16) (v := .string r.fi) rfl
  clear mA bA bA0 bO bO0 oO bz KC HP4 cP3
  go_wp2_with fail
  clear p16
  refine (unhide cQ3 _ (unhide HPA).bel).mono ?_
  rintro e w5 ⟨aB, nB, kB, rfl, mB, bB⟩
  have HP5 := hide ((unhide HPA).later bB)
  have cS := hide (sameBytes_any aA nA kA L3 aB nB kB L3 w5 ((unhide MA).later bB) mB)
  rw [decide_eq_true rfl] at cS
  have KC := hide (fun (w' : World) (hb : Below w5.heap.size w5 w') => (show w'.cell? ⟨w.heap.size, 10, none⟩ = some (.int .u16 r.eo.wa) ∧ w'.cell? ⟨w.heap.size, 11, none⟩ = some (.int .u16 r.eo.st) ∧ w'.cell? ⟨w.heap.size, 12, none⟩ = some (.int .u32 r.pr.id) ∧ w'.cell? ⟨w.heap.size, 13, none⟩ = some (.int .u16 r.pr.co) ∧ w'.cell? ⟨w.heap.size, 14, none⟩ = some (.int .u16 r.pr.pa) ∧ w'.cell? ⟨w.heap.size, 15, none⟩ = some (.int .u16 r.pr.wa) from (have h := (unhide HP5).later hb; ⟨h.cell (j := 10) rfl, h.cell (j := 11) rfl, h.cell (j := 12) rfl, h.cell (j := 13) rfl, h.cell (j := 14) rfl, h.cell (j := 15) rfl⟩)))
  have cS := hide (fun (wx : World) (hw : Below w5.heap.size w5 wx) => same_self wx aA nA kA aB nB kB (((unhide MA).later bB).later hw) (mB.later hw))
  have bz := Below.refl w5.heap.size w5
  have ee3 : (E3 == E3) = true := by simp
  clear bB mB MA HPA cQ3
  go_wp2_with fail
  go_region_held3 (fun w' => w'.cell? ⟨w.heap.size, 10, none⟩ = some (.int .u16 r.eo.wa) ∧ w'.cell? ⟨w.heap.size, 11, none⟩ = some (.int .u16 r.eo.st) ∧ w'.cell? ⟨w.heap.size, 12, none⟩ = some (.int .u32 r.pr.id) ∧ w'.cell? ⟨w.heap.size, 13, none⟩ = some (.int .u16 r.pr.co) ∧ w'.cell? ⟨w.heap.size, 14, none⟩ = some (.int .u16 r.pr.pa) ∧ w'.cell? ⟨w.heap.size, 15, none⟩ = some (.int .u16 r.pr.wa)) (first | exact unhide KC _ bz | exact unhide KC _ (Below.drew bz) | go_keep) (first | (go_at_call 12; with_reducible show Calls Try.prog 12 #[.slice aA _ kA, .slice aB _ kB] _ _; refine same_world (unhide cS _ bz) ?_) | (go_at_call 12; with_reducible show Calls Try.prog 12 #[.slice aA _ kA, .slice aB _ kB] _ _; refine same_world (unhide cS _ (Below.drew bz)) ?_) | (go_at_call 20; refine (unhide cO _ ((unhide HP5).later bz).bel).mono ?_; rintro e wO ⟨gO, rfl, oO, bN⟩; (try have rE := rE.later bN); (try have rR := rR.later bN); (try have rF := rF.later bN); (try have rG := rG.later bN); have bz := bup bz bN) | (go_at_call 20; refine (unhide cO _ ((unhide HP5).later (Below.drew bz)).bel).mono ?_; rintro e wO ⟨gO, rfl, oO, bN⟩; (try have rE := rE.later ((below_drew _).trans bN)); (try have rR := rR.later ((below_drew _).trans bN)); (try have rF := rF.later ((below_drew _).trans bN)); (try have rG := rG.later ((below_drew _).trans bN)); have bz := bup (Below.drew bz) bN) | (go_at_call 13; refine (unhide cP4 _ _ _ (oO.pre (unhide HBL))).mono ?_; rintro e wE ⟨aE, nE, kE, rfl, rE, bN⟩; (try have rR := rR.later bN); have bz := bup bz bN) | (go_at_call 13; refine (unhide cP4 _ _ _ ((oO.later (below_drew _)).pre (unhide HBL))).mono ?_; rintro e wE ⟨aE, nE, kE, rfl, rE, bN⟩; (try have rR := rR.later ((below_drew _).trans bN)); have bz := bup (Below.drew bz) bN) | (go_at_call 25; refine (unhide cQ4 _ ((unhide HP5).later bz).bel).mono ?_; rintro e wE ⟨aR, nR, kR, rfl, rR, bN⟩; (try have oO := oO.later bN); (try have rE := rE.later bN); have bz := bup bz bN) | (go_at_call 25; refine (unhide cQ4 _ ((unhide HP5).later (Below.drew bz)).bel).mono ?_; rintro e wE ⟨aR, nR, kR, rfl, rR, bN⟩; (try have oO := oO.later ((below_drew _).trans bN)); (try have rE := rE.later ((below_drew _).trans bN)); have bz := bup (Below.drew bz) bN) | (go_at_call 26; refine (unhide cP5 _ _ _ (oO.pre (unhide HBL))).mono ?_; rintro e wE ⟨aF, nF, kF, rfl, rF, bN⟩; (try have rG := rG.later bN); have bz := bup bz bN) | (go_at_call 26; refine (unhide cP5 _ _ _ ((oO.later (below_drew _)).pre (unhide HBL))).mono ?_; rintro e wE ⟨aF, nF, kF, rfl, rF, bN⟩; (try have rG := rG.later ((below_drew _).trans bN)); have bz := bup (Below.drew bz) bN) | (go_at_call 27; refine (unhide cQ5 _ ((unhide HP5).later bz).bel).mono ?_; rintro e wE ⟨aG, nG, kG, rfl, rG, bN⟩; (try have oO := oO.later bN); (try have rF := rF.later bN); have bz := bup bz bN) | (go_at_call 27; refine (unhide cQ5 _ ((unhide HP5).later (Below.drew bz)).bel).mono ?_; rintro e wE ⟨aG, nG, kG, rfl, rG, bN⟩; (try have oO := oO.later ((below_drew _).trans bN)); (try have rF := rF.later ((below_drew _).trans bN)); have bz := bup (Below.drew bz) bN) | (go_at_call 12; with_reducible show Calls Try.prog 12 #[.slice aE _ kE, .slice aR _ kR] _ _; refine same_world (same_self _ _ _ _ _ _ _ rE rR) ?_) | (go_at_call 12; with_reducible show Calls Try.prog 12 #[.slice aE _ kE, .slice aR _ kR] _ _; refine same_world (same_self _ _ _ _ _ _ _ (rE.later (below_drew _)) (rR.later (below_drew _))) ?_) | (go_at_call 12; with_reducible show Calls Try.prog 12 #[.slice aF _ kF, .slice aG _ kG] _ _; refine same_world (same_self _ _ _ _ _ _ _ rF rG) ?_) | (go_at_call 12; with_reducible show Calls Try.prog 12 #[.slice aF _ kF, .slice aG _ kG] _ _; refine same_world (same_self _ _ _ _ _ _ _ (rF.later (below_drew _)) (rG.later (below_drew _))) ?_))
  all_goals have BQ := hide ((unhide HP5).later bz).bel
  all_goals go_wp2_with fail
  all_goals go_ret
  all_goals exact ⟨rfl, unhide BQ⟩

end Go.Proofs.Ytkijdkbkbelliaa
