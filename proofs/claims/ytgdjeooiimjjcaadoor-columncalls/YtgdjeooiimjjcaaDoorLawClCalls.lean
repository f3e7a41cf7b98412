/-
  ColumnCalls walked: any column, any count, is checked and written, and any type named, as the document's own answer does. Conditions: the library's table of powers of ten reads as its initialiser lays it; numbers within their kinds.
-/
import Derived.Test.YtgdjeooiimjjcaaDoorClRa
import Derived.Test.YtgdjeooiimjjcaaDoorClNd
import Derived.Test.YtgdjeooiimjjcaaDoorClLives
import Derived.Test.YtgdjeooiimjjcaaDoorClCs
import Derived.Test.YtgdjeooiimjjcaaDoorClEq2
import Derived.Test.YtgdjeooiimjjcaaDoorKit
import Derived.Deep.RegionHeld3
namespace Go.Proofs.YtgdjeooiimjjcaaDoor
open Go.RowKit
set_option linter.unusedVariables false
set_option linter.unusedSimpArgs false

/-- What a writer returns, in one: bytes (none, where there is an error), the error. -/
theorem OutP.two {w w' : World} {ok : Bool} {l : List Int} {e : Ending} (h : OutP w (if ok = true then some l else none) e w') :
    ∃ ao n c, e = .returned (.tuple #[.slice ao n c, .int .i64 (if ok = true then 0 else 2)]) ∧ Bs w' ao n c (if ok = true then l else []) ∧ Below w.heap.size w w' := by
  cases ok
  · rw [if_neg (by decide)] at h ⊢
    rw [if_neg (by decide)]
    exact ⟨none, 0, 0, h.1, Bs.nought w', h.2⟩
  · rw [if_pos rfl] at h ⊢
    rw [if_pos rfl]
    obtain ⟨ao, n, c, e1, m, b⟩ := h
    exact ⟨ao, n, c, e1, m.bs, b⟩
theorem same_self (bo : Option Addr) (m d : Nat) (ao : Option Addr) (n c : Nat) (l : List Int) (w : World) (h : Bs w ao n c l) (k : Bs w bo m d l) :
    Calls Tryd.prog 9 #[.slice ao n c, .slice bo m d] w fun e w' => e = .returned (.bool true) ∧ w' = w :=
  (sameBytes_any ao n c l bo m d l w h k).mono fun e w' ⟨h1, h2⟩ => ⟨by rw [h1, decide_eq_true rfl], h2⟩

set_option maxHeartbeats 16000000 in
set_option maxRecDepth 100000 in
theorem lawClCalls (bo : Option Addr) (bn bc : Nat) (b : List Int) (p : Co) (n : Int) (w : World) (hv : Vars w) (hb : Bs w bo bn bc b) (hK : CoK p) :
    Calls Tryd.prog 4 #[.slice bo bn bc, .agg #[.string p.sc, .string p.ta, .string p.ot, .string p.na, .string p.on, .int .u16 p.ch, .int .u32 p.le, .int .u8 p.ty, .int .u16 p.fl, .int .u8 p.de], .int .i64 n] w fun e w' => e = .returned (.bool true) ∧ Below w.heap.size w w' := by
  obtain ⟨w1, hw1⟩ : ∃ z, z = w.alloc (.cells #[.string p.sc, .string p.ta, .string p.ot, .string p.na, .string p.on, .int .u16 p.ch, .int .u32 p.le, .int .u8 p.ty, .int .u16 p.fl, .int .u8 p.de] 35) := ⟨_, rfl⟩
  have S1 := hide (show Cs w p w1 from ⟨by rw [hw1]; exact heap_alloc_new w _, by rw [hw1]; exact below_alloc w _⟩)
  have HW := hide hw1
  have SZ := hide (show (Tryd.prog.info? 35).map (·.size) = some (#[.string p.sc, .string p.ta, .string p.ot, .string p.na, .string p.on, .int .u16 p.ch, .int .u32 p.le, .int .u8 p.ty, .int .u16 p.fl, .int .u8 p.de] : Array Value).size by kernel_rfl)
  have cL := hide (lives_any w1)
  have hble := hb.le
  have hbmx := hb.max
  by_cases hbig : 3000 < bn
  · have q1 : (3000 : Int) < (bn : Int) := by omega
    clear hb hK hw1
    go_enter Tryd.func4, Tryd.ntmps4
    go_wp2_with fail
    rw [← unhide HW]
    refine (unhide cL).mono ?_
    rintro e w2 ⟨rfl, b2⟩
    have S2 := hide ((unhide S1).later b2)
    clear b2 cL S1
    go_wp2_with fail
    go_ret
    exact ⟨rfl, (unhide S2).bel⟩
  have q1 : ¬ ((3000 : Int) < (bn : Int)) := by omega
  have hbl := hb.len
  have hn3 : bn ≤ 3000 := by omega
  have cS := hide (fun wx => small_any p wx)
  obtain ⟨E1, hE1⟩ : ∃ z : Int, z = if cOk p = true then 0 else 2 := ⟨_, rfl⟩
  obtain ⟨L1, hL1⟩ : ∃ z : List Int, z = if cOk p = true then b ++ coB p else [] := ⟨_, rfl⟩
  obtain ⟨E2, hE2⟩ : ∃ z : Int, z = if nOk n = true then 0 else 2 := ⟨_, rfl⟩
  obtain ⟨L2, hL2⟩ : ∃ z : List Int, z = if nOk n = true then b ++ form n else [] := ⟨_, rfl⟩
  have cO := hide (fun (wx : World) (hw : Below w.heap.size w wx) => own_any bo bn bc b wx (hb.later hw) (by omega))
  have pA := hide (fun (wx : World) g (h : Bs wx (some ⟨g, 0, none⟩) (bn + 8) (bn + 8) (b ++ pad)) => (append_any (some ⟨g, 0, none⟩) bn (bn + 8) b p wx (h.pre hbl) hK (by omega)).mono fun _ _ q => q.two)
  have rA := hide (fun (wx : World) (hw : Below w.heap.size w wx) => (append_ref bo bn bc b p wx (hb.later hw) hK (by omega)).mono fun _ _ q => q.two)
  have pN := hide (fun (wx : World) g (h : Bs wx (some ⟨g, 0, none⟩) (bn + 8) (bn + 8) (b ++ pad)) => (appendCount_any (some ⟨g, 0, none⟩) bn (bn + 8) b n wx (h.pre hbl) (by omega)).mono fun _ _ q => q.two)
  have rN := hide (fun (wx : World) (hw : Below w.heap.size w wx) => (appendCount_ref bo bn bc b n wx (hb.later hw) (by omega)).mono fun _ _ q => q.two)
  have pC := hide (fun wx => check_any p wx hK)
  have rC := hide (fun wx => check_ref p wx hK)
  have pM := hide (fun wx (h : Vars wx) => name_any p.ty wx h hK.ty.1 hK.ty.2)
  have rM := hide (fun wx => rname_ref p.ty wx hK.ty.1 hK.ty.2)
  have pK := hide (fun wx => known_any p.ty wx hK.ty.1 hK.ty.2)
  have rK := hide (fun wx => known_ref p.ty wx hK.ty.1 hK.ty.2)
  simp only [← hE1, ← hL1] at pA rA pC rC
  simp only [← hE2, ← hL2] at pN rN
  generalize nmS p.ty = NM at *
  generalize kn p.ty = KN at *
  have HV := hide hv
  clear hE1 hL1 hE2 hL2 hb hK hbl hw1 hv hbig
  go_enter Tryd.func4, Tryd.ntmps4
  go_wp2_with fail
  rw [← unhide HW]
  refine (unhide cL).mono ?_
  rintro e w2 ⟨rfl, b2⟩
  have S2 := hide ((unhide S1).later b2)
  clear b2 cL S1 HW
  have k0 := row_cell (unhide S2).row (j := 0) (v := .string p.sc) rfl
  have k1 := row_cell (unhide S2).row (j := 1) (v := .string p.ta) rfl
  have k2 := row_cell (unhide S2).row (j := 2) (v := .string p.ot) rfl
  have k3 := row_cell (unhide S2).row (j := 3) (v := .string p.na) rfl
  have k4 := row_cell (unhide S2).row (j := 4) (v := .string p.on) rfl
  have k5 := row_cell (unhide S2).row (j := 5) (v := .int .u16 p.ch) rfl
  have k6 := row_cell (unhide S2).row (j := 6) (v := .int .u32 p.le) rfl
  have k7 := row_cell (unhide S2).row (j := 7) (v := .int .u8 p.ty) rfl
  have k8 := row_cell (unhide S2).row (j := 8) (v := .int .u16 p.fl) rfl
  have k9 := row_cell (unhide S2).row (j := 9) (v := .int .u8 p.de) rfl
  go_wp2_with fail
  refine (unhide cS _).mono ?_
  rintro e w3 ⟨B, rfl, b3⟩
  have S3 := hide ((unhide S2).later b3)
  clear b3 cS S2 k0 k1 k2 k3 k4 k5 k6 k7 k8 k9
  cases B
  · go_wp2_with fail
    go_ret
    exact ⟨rfl, (unhide S3).bel⟩
  have KC := hide (fun (w' : World) (hb : Below w3.heap.size w3 w') => (show w'.cell? ⟨w.heap.size, 0, none⟩ = some (.string p.sc) ∧ w'.cell? ⟨w.heap.size, 1, none⟩ = some (.string p.ta) ∧ w'.cell? ⟨w.heap.size, 2, none⟩ = some (.string p.ot) ∧ w'.cell? ⟨w.heap.size, 3, none⟩ = some (.string p.na) ∧ w'.cell? ⟨w.heap.size, 4, none⟩ = some (.string p.on) ∧ w'.cell? ⟨w.heap.size, 5, none⟩ = some (.int .u16 p.ch) ∧ w'.cell? ⟨w.heap.size, 6, none⟩ = some (.int .u32 p.le) ∧ w'.cell? ⟨w.heap.size, 7, none⟩ = some (.int .u8 p.ty) ∧ w'.cell? ⟨w.heap.size, 8, none⟩ = some (.int .u16 p.fl) ∧ w'.cell? ⟨w.heap.size, 9, none⟩ = some (.int .u8 p.de) from (have h := (unhide S3).later hb; ⟨row_cell h.row (j := 0) rfl, row_cell h.row (j := 1) rfl, row_cell h.row (j := 2) rfl, row_cell h.row (j := 3) rfl, row_cell h.row (j := 4) rfl, row_cell h.row (j := 5) rfl, row_cell h.row (j := 6) rfl, row_cell h.row (j := 7) rfl, row_cell h.row (j := 8) rfl, row_cell h.row (j := 9) rfl⟩)))
  have bz := below_drew w3
  go_wp2_with fail
  go_region_held3 (fun w' => w'.cell? ⟨w.heap.size, 0, none⟩ = some (.string p.sc) ∧ w'.cell? ⟨w.heap.size, 1, none⟩ = some (.string p.ta) ∧ w'.cell? ⟨w.heap.size, 2, none⟩ = some (.string p.ot) ∧ w'.cell? ⟨w.heap.size, 3, none⟩ = some (.string p.na) ∧ w'.cell? ⟨w.heap.size, 4, none⟩ = some (.string p.on) ∧ w'.cell? ⟨w.heap.size, 5, none⟩ = some (.int .u16 p.ch) ∧ w'.cell? ⟨w.heap.size, 6, none⟩ = some (.int .u32 p.le) ∧ w'.cell? ⟨w.heap.size, 7, none⟩ = some (.int .u8 p.ty) ∧ w'.cell? ⟨w.heap.size, 8, none⟩ = some (.int .u16 p.fl) ∧ w'.cell? ⟨w.heap.size, 9, none⟩ = some (.int .u8 p.de)) (first | with_reducible exact unhide KC _ bz | with_reducible exact unhide KC _ (Below.refl _ _) | with_reducible exact unhide KC _ (Below.drew (Below.refl _ _)) | go_keep) (first
    | (go_at_call 14; (with_reducible refine (unhide cO _ (bup (unhide S3).bel bz)).mono ?_); rintro e w4 ⟨g, rfl, o4, b4⟩; have bz := bz.trans (b4.mono bz.size))
    | (go_at_call 13; (with_reducible refine (unhide pA w4 g o4).mono ?_); rintro e w5 ⟨xo, xn, xc, rfl, x5, b5⟩; have bz := bz.trans (b5.mono bz.size)))
  have S5 := hide ((unhide S3).later bz)
  have R5 := hide (unhide S5).row
  have X5 := hide x5
  clear x5 b5 o4 b4 bz KC S3 pA
  go_wp2_with (with_reducible show wpList Tryd.prog _ _ (Oper.mk _ (Op.load 35 _) _ _ _ none :: _) _ _; refine wpList_load_row rfl _ (.tmp 4) rfl w.heap.size (by simp [Act.eval, Act.put]) _ #[.string p.sc, .string p.ta, .string p.ot, .string p.na, .string p.on, .int .u16 p.ch, .int .u32 p.le, .int .u8 p.ty, .int .u16 p.fl, .int .u8 p.de] (0, 0) _ (unhide R5) Tryd.underlying35 rfl (unhide SZ) ?_)
  refine (unhide rA _ (unhide S5).bel).mono ?_
  rintro e w6 ⟨yo, yn, yc, rfl, y6, b6⟩
  have S6 := hide ((unhide S5).later b6)
  have cE := hide (same_self yo yn yc xo xn xc L1 w6 ((unhide X5).later b6) y6)
  clear y6 b6 X5 S5 R5 rA
  have e11 : (E1 != E1) = false := by simp
  go_wp2_with fail
  refine same_world (unhide cE) ?_
  clear cE
  go_wp2_with fail
  clear e11
  refine (unhide cO _ (unhide S6).bel).mono ?_
  rintro e w7 ⟨g2, rfl, o7, b7⟩
  have S7 := hide ((unhide S6).later b7)
  have O7 := hide o7
  clear o7 b7 S6 cO
  go_wp2_with fail
  refine (unhide pN _ g2 (unhide O7)).mono ?_
  rintro e w8 ⟨xo2, xn2, xc2, rfl, x8, b8⟩
  have S8 := hide ((unhide S7).later b8)
  have X8 := hide x8
  clear x8 b8 S7 O7 pN
  go_wp2_with fail
  refine (unhide rN _ (unhide S8).bel).mono ?_
  rintro e w9 ⟨yo2, yn2, yc2, rfl, y9, b9⟩
  have S9 := hide ((unhide S8).later b9)
  have cE := hide (same_self yo2 yn2 yc2 xo2 xn2 xc2 L2 w9.drew (((unhide X8).later b9).later (below_drew w9)) (y9.later (below_drew w9)))
  clear y9 b9 X8 S8 rN
  have KC := hide (fun (w' : World) (hb : Below w9.heap.size w9 w') => (show w'.cell? ⟨w.heap.size, 0, none⟩ = some (.string p.sc) ∧ w'.cell? ⟨w.heap.size, 1, none⟩ = some (.string p.ta) ∧ w'.cell? ⟨w.heap.size, 2, none⟩ = some (.string p.ot) ∧ w'.cell? ⟨w.heap.size, 3, none⟩ = some (.string p.na) ∧ w'.cell? ⟨w.heap.size, 4, none⟩ = some (.string p.on) ∧ w'.cell? ⟨w.heap.size, 5, none⟩ = some (.int .u16 p.ch) ∧ w'.cell? ⟨w.heap.size, 6, none⟩ = some (.int .u32 p.le) ∧ w'.cell? ⟨w.heap.size, 7, none⟩ = some (.int .u8 p.ty) ∧ w'.cell? ⟨w.heap.size, 8, none⟩ = some (.int .u16 p.fl) ∧ w'.cell? ⟨w.heap.size, 9, none⟩ = some (.int .u8 p.de) from (have h := (unhide S9).later hb; ⟨row_cell h.row (j := 0) rfl, row_cell h.row (j := 1) rfl, row_cell h.row (j := 2) rfl, row_cell h.row (j := 3) rfl, row_cell h.row (j := 4) rfl, row_cell h.row (j := 5) rfl, row_cell h.row (j := 6) rfl, row_cell h.row (j := 7) rfl, row_cell h.row (j := 8) rfl, row_cell h.row (j := 9) rfl⟩)))
  have KV := hide (fun (w' : World) (hb : Below w9.heap.size w9 w') => (unhide HV).later ((unhide S9).later hb).bel)
  have bz := below_drew w9
  go_wp2_with fail
  go_region_held3 (fun w' => w'.cell? ⟨w.heap.size, 0, none⟩ = some (.string p.sc) ∧ w'.cell? ⟨w.heap.size, 1, none⟩ = some (.string p.ta) ∧ w'.cell? ⟨w.heap.size, 2, none⟩ = some (.string p.ot) ∧ w'.cell? ⟨w.heap.size, 3, none⟩ = some (.string p.na) ∧ w'.cell? ⟨w.heap.size, 4, none⟩ = some (.string p.on) ∧ w'.cell? ⟨w.heap.size, 5, none⟩ = some (.int .u16 p.ch) ∧ w'.cell? ⟨w.heap.size, 6, none⟩ = some (.int .u32 p.le) ∧ w'.cell? ⟨w.heap.size, 7, none⟩ = some (.int .u8 p.ty) ∧ w'.cell? ⟨w.heap.size, 8, none⟩ = some (.int .u16 p.fl) ∧ w'.cell? ⟨w.heap.size, 9, none⟩ = some (.int .u8 p.de)) (first | with_reducible exact unhide KC _ bz | with_reducible exact unhide KC _ (Below.refl _ _) | with_reducible exact unhide KC _ (Below.drew (Below.refl _ _)) | go_keep) (first
    | (go_at_call 9; (with_reducible refine (unhide cE).mono ?_); rintro e wS ⟨rfl, rfl⟩)
    | (go_at_call 17; (with_reducible refine (unhide pC _).mono ?_); rintro e wz ⟨rfl, bn'⟩; have bz := bz.trans (Below.mono bn' bz.size))
    | (go_at_call 18; (with_reducible refine (unhide rC _).mono ?_); rintro e wz ⟨rfl, bn'⟩; have bz := bz.trans (Below.mono bn' bz.size))
    | (go_at_call 10; (with_reducible refine (unhide pM _ (unhide KV _ bz)).mono ?_); rintro e wz ⟨rfl, bn'⟩; have bz := bz.trans (Below.mono bn' bz.size))
    | (go_at_call 19; (with_reducible refine (unhide rM _).mono ?_); rintro e wz ⟨rfl, bn'⟩; have bz := bz.trans (Below.mono bn' bz.size))
    | (go_at_call 11; (with_reducible refine (unhide pK _).mono ?_); rintro e wz ⟨rfl, bn'⟩; have bz := bz.trans (Below.mono bn' bz.size))
    | (go_at_call 20; (with_reducible refine (unhide rK _).mono ?_); rintro e wz ⟨rfl, bn'⟩; have bz := bz.trans (Below.mono bn' bz.size)))
  all_goals (go_wp2_with fail; go_ret; exact ⟨rfl, ((unhide S9).later bz).bel⟩)

end Go.Proofs.YtgdjeooiimjjcaaDoor
