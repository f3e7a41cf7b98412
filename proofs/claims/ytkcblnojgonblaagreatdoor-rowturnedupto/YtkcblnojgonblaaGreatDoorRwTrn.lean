/-
  What Turned of package row returns: the text row of a binary row's values. It writes nothing that was there. Conditions: the library's variables read as their initialisers lay them; at most 100,000 bytes, 60 types; types are bytes; the values' texts have at most 3,000 bytes.
-/
import Derived.Test.YtkcblnojgonblaaGreatDoorRwTu
import Derived.Test.YtkcblnojgonblaaGreatDoorRwRbi
import Derived.Test.YtkcblnojgonblaaGreatDoorRvSt
import Derived.Test.YtkcblnojgonblaaGreatDoorRwApp
import Derived.BigQuiet
import Derived.Deep.RegionHeld3
namespace Go.Proofs.YtkcblnojgonblaaGreatDoor
open Go.RowKit
set_option linter.unusedVariables false
set_option linter.unusedSimpArgs false

set_option maxHeartbeats 4000000 in
set_option maxRecDepth 100000 in
theorem hasNoText_any (t : Int) (un : Bool) (w : World) (q0 : 0 ≤ t) (q1 : t < 256) : Calls Tryz.prog 27 #[.agg #[.int .u8 t, .bool un]] w fun e w' => e = .returned (.bool ((t == 4) || (t == 5))) ∧ Below w.heap.size w w' := by
  have b1 := below_alloc w (.cells #[.int .u8 t, .bool un] 23)
  have r1 := heap_alloc_new w (.cells #[.int .u8 t, .bool un] 23)
  have k0 := vrow_cell r1 (j := 0) (v := .int .u8 t) rfl
  have B1 := hide b1
  clear b1 r1
  cases h : (t == 4)
  · go_enter Tryz.func27, Tryz.ntmps27
    go_wp2_with fail
    go_ret
    exact ⟨rfl, unhide B1⟩
  · go_enter Tryz.func27, Tryz.ntmps27
    go_wp2_with fail
    go_ret
    exact ⟨rfl, unhide B1⟩

theorem anyT_next {ts : List Ty} {j : Nat} {p : Ty} (h : ts[j]? = some p) : (ts.take (j + 1)).any noT = ((ts.take j).any noT || noT p) := by
  rw [List.take_add_one, h, List.any_append]
  simp
theorem anyT_at {ts : List Ty} {j : Nat} {p : Ty} (h : ts[j]? = some p) (hp : noT p = true) : ts.any noT = true := List.any_eq_true.2 ⟨p, List.mem_of_getElem? h, hp⟩

set_option maxHeartbeats 4000000 in
set_option maxRecDepth 100000 in
theorem indexT_any (ao : Option Addr) (m c : Nat) (ts : List Ty) (w : World) (ht : Tys w ao m c ts) (hT : ∀ p ∈ ts, 0 ≤ p.t ∧ p.t < 256) :
    Calls Tryz.prog 50 #[.slice ao m c, .func (.func 27) #[] #[]] w fun e w' => OutI w (ts.any noT) e w' := by
  have hml := ht.len
  have hle := ht.le
  have hmx := ht.max
  have HT := hide ht
  have HU := hide hT
  obtain ⟨RES, hRES⟩ : ∃ z, z = ts.any noT := ⟨_, rfl⟩
  rw [← hRES]
  have HR := hide hRES
  clear ht hT hRES
  go_enter Tryz.func50, Tryz.ntmps50
  go_wp2_with fail
  go_loopw [8] (fun iv ws => ∃ (j : Nat), j ≤ m ∧ iv = .int .i64 (j : Int) ∧ (ts.take j).any noT = false ∧ Below w.heap.size w ws) (fun iv _ => m - (intOf iv).toNat)
  case atStart => exact ⟨0, by omega, rfl, rfl, Below.refl _ _⟩
  case round =>
    obtain ⟨j, hj, rfl, hA, hB⟩ := hrel
    have HB := hide hB
    clear hB
    by_cases hlt : j < m
    · have g1 : ((j : Nat) : Int) < (m : Int) := by omega
      obtain ⟨p, hp⟩ : ∃ p, ts[j]? = some p := ⟨_, List.getElem?_eq_getElem (by omega)⟩
      have q := unhide HU p (List.mem_of_getElem? hp)
      have HN := hide (anyT_next hp)
      have HY := hide (anyT_at hp)
      obtain ⟨tb, tq, hiy, hty⟩ := ((unhide HT).later (unhide HB)).idx hp (j : Int) rfl
      obtain ⟨k0, k1⟩ : wr.cell? ⟨tb, tq, none⟩ = some (.int .u8 p.t) ∧ wr.cell? ⟨tb, tq + 1, none⟩ = some (.bool p.un) := ⟨hty 0 (by decide), hty 1 (by decide)⟩
      have cU := hide (hasNoText_any p.t p.un wr q.1 q.2)
      have e : ((p.t == 4) || (p.t == 5)) = noT p := rfl
      rw [e] at cU
      obtain ⟨pt, pu⟩ := p
      simp only at k0 k1 cU
      generalize noT ⟨pt, pu⟩ = V at *
      clear hty q hp e
      cases V
      · go_wp2_with (go_at_call 27; refine (unhide cU).mono ?_; rintro e w2 ⟨rfl, b2⟩; have B2 := hide ((unhide HB).trans (b2.mono (unhide HB).size)); clear b2)
        go_roundw
        case rel => exact ⟨j + 1, by omega, by go_num, by rw [unhide HN, hA]; rfl, unhide B2⟩
        case measure => simp [intOf]; omega
      · have HE := hide (show RES = true by rw [unhide HR]; exact unhide HY rfl)
        clear HY HN
        go_wp2_with (go_at_call 27; refine (unhide cU).mono ?_; rintro e w2 ⟨rfl, b2⟩; have B2 := hide ((unhide HB).trans (b2.mono (unhide HB).size)); clear b2)
        go_ret
        exact OutI.of (by rw [unhide HE]; exact decide_eq_true (by omega)) (unhide B2)
    · have hjn : j = m := by omega
      subst hjn
      have g1 : ¬ ((j : Nat) : Int) < (j : Int) := by omega
      have HE := hide (show RES = false by rw [unhide HR, ← hA, List.take_of_length_le (by omega)])
      go_wp2_with fail
      go_ret
      exact OutI.of (by rw [unhide HE]; rfl) (unhide HB)

set_option maxHeartbeats 4000000 in
set_option maxRecDepth 100000 in
theorem containsT_any (ao : Option Addr) (m c : Nat) (ts : List Ty) (w : World) (ht : Tys w ao m c ts) (hT : ∀ p ∈ ts, 0 ≤ p.t ∧ p.t < 256) :
    Calls Tryz.prog 19 #[.slice ao m c, .func (.func 27) #[] #[]] w fun e w' => e = .returned (.bool (ts.any noT)) ∧ Below w.heap.size w w' := by
  have cI := hide (indexT_any ao m c ts w ht hT)
  generalize ts.any noT = RES at *
  clear ht hT
  go_enter Tryz.func19, Tryz.ntmps19
  go_wp2_with fail
  refine (unhide cI).mono ?_
  rintro e w2 ⟨R, rfl, hR, b2⟩
  have B2 := hide b2
  have HR := hide hR
  clear hR b2 cI
  go_wp2_with fail
  go_ret
  exact ⟨by rw [← unhide HR]; rfl, unhide B2⟩



theorem cells12 {w : World} {g : Nat} {T : TypeId} {v0 v1 v2 v3 v4 v5 v6 v7 v8 v9 v10 v11 : Value} (h : w.heap[g]? = some (.cells #[v0, v1, v2, v3, v4, v5, v6, v7, v8, v9, v10, v11] T (0, 0))) : w.cell? ⟨g, 0, none⟩ = some v0 ∧ w.cell? ⟨g, 1, none⟩ = some v1 ∧ w.cell? ⟨g, 2, none⟩ = some v2 ∧ w.cell? ⟨g, 3, none⟩ = some v3 ∧ w.cell? ⟨g, 4, none⟩ = some v4 ∧ w.cell? ⟨g, 5, none⟩ = some v5 ∧ w.cell? ⟨g, 6, none⟩ = some v6 ∧ w.cell? ⟨g, 7, none⟩ = some v7 ∧ w.cell? ⟨g, 8, none⟩ = some v8 ∧ w.cell? ⟨g, 9, none⟩ = some v9 ∧ w.cell? ⟨g, 10, none⟩ = some v10 ∧ w.cell? ⟨g, 11, none⟩ = some v11 :=
  ⟨vrow_cell h (j := 0) rfl, vrow_cell h (j := 1) rfl, vrow_cell h (j := 2) rfl, vrow_cell h (j := 3) rfl, vrow_cell h (j := 4) rfl, vrow_cell h (j := 5) rfl, vrow_cell h (j := 6) rfl, vrow_cell h (j := 7) rfl, vrow_cell h (j := 8) rfl, vrow_cell h (j := 9) rfl, vrow_cell h (j := 10) rfl, vrow_cell h (j := 11) rfl⟩
theorem outP_t2 {w : World} {ok : Bool} {L : List Int} {e : Ending} {w' : World} (h : OutP w (if ok = true then some ([] ++ L) else none) e w') (ho : ok = true) : ∃ xo xn xc, e = .returned (.tuple #[.slice xo xn xc, .int .i64 0]) ∧ Mine w.heap.size w' xo xn xc L ∧ Below w.heap.size w w' := by
  rw [List.nil_append, if_pos ho] at h
  exact h
/-- Bytes in new memory, and an error. -/
def OutB2 (w : World) (R : List Int × Int) (e : Ending) (w' : World) : Prop := ∃ xo xn xc, e = .returned (.tuple #[.slice xo xn xc, .int .i64 R.2]) ∧ Mine w.heap.size w' xo xn xc R.1 ∧ Below w.heap.size w w'
theorem gb_up2 {g B : Nat} {w0 w w' : World} (h : Below B w0 w) (k : Gb g w w') (hg : B ≤ g) (hs : B ≤ w.heap.size) : Below B w0 w' :=
  ⟨k.os.trans h.os, k.tape.trans h.tape, k.output.trans h.output, Nat.le_trans h.size k.size, fun i hi => (k.block i (by omega) (by omega)).trans (h.block i hi)⟩
theorem AtT.tw {w : World} {b o : Nat} {p : Ty} (h : AtT w b o p) : w.cell? ⟨b, o, none⟩ = some (.int .u8 p.t) ∧ w.cell? ⟨b, o + 1, none⟩ = some (.bool p.un) := ⟨h 0 (by decide), h 1 (by decide)⟩

theorem below_dr2 {w w' : World} (h : Below w.heap.size w w') : Below w.heap.size w w'.drew := h.trans ((below_drew w').mono h.size)

set_option maxHeartbeats 4000000 in
set_option maxRecDepth 100000 in
theorem turned_any (bo : Option Addr) (bn bc : Nat) (b : List Int) (tyo : Option Addr) (m tc : Nat) (ts : List Ty) (w : World) (hb : Bs w bo bn bc b) (ht : Tys w tyo m tc ts) (hT : ∀ p ∈ ts, 0 ≤ p.t ∧ p.t < 256) (hn : b.length ≤ 100000) (hm : m ≤ 60) (hvs : Vars w) (hrb : (rbR b ts).2 = 0 → Rb (rbR b ts).1 ts) :
    Calls Tryz.prog 7 #[.slice bo bn bc, .slice tyo m tc] w fun e w' => OutB2 w (tuR b ts) e w' := by
  obtain ⟨RES, hRES⟩ : ∃ z, z = tuR b ts := ⟨_, rfl⟩
  rw [← hRES]
  have HRES := hide (show RES = if (rbR b ts).2 ≠ 0 then ([], (rbR b ts).2) else if ts.any noT = true then ([], 2) else (rtB (tuL (rbR b ts).1 ts), 0) from hRES)
  have cR := hide (readBin_any bo bn bc b tyo m tc ts w hb ht hT hn)
  have HRB := hide hrb
  have HTY := hide ht
  have HT := hide hT
  have HV := hide hvs
  have hml := ht.len
  have htl := ht.le
  have htx := ht.max
  clear hb ht hT hvs hRES hn hrb
  generalize rbR b ts = R at *
  obtain ⟨l, E⟩ := R
  simp only at HRES HRB
  go_enter Tryz.func7, Tryz.ntmps7
  go_wp2_with fail
  refine (unhide cR).mono ?_
  rintro e w1 ⟨ro, rn, rc, rfl, m1, b1⟩
  have HM := hide m1
  have HB := hide b1
  have HTY1 := hide ((unhide HTY).later b1)
  have HV1 := hide ((unhide HV).later b1)
  clear m1 b1 cR
  by_cases hE : E ≠ 0
  · have hE2 : (E != 0) = true := by simpa using hE
    have HR := hide (show RES = ([], E) by rw [unhide HRES, if_pos hE])
    clear HRES HRB hE
    go_wp2_with fail
    go_ret2
    rw [unhide HR]
    exact ⟨none, 0, 0, rfl, Mine.nought _ _, unhide HB⟩
  have hE := Classical.not_not.1 hE
  subst hE
  have HRB1 := hide (unhide HRB rfl)
  have HR1 := hide (show RES = if ts.any noT = true then ([], 2) else (rtB (tuL l ts), 0) by rw [unhide HRES, if_neg (by decide)])
  have cC := hide (containsT_any tyo m tc ts w1 (unhide HTY1) (unhide HT))
  clear HRES HRB
  go_wp2_with fail
  refine (unhide cC).mono ?_
  rintro e w2 ⟨rfl, b2⟩
  have HB2 := hide (vbup (unhide HB) b2)
  have HM2 := hide ((unhide HM).later b2)
  clear b2 cC HB HM HTY1 HV1
  by_cases hA : ts.any noT = true
  · rw [hA]
    have HR := hide (show RES = ([], 2) by rw [unhide HR1, if_pos hA])
    clear hA HR1
    go_wp2_with fail
    go_ret2
    rw [unhide HR]
    exact ⟨none, 0, 0, rfl, Mine.nought _ _, unhide HB2⟩
  have hA2 : ts.any noT = false := by simpa using hA
  have HR := hide (show RES = (rtB (tuL l ts), 0) by rw [unhide HR1, if_neg hA])
  have HA := hide hA2
  rw [hA2]
  have hlm : rn = m := by rw [← (unhide HM2).len, (unhide HRB1).len, hml]
  subst hlm
  have hle := (unhide HM2).ss.le
  have hmx := (unhide HM2).ss.max
  clear hA hA2 HR1
  go_wp2_with fail
  go_loopw [25] (fun iv ws => ∃ (j : Nat), j ≤ rn ∧ iv = .int .i64 (j : Int) ∧ VMine w.heap.size ws ro rn rc (tuM l ts j) ∧ Below w.heap.size w ws) (fun iv _ => rn - (intOf iv).toNat)
  case atStart => exact ⟨0, by omega, rfl, (by rw [tuM_0]; exact unhide HM2), unhide HB2⟩
  case round =>
    clear HM2 HB2
    obtain ⟨j, hj, rfl, hM, hB⟩ := hrel
    have hob := hB.size
    have HM := hide hM
    have HB := hide hB
    clear hM hB
    by_cases hlt : j < rn
    · have hlj : ((j : Nat) : Int) < (rn : Int) := by omega
      obtain ⟨v, hv⟩ : ∃ v, l[j]? = some v := ⟨_, List.getElem?_eq_getElem (by rw [(unhide HRB1).len]; omega)⟩
      obtain ⟨p, hp⟩ : ∃ p, ts[j]? = some p := ⟨_, List.getElem?_eq_getElem (by omega)⟩
      obtain ⟨hKv, hOv, hSv⟩ := (unhide HRB1).at' j v p hv hp
      obtain ⟨g, hro, hgB, hgl, hix, hat⟩ := (unhide HM).idx (tuM_at (ts := ts) hv) (j : Int) rfl
      subst hro
      obtain ⟨tb, tq, hiy, hty⟩ := ((unhide HTY).later (unhide HB)).idx hp (j : Int) rfl
      have HAT := hide hat
      obtain ⟨hp0, hp1⟩ := unhide HT p (List.mem_of_getElem? hp)
      have SV := hide (vac_info v)
      have OV := hide (vac_one v)
      have cN := hide (fun wx => isNull_any v wx)
      have cX := hide (fun wx (hx : Below w.heap.size w wx) => text_any v p.t p.un wx hp0 hp1 ((unhide HV).later hx) hKv)
      have HSM := hide (fun (hk : v.k = 0) => tuM_same hv hp hk)
      have HST := hide (tuM_set hv hp)
      have HTV := hide (show tuV v p = if v.k = 0 then v else ⟨7, 0, 0, (txR v p.t p.un).1, wh0⟩ from rfl)
      have KT := hide (fun (w' : World) (hx : Below wr.heap.size wr w') => (hty.later hx).tw)
      clear hat hv hp hKv hOv hSv hty hp0 hp1
      generalize txR v p.t p.un = X at *
      obtain ⟨XT, XE⟩ := X
      generalize tuV v p = TV at *
      obtain ⟨pt, pu⟩ := p
      obtain ⟨k, i, b, tx, ⟨ng, y, mo, d, h, mi, s, mc⟩⟩ := v
      unfold vaC at cN cX SV OV
      simp only at cN cX SV OV HSM HTV KT
      by_cases hk : k = 0
      · have ek : (k == 0) = true := by simpa using hk
        rw [ek] at cN
        have HSM' := hide (unhide HSM hk)
        clear cX HST HTV HSM ek hk KT
        go_wp2_with (first | (with_reducible show wpList Tryz.prog _ _ (Oper.mk _ (Op.load 38 _) _ _ _ none :: _) _ _; refine wpList_ldV rfl (.tmp 28) rfl g (j * 12) rfl ⟨k, i, b, tx, ⟨ng, y, mo, d, h, mi, s, mc⟩⟩ (unhide HAT) ?_) | (with_reducible show wpList Tryz.prog _ _ (Oper.mk _ (Op.store 38 _ _) _ _ _ none :: _) _ _; refine wpList_stN rfl _ (.tmp 9) (.tmp 29) rfl #[.int .i64 k, .int .i64 i, .int .u64 b, .string tx, .bool ng, .int .i64 y, .int .i64 mo, .int .i64 d, .int .i64 h, .int .i64 mi, .int .i64 s, .int .i64 mc] (by simp [Act.eval, Act.put]) rfl (unhide SV) rfl (unhide OV) ?_; intro w2 r2 b2 l2; have R2 := hide r2; have B2 := hide b2; obtain ⟨k0, k1, k2, k3, k4, k5, k6, k7, k8, k9, k10, k11⟩ := cells12 r2; clear r2 b2) | (go_at_call 28; (with_reducible refine (unhide cN _).mono ?_); rintro e w5 ⟨rfl, b5⟩; have R5 := hide (vrow_later (unhide R2) b5); have B5 := hide ((unhide B2).trans (b5.mono (unhide B2).size)); have M5 := hide ((unhide HM).later (unhide B5)); have HB5 := hide ((unhide HB).trans ((unhide B5).mono hob)); clear b5))
        go_roundw
        case rel => exact ⟨j + 1, by omega, by go_num, (by rw [unhide HSM']; exact unhide M5), unhide HB5⟩
        case measure => simp [intOf]; omega
      · have ek : (k == 0) = false := by simpa using hk
        rw [ek] at cN
        have HTV' := hide (show TV = ⟨7, 0, 0, XT, wh0⟩ by rw [unhide HTV, if_neg hk])
        have HCS := hide (show (#[.int .i64 7, .int .i64 0, .int .u64 0, .string XT, .bool false, .int .i64 0, .int .i64 0, .int .i64 0, .int .i64 0, .int .i64 0, .int .i64 0, .int .i64 0] : Array Value) = vaC ⟨7, 0, 0, XT, wh0⟩ from rfl)
        clear HSM HTV ek hk
        go_upto_region 10 with (first | (with_reducible show wpList Tryz.prog _ _ (Oper.mk _ (Op.load 38 _) _ _ _ none :: _) _ _; refine wpList_ldV rfl (.tmp 28) rfl g (j * 12) rfl ⟨k, i, b, tx, ⟨ng, y, mo, d, h, mi, s, mc⟩⟩ (unhide HAT) ?_) | (with_reducible show wpList Tryz.prog _ _ (Oper.mk _ (Op.store 38 _ _) _ _ _ none :: _) _ _; refine wpList_stN rfl _ (.tmp 9) (.tmp 29) rfl #[.int .i64 k, .int .i64 i, .int .u64 b, .string tx, .bool ng, .int .i64 y, .int .i64 mo, .int .i64 d, .int .i64 h, .int .i64 mi, .int .i64 s, .int .i64 mc] (by simp [Act.eval, Act.put]) rfl (unhide SV) rfl (unhide OV) ?_; intro w2 r2 b2 l2; have R2 := hide r2; have B2 := hide b2; obtain ⟨k0, k1, k2, k3, k4, k5, k6, k7, k8, k9, k10, k11⟩ := cells12 r2; clear r2 b2) | (go_at_call 28; (with_reducible refine (unhide cN _).mono ?_); rintro e w5 ⟨rfl, b5⟩; have R5 := hide (vrow_later (unhide R2) b5); have B5 := hide ((unhide B2).trans (b5.mono (unhide B2).size)); have M5 := hide ((unhide HM).later (unhide B5)); have HB5 := hide ((unhide HB).trans ((unhide B5).mono hob)); clear b5))
        have KS := hide (fun (w' : World) (hx : Below w5.heap.size w5 w') => (show w'.cell? ⟨wr.heap.size, 0, none⟩ = some (.int .i64 k) ∧ w'.cell? ⟨wr.heap.size, 1, none⟩ = some (.int .i64 i) ∧ w'.cell? ⟨wr.heap.size, 2, none⟩ = some (.int .u64 b) ∧ w'.cell? ⟨wr.heap.size, 3, none⟩ = some (.string tx) ∧ w'.cell? ⟨wr.heap.size, 4, none⟩ = some (.bool ng) ∧ w'.cell? ⟨wr.heap.size, 5, none⟩ = some (.int .i64 y) ∧ w'.cell? ⟨wr.heap.size, 6, none⟩ = some (.int .i64 mo) ∧ w'.cell? ⟨wr.heap.size, 7, none⟩ = some (.int .i64 d) ∧ w'.cell? ⟨wr.heap.size, 8, none⟩ = some (.int .i64 h) ∧ w'.cell? ⟨wr.heap.size, 9, none⟩ = some (.int .i64 mi) ∧ w'.cell? ⟨wr.heap.size, 10, none⟩ = some (.int .i64 s) ∧ w'.cell? ⟨wr.heap.size, 11, none⟩ = some (.int .i64 mc) ∧ w'.cell? ⟨tb, tq, none⟩ = some (.int .u8 pt) ∧ w'.cell? ⟨tb, tq + 1, none⟩ = some (.bool pu) from (have q := vrow_later (unhide R5) hx; have hy := (unhide B5).trans (hx.mono (unhide B5).size); ⟨vrow_cell q (j := 0) (v := .int .i64 k) rfl, vrow_cell q (j := 1) (v := .int .i64 i) rfl, vrow_cell q (j := 2) (v := .int .u64 b) rfl, vrow_cell q (j := 3) (v := .string tx) rfl, vrow_cell q (j := 4) (v := .bool ng) rfl, vrow_cell q (j := 5) (v := .int .i64 y) rfl, vrow_cell q (j := 6) (v := .int .i64 mo) rfl, vrow_cell q (j := 7) (v := .int .i64 d) rfl, vrow_cell q (j := 8) (v := .int .i64 h) rfl, vrow_cell q (j := 9) (v := .int .i64 mi) rfl, vrow_cell q (j := 10) (v := .int .i64 s) rfl, vrow_cell q (j := 11) (v := .int .i64 mc) rfl, (unhide KT w' hy).1, (unhide KT w' hy).2⟩)))
        clear k0 k1 k2 k3 k4 k5 k6 k7 k8 k9 k10 k11
        go_region_held3 (fun w' => w'.cell? ⟨wr.heap.size, 0, none⟩ = some (.int .i64 k) ∧ w'.cell? ⟨wr.heap.size, 1, none⟩ = some (.int .i64 i) ∧ w'.cell? ⟨wr.heap.size, 2, none⟩ = some (.int .u64 b) ∧ w'.cell? ⟨wr.heap.size, 3, none⟩ = some (.string tx) ∧ w'.cell? ⟨wr.heap.size, 4, none⟩ = some (.bool ng) ∧ w'.cell? ⟨wr.heap.size, 5, none⟩ = some (.int .i64 y) ∧ w'.cell? ⟨wr.heap.size, 6, none⟩ = some (.int .i64 mo) ∧ w'.cell? ⟨wr.heap.size, 7, none⟩ = some (.int .i64 d) ∧ w'.cell? ⟨wr.heap.size, 8, none⟩ = some (.int .i64 h) ∧ w'.cell? ⟨wr.heap.size, 9, none⟩ = some (.int .i64 mi) ∧ w'.cell? ⟨wr.heap.size, 10, none⟩ = some (.int .i64 s) ∧ w'.cell? ⟨wr.heap.size, 11, none⟩ = some (.int .i64 mc) ∧ w'.cell? ⟨tb, tq, none⟩ = some (.int .u8 pt) ∧ w'.cell? ⟨tb, tq + 1, none⟩ = some (.bool pu)) (first | with_reducible exact unhide KS _ b7 | with_reducible exact unhide KS _ (Below.refl _ _) | with_reducible exact unhide KS _ (Below.drew (Below.refl _ _)) | go_keep) (first | (go_at_call 29; (with_reducible refine (unhide cX _ (below_dr2 (unhide HB5))).mono ?_); rintro e w7 ⟨rfl, b7'⟩; have b7 := (below_drew w5).trans (b7'.mono (below_drew w5).size)))
        have M7 := hide ((unhide M5).later b7)
        have HB7 := hide (vbup (unhide HB5) b7)
        clear b7 b7' KS cX M5 HB5
        go_wp2_with (with_reducible show wpList Tryz.prog _ _ (Oper.mk _ (Op.store 38 _ _) _ _ _ none :: _) _ _; refine wpList_putV rfl (.tmp 45) (.tmp 44) rfl w.heap.size g rn rc _ j ⟨7, 0, 0, XT, wh0⟩ _ (unhide HCS) rfl rfl (unhide M7) hlt ?_; intro w8 m8 g8; have M8 := hide m8; have HB8 := hide (gb_up2 (unhide HB7) g8 hgB (unhide HB7).size); clear m8 g8)
        go_roundw
        case rel => exact ⟨j + 1, by omega, by go_num, (by rw [unhide HST, unhide HTV']; exact unhide M8), unhide HB8⟩
        case measure => simp [intOf]; omega
    · have hjn : j = rn := by omega
      subst hjn
      have hlj : ¬ ((j : Nat) : Int) < (j : Int) := by omega
      have hq := unhide HM
      rw [tuM_n l ts (by rw [(unhide HRB1).len]; omega)] at hq
      have cA := hide (appText_any none 0 0 [] ro j rc (tuL l ts) wr (Bs.nought _) hq.ss (tuL_K (unhide HRB1) (unhide HA)) hm (by omega))
      have HOK := hide (tuL_ok (unhide HRB1) (unhide HA))
      clear HM hq
      go_wp2_with fail
      refine (unhide cA).mono ?_
      intro e w9 h9
      obtain ⟨xo, xn, xc, rfl, m9, b9⟩ := outP_t2 h9 (unhide HOK)
      have M9 := hide m9
      have B9 := hide (vbup (unhide HB) b9)
      clear h9 m9 b9 cA
      go_wp2_with fail
      go_ret2
      rw [unhide HR]
      exact ⟨xo, xn, xc, rfl, (unhide M9).mono hob, unhide B9⟩


end Go.Proofs.YtkcblnojgonblaaGreatDoor
