/-
  What AppendBinary of package row returns. It writes nothing that was there. Conditions: the slices can be read; at most 60 values, of texts of at most 3,000 bytes, and 60 types; at most 10,000 bytes ahead.
-/
import Derived.Test.YtkcblnojgonblaaGreatDoorRwLeaf
import Derived.Test.YtkcblnojgonblaaGreatDoorRwPlain
import Derived.Test.YtkcblnojgonblaaGreatDoorVaMay
import Derived.Test.YtkcblnojgonblaaGreatDoorRwCat
import Derived.Test.YtkcblnojgonblaaGreatDoorClRow
import Derived.Test.YtkcblnojgonblaaGreatDoorRyMem
import Derived.BigQuiet
import Derived.Deep.RegionHeld3
namespace Go.Proofs.YtkcblnojgonblaaGreatDoor
open Go.RowKit
set_option linter.unusedVariables false
set_option linter.unusedSimpArgs false

/-- New bytes with the bits of a row among them, or ErrArg. -/
def OutN (w : World) (ok : Bool) (bb : List Int) (l : List Va) (z : List (Va × Ty)) (e : Ending) (w' : World) : Prop :=
  if ok = true then ∃ nl xo xn xc, Isn l nl ∧ e = .returned (.tuple #[.slice xo xn xc, .int .i64 0]) ∧ Mine w.heap.size w' xo xn xc (bb ++ [0] ++ nl ++ rbB z) ∧ Below w.heap.size w w'
  else e = .returned (.tuple #[.slice none 0 0, .int .i64 2]) ∧ Below w.heap.size w w'
theorem AtT.two {w : World} {b o : Nat} {p : Ty} (h : AtT w b o p) : w.cell? ⟨b, o, none⟩ = some (.int .u8 p.t) ∧ w.cell? ⟨b, o + 1, none⟩ = some (.bool p.un) := ⟨h 0 (by decide), h 1 (by decide)⟩
theorem zip_at {l : List Va} {ts : List Ty} {j : Nat} {v : Va} {p : Ty} (hv : l[j]? = some v) (hp : ts[j]? = some p) : (l.zip ts)[j]? = some (v, p) := by
  rw [List.getElem?_zip_eq_some]
  exact ⟨hv, hp⟩

theorem mine_keep' {B : Nat} {w w' : World} {g n c : Nat} {bs : List Int} (h : Mine B w (some ⟨g, 0, none⟩) n c bs) (hb : Below (g + 1) w w') : Mine B w' (some ⟨g, 0, none⟩) n c bs := by
  refine ⟨h.len, ⟨h.own.1, ?_⟩, h.byt⟩
  rcases h.own.2 with hv | ⟨q, cap, cur, hv, hq, hh, r⟩
  · exact .inl hv
  · have hv' := hv
    simp only [Value.slice.injEq, Option.some.injEq, Addr.mk.injEq] at hv'
    have e := hv'.1.1
    exact .inr ⟨q, cap, cur, hv, hq, by rw [hb.block q (by omega)]; exact hh, r⟩

set_option maxHeartbeats 4000000 in
set_option maxRecDepth 100000 in
theorem appBin_any (bo : Option Addr) (bn bc : Nat) (bb : List Int) (ao : Option Addr) (n c : Nat) (l : List Va) (tyo : Option Addr) (m tc : Nat) (ts : List Ty) (w : World) (hb : Bs w bo bn bc bb) (hl : Vs w ao n c l) (ht : Tys w tyo m tc ts) (hK : ∀ v ∈ l, VaK v ∧ v.t.size ≤ 3000) (hT : ∀ p ∈ ts, 0 ≤ p.t ∧ p.t < 256) (hn : n ≤ 60) (hm : m ≤ 60) (hbn : bn ≤ 10000) :
    Calls Tryz.prog 18 #[.slice bo bn bc, .slice ao n c, .slice tyo m tc] w fun e w' => OutN w (decide (l.length = ts.length) && rbOk (l.zip ts)) bb l (l.zip ts) e w' := by
  obtain ⟨OKK, hOKK⟩ : ∃ z, z = (decide (l.length = ts.length) && rbOk (l.zip ts)) := ⟨_, rfl⟩
  rw [← hOKK]
  have HOK := hide hOKK
  clear hOKK
  have hln := hl.len
  have htn := ht.len
  have hle := hl.le
  have hmx := hl.max
  have htl := ht.le
  have htx := ht.max
  have hble := hb.le
  have hbmx := hb.max
  have HL := hide hl
  have HTY := hide ht
  have HBB := hide hb
  have HK := hide hK
  have HTT := hide hT
  have HRL := hide (fun j => rbB_len (l := (l.zip ts).take j) (fun p hp => (hK p.1 (List.of_mem_zip (List.mem_of_mem_take hp)).1).2))
  have cNB := hide (fun wx => nullBytes_any n wx (by omega))
  clear hl hb hK ht hT
  by_cases hnm : ¬ n = m
  · have g1 : ((n : Int) != (m : Int)) = true := by simpa using (fun h : (n : Int) = (m : Int) => hnm (by omega))
    have g2 : ¬ (n : Int) = (m : Int) := by omega
    have HR := hide (show OKK = false by rw [unhide HOK, hln, htn, decide_eq_false hnm]; rfl)
    clear HRL HK HTT
    go_enter Tryz.func18, Tryz.ntmps18
    go_wp2_with fail
    go_ret2
    unfold OutN
    rw [unhide HR]
    exact ⟨rfl, Below.refl _ _⟩
  have hnm : n = m := by omega
  subst hnm
  have HOK2 := hide (show OKK = rbOk (l.zip ts) by rw [unhide HOK, hln, htn, decide_eq_true rfl]; rfl)
  have HZL := hide (show (l.zip ts).length = n by rw [List.length_zip, hln, htn]; omega)
  have g1 : ((n : Int) != (n : Int)) = false := by simp
  obtain ⟨NB, hNB⟩ : ∃ z, z = (n + 9) / 8 := ⟨_, rfl⟩
  rw [← hNB] at cNB
  have hNB2 : NB ≤ 100 := by omega
  have HNB := hide hNB
  clear hNB HOK
  go_enter Tryz.func18, Tryz.ntmps18
  go_wp2_with (first | (go_at_call 45; (with_reducible refine same_world (unhide cNB _) ?_)) | (at_make; refine wpList_mkFull rfl _ _ rfl _ _ _ _ NB rfl rfl (by omega) (by omega) (by omega) ?_; intro w1 m1 b1 z1; have M1 := hide m1; have B1 := hide b1; have Z1 := hide z1; clear m1 b1 z1))
  go_loopw [29, 9] (fun iv ov ws => ∃ (j : Nat) (oo : Option Addr) (on oc : Nat) (nl : List Int), j ≤ n ∧ iv = .int .i64 (j : Int) ∧ ov = .slice oo on oc ∧ Mine w.heap.size ws (some ⟨w.heap.size, 0, none⟩) NB NB nl ∧ (∀ q, bit nl q = nb (l.take j) q) ∧ Mine (w.heap.size + 1) ws oo on oc (rbB ((l.zip ts).take j)) ∧ rbOk ((l.zip ts).take j) = true ∧ Below w.heap.size w ws ∧ w.heap.size + 1 ≤ ws.heap.size) (fun iv _ _ => n - (intOf iv).toNat)
  case atStart => exact ⟨0, none, 0, 0, _, by omega, rfl, rfl, unhide M1, (fun q => by rw [bit_zero]; simp [nb]), Mine.nought _ _, rfl, unhide B1, unhide Z1⟩
  case round =>
    clear M1 B1 Z1 cNB
    obtain ⟨j, oo, on, oc, nl, hj, rfl, rfl, hN, hbit, hM, hQ, hB, hob⟩ := hrel
    have hon : on ≤ 200000 := by
      have q1 := hM.len
      have q2 := unhide HRL j
      rw [List.length_take] at q2
      have q3 := unhide HZL
      omega
    have HM := hide hM
    have HN := hide hN
    have HB := hide hB
    have HQ := hide hQ
    have HBT := hide hbit
    have hole := hM.bs.le
    have homx := hM.bs.max
    clear hM hB hQ hN hbit
    by_cases hlt : j < n
    · obtain ⟨v, hv⟩ : ∃ v, l[j]? = some v := ⟨_, List.getElem?_eq_getElem (by omega)⟩
      obtain ⟨p, hp⟩ : ∃ p, ts[j]? = some p := ⟨_, List.getElem?_eq_getElem (by omega)⟩
      have hz := zip_at hv hp
      have hlj : ((j : Nat) : Int) < (n : Int) := by omega
      obtain ⟨pb, po, hix, hat⟩ := ((unhide HL).later (unhide HB)).idx hv (j : Int) rfl
      obtain ⟨tb, tq, hiy, hty⟩ := ((unhide HTY).later (unhide HB)).idx hp (j : Int) rfl
      have HAT := hide hat
      obtain ⟨hKv, hKs⟩ := unhide HK v (List.mem_of_getElem? hv)
      obtain ⟨hp0, hp1⟩ := unhide HTT p (List.mem_of_getElem? hp)
      have SV := hide (vac_info v)
      have OV := hide (vac_one v)
      have cC := hide (fun wx => check_any v p.t p.un wx hp0 hp1 hKv)
      have cA := hide (fun wx => append_any none 0 0 [] v p.t p.un wx hp0 hp1 hKv (Bs.nought wx) (by simp) (by omega))
      have cN := hide (fun wx => isNull_any v wx)
      have HNX := hide (rbB_next hz)
      have HT : Hid (bn1 (v, p) = if v.k = 0 then [] else vaB v p.t) := hide rfl
      have HO := hide (fun hq => rbOk_next hz (unhide HQ) hq)
      have HX := hide (fun hq => rbOk_no hz hq)
      have HBO := hide (fun (h : vOk v p.t p.un = true) (hk : ¬ v.k = 0) => ok_some h hk)
      have HVL := hide (vaB_len v p.t)
      have HNB3 := hide (fun q => nb_next hv q)
      have KT := hide (fun (w' : World) (hx : Below wr.heap.size wr w') => (hty.later hx).two)
      clear hat hv hKv hp hz hty hp0 hp1
      generalize bn1 (v, p) = T1 at *
      generalize vaB v p.t = T2 at *
      simp only at HO HX
      generalize hOK : vOk v p.t p.un = OK at *
      clear hOK
      generalize bOk v p.t p.un = BO at *
      obtain ⟨pt, pu⟩ := p
      obtain ⟨k, i, b, tx, ⟨ng, y, mo, d, h, mi, s, mc⟩⟩ := v
      unfold vaC at cC cA cN SV OV
      simp only at cC cA cN SV OV HT HBO HVL KT HNB3
      cases OK
      · simp only [if_neg (show ¬ (false = true) by decide)] at cC
        have HR := hide (show OKK = false by rw [unhide HOK2]; exact unhide HX (by trivial))
        clear cA cN HNX HT HO HBO HVL HRL HNB3
        go_upto_region 10 with (first | (with_reducible show wpList Tryz.prog _ _ (Oper.mk _ (Op.load 38 _) _ _ _ none :: _) _ _; refine wpList_ldV rfl (.tmp 32) rfl pb po rfl ⟨k, i, b, tx, ⟨ng, y, mo, d, h, mi, s, mc⟩⟩ (unhide HAT) ?_) | (with_reducible show wpList Tryz.prog _ _ (Oper.mk _ (Op.store 38 _ _) _ _ _ none :: _) _ _; refine wpList_stN rfl _ (.tmp 11) (.tmp 33) rfl #[.int .i64 k, .int .i64 i, .int .u64 b, .string tx, .bool ng, .int .i64 y, .int .i64 mo, .int .i64 d, .int .i64 h, .int .i64 mi, .int .i64 s, .int .i64 mc] (by simp [Act.eval, Act.put]) rfl (unhide SV) rfl (unhide OV) ?_; intro w2 r2 b2 l2; have R2 := hide r2; have B2 := hide b2; clear r2 b2 l2))
        have KS := hide (fun (w' : World) (hx : Below w2.heap.size w2 w') => (show w'.cell? ⟨wr.heap.size, 0, none⟩ = some (.int .i64 k) ∧ w'.cell? ⟨wr.heap.size, 1, none⟩ = some (.int .i64 i) ∧ w'.cell? ⟨wr.heap.size, 2, none⟩ = some (.int .u64 b) ∧ w'.cell? ⟨wr.heap.size, 3, none⟩ = some (.string tx) ∧ w'.cell? ⟨wr.heap.size, 4, none⟩ = some (.bool ng) ∧ w'.cell? ⟨wr.heap.size, 5, none⟩ = some (.int .i64 y) ∧ w'.cell? ⟨wr.heap.size, 6, none⟩ = some (.int .i64 mo) ∧ w'.cell? ⟨wr.heap.size, 7, none⟩ = some (.int .i64 d) ∧ w'.cell? ⟨wr.heap.size, 8, none⟩ = some (.int .i64 h) ∧ w'.cell? ⟨wr.heap.size, 9, none⟩ = some (.int .i64 mi) ∧ w'.cell? ⟨wr.heap.size, 10, none⟩ = some (.int .i64 s) ∧ w'.cell? ⟨wr.heap.size, 11, none⟩ = some (.int .i64 mc) ∧ w'.cell? ⟨tb, tq, none⟩ = some (.int .u8 pt) ∧ w'.cell? ⟨tb, tq + 1, none⟩ = some (.bool pu) from (have q := vrow_later (unhide R2) hx; have hy := (unhide B2).trans (hx.mono (unhide B2).size); ⟨vrow_cell q (j := 0) (v := .int .i64 k) rfl, vrow_cell q (j := 1) (v := .int .i64 i) rfl, vrow_cell q (j := 2) (v := .int .u64 b) rfl, vrow_cell q (j := 3) (v := .string tx) rfl, vrow_cell q (j := 4) (v := .bool ng) rfl, vrow_cell q (j := 5) (v := .int .i64 y) rfl, vrow_cell q (j := 6) (v := .int .i64 mo) rfl, vrow_cell q (j := 7) (v := .int .i64 d) rfl, vrow_cell q (j := 8) (v := .int .i64 h) rfl, vrow_cell q (j := 9) (v := .int .i64 mi) rfl, vrow_cell q (j := 10) (v := .int .i64 s) rfl, vrow_cell q (j := 11) (v := .int .i64 mc) rfl, (unhide KT _ hy).1, (unhide KT _ hy).2⟩)))
        go_region_held3 (fun w' => w'.cell? ⟨wr.heap.size, 0, none⟩ = some (.int .i64 k) ∧ w'.cell? ⟨wr.heap.size, 1, none⟩ = some (.int .i64 i) ∧ w'.cell? ⟨wr.heap.size, 2, none⟩ = some (.int .u64 b) ∧ w'.cell? ⟨wr.heap.size, 3, none⟩ = some (.string tx) ∧ w'.cell? ⟨wr.heap.size, 4, none⟩ = some (.bool ng) ∧ w'.cell? ⟨wr.heap.size, 5, none⟩ = some (.int .i64 y) ∧ w'.cell? ⟨wr.heap.size, 6, none⟩ = some (.int .i64 mo) ∧ w'.cell? ⟨wr.heap.size, 7, none⟩ = some (.int .i64 d) ∧ w'.cell? ⟨wr.heap.size, 8, none⟩ = some (.int .i64 h) ∧ w'.cell? ⟨wr.heap.size, 9, none⟩ = some (.int .i64 mi) ∧ w'.cell? ⟨wr.heap.size, 10, none⟩ = some (.int .i64 s) ∧ w'.cell? ⟨wr.heap.size, 11, none⟩ = some (.int .i64 mc) ∧ w'.cell? ⟨tb, tq, none⟩ = some (.int .u8 pt) ∧ w'.cell? ⟨tb, tq + 1, none⟩ = some (.bool pu)) (first | with_reducible exact unhide KS _ b4 | with_reducible exact unhide KS _ (Below.refl _ _) | with_reducible exact unhide KS _ (Below.drew (Below.refl _ _)) | go_keep) (first | (go_at_call 46; (with_reducible refine (unhide cC _).mono ?_); rintro e w4 ⟨rfl, b4'⟩; have b4 := (below_drew w2).trans (b4'.mono (below_drew w2).size)))
        go_wp2_with fail
        go_ret2
        unfold OutN
        rw [unhide HR]
        exact ⟨rfl, (unhide HB).trans (((unhide B2).trans (b4.mono (unhide B2).size)).mono (by omega))⟩
      · simp only [if_pos (show true = true from rfl)] at cC
        clear HX
        have HO' := hide (unhide HO (by trivial))
        clear HO
        go_upto_region 10 with (first | (with_reducible show wpList Tryz.prog _ _ (Oper.mk _ (Op.load 38 _) _ _ _ none :: _) _ _; refine wpList_ldV rfl (.tmp 32) rfl pb po rfl ⟨k, i, b, tx, ⟨ng, y, mo, d, h, mi, s, mc⟩⟩ (unhide HAT) ?_) | (with_reducible show wpList Tryz.prog _ _ (Oper.mk _ (Op.store 38 _ _) _ _ _ none :: _) _ _; refine wpList_stN rfl _ (.tmp 11) (.tmp 33) rfl #[.int .i64 k, .int .i64 i, .int .u64 b, .string tx, .bool ng, .int .i64 y, .int .i64 mo, .int .i64 d, .int .i64 h, .int .i64 mi, .int .i64 s, .int .i64 mc] (by simp [Act.eval, Act.put]) rfl (unhide SV) rfl (unhide OV) ?_; intro w2 r2 b2 l2; have R2 := hide r2; have B2 := hide b2; clear r2 b2 l2))
        have KS := hide (fun (w' : World) (hx : Below w2.heap.size w2 w') => (show w'.cell? ⟨wr.heap.size, 0, none⟩ = some (.int .i64 k) ∧ w'.cell? ⟨wr.heap.size, 1, none⟩ = some (.int .i64 i) ∧ w'.cell? ⟨wr.heap.size, 2, none⟩ = some (.int .u64 b) ∧ w'.cell? ⟨wr.heap.size, 3, none⟩ = some (.string tx) ∧ w'.cell? ⟨wr.heap.size, 4, none⟩ = some (.bool ng) ∧ w'.cell? ⟨wr.heap.size, 5, none⟩ = some (.int .i64 y) ∧ w'.cell? ⟨wr.heap.size, 6, none⟩ = some (.int .i64 mo) ∧ w'.cell? ⟨wr.heap.size, 7, none⟩ = some (.int .i64 d) ∧ w'.cell? ⟨wr.heap.size, 8, none⟩ = some (.int .i64 h) ∧ w'.cell? ⟨wr.heap.size, 9, none⟩ = some (.int .i64 mi) ∧ w'.cell? ⟨wr.heap.size, 10, none⟩ = some (.int .i64 s) ∧ w'.cell? ⟨wr.heap.size, 11, none⟩ = some (.int .i64 mc) ∧ w'.cell? ⟨tb, tq, none⟩ = some (.int .u8 pt) ∧ w'.cell? ⟨tb, tq + 1, none⟩ = some (.bool pu) from (have q := vrow_later (unhide R2) hx; have hy := (unhide B2).trans (hx.mono (unhide B2).size); ⟨vrow_cell q (j := 0) (v := .int .i64 k) rfl, vrow_cell q (j := 1) (v := .int .i64 i) rfl, vrow_cell q (j := 2) (v := .int .u64 b) rfl, vrow_cell q (j := 3) (v := .string tx) rfl, vrow_cell q (j := 4) (v := .bool ng) rfl, vrow_cell q (j := 5) (v := .int .i64 y) rfl, vrow_cell q (j := 6) (v := .int .i64 mo) rfl, vrow_cell q (j := 7) (v := .int .i64 d) rfl, vrow_cell q (j := 8) (v := .int .i64 h) rfl, vrow_cell q (j := 9) (v := .int .i64 mi) rfl, vrow_cell q (j := 10) (v := .int .i64 s) rfl, vrow_cell q (j := 11) (v := .int .i64 mc) rfl, (unhide KT _ hy).1, (unhide KT _ hy).2⟩)))
        go_region_held3 (fun w' => w'.cell? ⟨wr.heap.size, 0, none⟩ = some (.int .i64 k) ∧ w'.cell? ⟨wr.heap.size, 1, none⟩ = some (.int .i64 i) ∧ w'.cell? ⟨wr.heap.size, 2, none⟩ = some (.int .u64 b) ∧ w'.cell? ⟨wr.heap.size, 3, none⟩ = some (.string tx) ∧ w'.cell? ⟨wr.heap.size, 4, none⟩ = some (.bool ng) ∧ w'.cell? ⟨wr.heap.size, 5, none⟩ = some (.int .i64 y) ∧ w'.cell? ⟨wr.heap.size, 6, none⟩ = some (.int .i64 mo) ∧ w'.cell? ⟨wr.heap.size, 7, none⟩ = some (.int .i64 d) ∧ w'.cell? ⟨wr.heap.size, 8, none⟩ = some (.int .i64 h) ∧ w'.cell? ⟨wr.heap.size, 9, none⟩ = some (.int .i64 mi) ∧ w'.cell? ⟨wr.heap.size, 10, none⟩ = some (.int .i64 s) ∧ w'.cell? ⟨wr.heap.size, 11, none⟩ = some (.int .i64 mc) ∧ w'.cell? ⟨tb, tq, none⟩ = some (.int .u8 pt) ∧ w'.cell? ⟨tb, tq + 1, none⟩ = some (.bool pu)) (first | with_reducible exact unhide KS _ b4 | with_reducible exact unhide KS _ (Below.refl _ _) | with_reducible exact unhide KS _ (Below.drew (Below.refl _ _)) | go_keep) (first | (go_at_call 46; (with_reducible refine (unhide cC _).mono ?_); rintro e w4 ⟨rfl, b4'⟩; have b4 := (below_drew w2).trans (b4'.mono (below_drew w2).size)))
        have R4 := hide (vrow_later (unhide R2) b4)
        have B4 := hide ((unhide B2).trans (b4.mono (unhide B2).size))
        obtain ⟨k0, k1, k2, k3, k4, k5, k6, k7, k8, k9, k10, k11, u0, u1⟩ := unhide KS w4 b4
        clear b4 b4' KS R2 B2
        by_cases hk : k = 0
        · have ek : (k == 0) = true := by simpa using hk
          rw [ek] at cN HNB3
          have HT' := hide (show T1 = [] by rw [unhide HT, if_pos hk])
          have cS := hide (fun wx (hx : Mine w.heap.size wx (some ⟨w.heap.size, 0, none⟩) NB NB nl) => setNull_any w.heap.size w.heap.size NB NB nl j wx hx (by rw [unhide HNB]; omega) (by omega))
          clear cA HT HBO HVL ek hk cC
          go_wp2_with (first | (go_at_call 28; (with_reducible refine (unhide cN _).mono ?_); rintro e w5 ⟨rfl, b5⟩; have X5 := hide b5; have B5 := hide ((unhide B4).trans (b5.mono (unhide B4).size)); clear b5) | (go_at_call 47; (with_reducible refine (unhide cS _ ((unhide HN).later (unhide B5))).mono ?_); rintro e w6 ⟨rfl, nl', n6, bt6, g6⟩; have N6 := hide n6; have M6 := hide (mine_gb' ((unhide HM).later (unhide B5)) (Nat.lt_succ_self _) g6); have HB6 := hide (below_gb' ((unhide HB).trans ((unhide B5).mono (by omega))) g6 (by have := (unhide B5).size; omega)); have S6 := g6.size; have BT6 := hide bt6; have T5 := (unhide B5).size; clear n6 g6 bt6))
          go_roundw
          case rel => exact ⟨j + 1, oo, on, oc, nl', by omega, by go_num, rfl, unhide N6, (fun q => by rw [unhide BT6 q, unhide HBT q, unhide HNB3 q]; simp), (by rw [unhide HNX, unhide HT', List.append_nil]; exact unhide M6), unhide HO', unhide HB6, by omega⟩
          case measure => simp [intOf]; omega
        · have ek : (k == 0) = false := by simpa using hk
          rw [ek] at cN HNB3
          have HT' := hide (show T1 = T2 by rw [unhide HT, if_neg hk])
          rw [unhide HBO (by trivial) hk, if_pos rfl, List.nil_append] at cA
          unfold OutP at cA
          simp only at cA
          have hvl := unhide HVL
          clear HT HBO HVL ek hk cC
          go_upto_region 15 with (first | (go_at_call 28; (with_reducible refine (unhide cN _).mono ?_); rintro e w5 ⟨rfl, b5⟩; have X5 := hide b5; have B5 := hide ((unhide B4).trans (b5.mono (unhide B4).size)); clear b5))
          have R5 := hide (vrow_later (unhide R4) (unhide X5))
          have KS := hide (fun (w' : World) (hx : Below w5.heap.size w5 w') => (show w'.cell? ⟨wr.heap.size, 0, none⟩ = some (.int .i64 k) ∧ w'.cell? ⟨wr.heap.size, 1, none⟩ = some (.int .i64 i) ∧ w'.cell? ⟨wr.heap.size, 2, none⟩ = some (.int .u64 b) ∧ w'.cell? ⟨wr.heap.size, 3, none⟩ = some (.string tx) ∧ w'.cell? ⟨wr.heap.size, 4, none⟩ = some (.bool ng) ∧ w'.cell? ⟨wr.heap.size, 5, none⟩ = some (.int .i64 y) ∧ w'.cell? ⟨wr.heap.size, 6, none⟩ = some (.int .i64 mo) ∧ w'.cell? ⟨wr.heap.size, 7, none⟩ = some (.int .i64 d) ∧ w'.cell? ⟨wr.heap.size, 8, none⟩ = some (.int .i64 h) ∧ w'.cell? ⟨wr.heap.size, 9, none⟩ = some (.int .i64 mi) ∧ w'.cell? ⟨wr.heap.size, 10, none⟩ = some (.int .i64 s) ∧ w'.cell? ⟨wr.heap.size, 11, none⟩ = some (.int .i64 mc) ∧ w'.cell? ⟨tb, tq, none⟩ = some (.int .u8 pt) ∧ w'.cell? ⟨tb, tq + 1, none⟩ = some (.bool pu) from (have q := vrow_later (unhide R5) hx; have hy := (unhide B5).trans (hx.mono (unhide B5).size); ⟨vrow_cell q (j := 0) (v := .int .i64 k) rfl, vrow_cell q (j := 1) (v := .int .i64 i) rfl, vrow_cell q (j := 2) (v := .int .u64 b) rfl, vrow_cell q (j := 3) (v := .string tx) rfl, vrow_cell q (j := 4) (v := .bool ng) rfl, vrow_cell q (j := 5) (v := .int .i64 y) rfl, vrow_cell q (j := 6) (v := .int .i64 mo) rfl, vrow_cell q (j := 7) (v := .int .i64 d) rfl, vrow_cell q (j := 8) (v := .int .i64 h) rfl, vrow_cell q (j := 9) (v := .int .i64 mi) rfl, vrow_cell q (j := 10) (v := .int .i64 s) rfl, vrow_cell q (j := 11) (v := .int .i64 mc) rfl, (unhide KT _ hy).1, (unhide KT _ hy).2⟩)))
          clear k0 k1 k2 k3 k4 k5 k6 k7 k8 k9 k10 k11 u0 u1
          go_region_held3 (fun w' => w'.cell? ⟨wr.heap.size, 0, none⟩ = some (.int .i64 k) ∧ w'.cell? ⟨wr.heap.size, 1, none⟩ = some (.int .i64 i) ∧ w'.cell? ⟨wr.heap.size, 2, none⟩ = some (.int .u64 b) ∧ w'.cell? ⟨wr.heap.size, 3, none⟩ = some (.string tx) ∧ w'.cell? ⟨wr.heap.size, 4, none⟩ = some (.bool ng) ∧ w'.cell? ⟨wr.heap.size, 5, none⟩ = some (.int .i64 y) ∧ w'.cell? ⟨wr.heap.size, 6, none⟩ = some (.int .i64 mo) ∧ w'.cell? ⟨wr.heap.size, 7, none⟩ = some (.int .i64 d) ∧ w'.cell? ⟨wr.heap.size, 8, none⟩ = some (.int .i64 h) ∧ w'.cell? ⟨wr.heap.size, 9, none⟩ = some (.int .i64 mi) ∧ w'.cell? ⟨wr.heap.size, 10, none⟩ = some (.int .i64 s) ∧ w'.cell? ⟨wr.heap.size, 11, none⟩ = some (.int .i64 mc) ∧ w'.cell? ⟨tb, tq, none⟩ = some (.int .u8 pt) ∧ w'.cell? ⟨tb, tq + 1, none⟩ = some (.bool pu)) (first | with_reducible exact unhide KS _ b7 | with_reducible exact unhide KS _ (Below.refl _ _) | with_reducible exact unhide KS _ (Below.drew (Below.refl _ _)) | go_keep) (first | (go_at_call 48; (with_reducible refine (unhide cA _).mono ?_); rintro e w7 ⟨ax, an, ac, rfl, m7, b7'⟩; have b7 := (below_drew w5).trans (b7'.mono (below_drew w5).size)))
          have han := m7.len
          have hale := m7.bs.le
          have hamx := m7.bs.max
          have MB7 := hide m7.bs
          have B7 := hide ((unhide B5).trans (b7.mono (unhide B5).size))
          have M7 := hide ((unhide HM).later (unhide B7))
          have N7 := hide ((unhide HN).later (unhide B7))
          have HB7 := hide ((unhide HB).trans ((unhide B7).mono (by omega)))
          have z7 := (unhide B7).size
          clear m7 b7 b7' KS cA
          go_wp2_with (at_builtin; refine wpList_app rfl (.tmp 57) (.tmp 58) rfl (w.heap.size + 1) oo on oc _ rfl (unhide M7) ax an ac T2 rfl (unhide MB7) (by omega) (by omega) ?_; intro a8 c8 w8 m8 b8; have M8 := hide m8; have HB8 := hide ((unhide HB7).trans (b8.mono (Nat.le_succ _))); have z8 := b8.size; have N8 := hide (mine_keep' (unhide N7) b8); clear m8 b8)
          go_roundw
          case rel => exact ⟨j + 1, a8, on + an, c8, nl, by omega, by go_num, rfl, unhide N8, (fun q => by rw [unhide HBT q, unhide HNB3 q]; simp), (by rw [unhide HNX, unhide HT']; exact unhide M8), unhide HO', unhide HB8, by omega⟩
          case measure => simp [intOf]; omega
    · have hjn : j = n := by omega
      subst hjn
      have hlj : ¬ ((j : Nat) : Int) < (j : Int) := by omega
      have hq := unhide HQ
      have hm := unhide HM
      have hbt := unhide HBT
      rw [List.take_of_length_le (by rw [unhide HZL]; omega)] at hq hm
      rw [List.take_of_length_le (by omega)] at hbt
      have HR := hide (show OKK = true by rw [unhide HOK2]; exact hq)
      have HI := hide (show Isn l nl from ⟨by rw [(unhide HN).len, hln]; exact unhide HNB, (unhide HN).byt, hbt⟩)
      have q1 := below_alloc wr (.cells #[.int .u8 0] 5)
      have q2 := below_alloc (wr.alloc (.cells #[.int .u8 0] 5)) (.cells #[.slice bo bn bc, .slice (some ⟨wr.heap.size, 0, none⟩) 1 1, .slice (some ⟨w.heap.size, 0, none⟩) NB NB, .slice oo on oc] 29)
      have hs1 : (wr.alloc (.cells #[.int .u8 0] 5)).heap.size = wr.heap.size + 1 := by simp
      have cC := hide (concat4_any (wr.heap.size + 1) bo bn bc bb (some ⟨wr.heap.size, 0, none⟩) 1 1 [0] (some ⟨w.heap.size, 0, none⟩) NB NB nl oo on oc (rbB (l.zip ts)) ((wr.alloc (.cells #[.int .u8 0] 5)).alloc (.cells #[.slice bo bn bc, .slice (some ⟨wr.heap.size, 0, none⟩) 1 1, .slice (some ⟨w.heap.size, 0, none⟩) NB NB, .slice oo on oc] 29)) ((((unhide HBB).later (unhide HB)).later q1).later q2) ((Bs.one wr 0 (by omega) (by omega)).later q2) (((unhide HN).bs.later q1).later q2) ((hm.bs.later q1).later q2) (cell_top (wr.alloc (.cells #[.int .u8 0] 5)) _ _ 0 _ (by simp)) (cell_top (wr.alloc (.cells #[.int .u8 0] 5)) _ _ 1 _ (by simp)) (cell_top (wr.alloc (.cells #[.int .u8 0] 5)) _ _ 2 _ (by simp)) (cell_top (wr.alloc (.cells #[.int .u8 0] 5)) _ _ 3 _ (by simp)) (by omega) (by omega) (by omega) (by omega))
      have BQ := hide (q1.trans (q2.mono q1.size))
      clear hq hm hbt HM HRL HQ HK HTT HBT q1 q2 HOK2 HZL
      go_wp2_with fail
      refine (unhide cC).mono ?_
      rintro e w2 ⟨xo, xn, xc, rfl, m2, b2⟩
      have M2 := hide m2
      have B2 := hide ((unhide HB).trans (((unhide BQ).trans (b2.mono (unhide BQ).size)).mono (by omega)))
      have hz2 := (unhide BQ).size
      clear m2 b2 cC
      go_wp2_with fail
      go_ret2
      unfold OutN
      rw [unhide HR, if_pos rfl]
      exact ⟨nl, xo, xn, xc, unhide HI, rfl, (unhide M2).mono (by omega), unhide B2⟩


end Go.Proofs.YtkcblnojgonblaaGreatDoor
