/-
  What the inner functions of package scramble, and Nonce and Check, return. They write nothing that was there. Conditions: the slices can be read; the table of constants holds what the program's text says; lengths below 400,000.
-/
import Derived.Test.YtfnnafhifpolmaaDoorScrPlain
import Derived.Test.YtfnnafhifpolmaaDoorScrLib
import Derived.Test.YtfnnafhifpolmaaDoorShaAll
namespace Go.Proofs.YtfnnafhifpolmaaDoor
open Go.RowKit
set_option linter.unusedVariables false
set_option linter.unusedSimpArgs false

/-- New bytes, and an error. -/
def OutT (w : World) (l : List Int) (E : Int) (e : Ending) (w' : World) : Prop :=
  ∃ ao n c, e = .returned (.tuple #[.slice ao n c, .int .i64 E]) ∧ Mine w.heap.size w' ao n c l ∧ Below w.heap.size w w'
/-- An answer, and an error. -/
def OutQ (w : World) (b : Bool) (E : Int) (e : Ending) (w' : World) : Prop :=
  e = .returned (.tuple #[.bool b, .int .i64 E]) ∧ Below w.heap.size w w'

theorem nby_hi {x : Int} (h : 36 ≤ x % 254 + 1) : nby x = x % 254 + 1 + 1 := by unfold nby; rw [if_pos h]; omega
theorem nby_lo {x : Int} (h : ¬ 36 ≤ x % 254 + 1) : nby x = x % 254 + 1 := by unfold nby; rw [if_neg h]

set_option maxHeartbeats 400000 in
theorem nonceByte_any (x : Int) (w : World) (h0 : 0 ≤ x) (h1 : x ≤ 255) :
    Calls Tryd.prog 29 #[.int .u8 x] w fun e w' => e = .returned (.int .u8 (nby x)) ∧ w' = w := by
  by_cases h : 36 ≤ x % 254 + 1
  · rw [nby_hi h]
    go_enter Tryd.func29, Tryd.ntmps29
    go_wp2
    go_ret
    exact ⟨rfl, rfl⟩
  · rw [nby_lo h]
    go_enter Tryd.func29, Tryd.ntmps29
    go_wp2
    go_ret
    exact ⟨rfl, rfl⟩

set_option maxHeartbeats 1000000 in
theorem nonce_any (bo : Option Addr) (bn bc : Nat) (ds : List Int) (w : World) (h : Bs w bo bn bc ds) :
    Calls Tryd.prog 11 #[.slice bo bn bc] w fun e w' => OutT w (nonA ds) (nonE ds) e w' := by
  have hlen := h.len
  have hle := h.le
  have hmx := h.max
  by_cases h20 : bn = 20
  · subst h20
    have eE : nonE ds = 0 := by unfold nonE; rw [if_pos hlen]
    have eA := hide (show nonA ds = ds.map nby by unfold nonA; rw [if_pos hlen])
    rw [eE]
    have H := hide h
    have HL := hide hlen
    clear h hlen eE
    go_enter Tryd.func11, Tryd.ntmps11
    go_wp2_with (first
      | (at_make; refine wpList_mk rfl _ _ rfl _ _ _ 20 rfl rfl (by omega) (by omega) ?_; intro w1 m1 b1 z1))
    go_loopw [13, 4] (fun i v ws => ∃ (j : Nat) (ao : Option Addr) (c : Nat), j ≤ 20 ∧ i = .int .i64 j ∧ v = .slice ao j c ∧ Mine w.heap.size ws ao j c ((ds.take j).map nby) ∧ Below w.heap.size w ws) (fun i _ _ => 20 - (intOf i).toNat)
    case atStart => exact ⟨0, _, _, by omega, rfl, rfl, m1, b1⟩
    case round =>
      clear m1 b1 z1
      obtain ⟨j, ao, c, hj, rfl, rfl, hM, hB⟩ := hrel
      by_cases hlt : j < 20
      · obtain ⟨pb, po, hix, hcx⟩ := ((unhide H).later hB).idx hlt (j : Int) rfl
        have hst := hide (map_next nby (l := ds) (j := j) (by rw [unhide HL]; exact hlt))
        have hX := (unhide H).byt.at j
        generalize ds[j]?.getD 0 = X at *
        obtain ⟨X0, X1⟩ := hX
        have nc := hide (fun wx => nonceByte_any X wx X0 X1)
        have hNb := nby_byt X X0 X1
        generalize nby X = Y at *
        obtain ⟨Y0, Y1⟩ := hNb
        have HM := hide hM
        have HB := hide hB
        have hBs := hB.size
        clear hM hB
        go_wp2_with (first
          | (go_at_call 29; refine same_world (unhide nc _) ?_)
          | (at_builtin; refine wpList_app rfl (.tmp 17) (.tmp 20) rfl w.heap.size ao j c _ rfl ((unhide HM).later (below_alloc wr _)) _ 1 1 _ rfl (Bs.one wr Y Y0 Y1) (by omega) (by simp <;> omega) ?_; intro a3 c3 w3 m3 b3; have M3 := hide m3; have B3 := hide (((unhide HB).trans ((below_alloc wr _).mono hBs)).trans b3); clear m3 b3))
        go_roundw
        case rel =>
          refine ⟨j + 1, a3, c3, by omega, by go_num, rfl, ?_, unhide B3⟩
          rw [unhide hst]
          exact unhide M3
        case measure => simp [intOf]; omega
      · have hjn : j = 20 := by omega
        subst hjn
        rw [List.take_of_length_le (by rw [unhide HL]; omega), ← unhide eA] at hM
        have HM := hide hM
        have HB := hide hB
        clear hM hB
        go_wp2_with fail
        go_ret2
        exact ⟨ao, _, c, rfl, unhide HM, unhide HB⟩
  · have eE : nonE ds = 2 := by unfold nonE; rw [if_neg (by omega)]
    have eA : nonA ds = [] := by unfold nonA; rw [if_neg (by omega)]
    have h20' : ((bn : Int) != 20) = true := by simp; omega
    rw [eE, eA]
    clear h hlen eE eA h20
    go_enter Tryd.func11, Tryd.ntmps11
    go_wp2_with fail
    go_ret2
    exact ⟨none, 0, 0, rfl, Mine.nought _ _, Below.refl _ _⟩

set_option maxHeartbeats 1000000 in
theorem check_any (bo : Option Addr) (bn bc : Nat) (ns : List Int) (w : World) (h : Bs w bo bn bc ns) :
    Calls Tryd.prog 13 #[.slice bo bn bc] w fun e w' => e = .returned (.int .i64 (nck ns)) ∧ w' = w := by
  have hlen := h.len
  have hle := h.le
  have hmx := h.max
  by_cases h20 : bn = 20
  · subst h20
    obtain ⟨R, hR⟩ : ∃ R, R = nck ns := ⟨_, rfl⟩
    rw [← hR]
    have HR := hide hR
    have H := hide h
    have HL := hide hlen
    clear h hlen hR
    go_enter Tryd.func13, Tryd.ntmps13
    go_wp2_with fail
    go_loop [10] (fun i => ∃ (j : Nat), j ≤ 20 ∧ i = .int .i64 j ∧ (ns.take j).all okb = true) (fun i => 20 - (intOf i).toNat)
    case atStart => exact ⟨0, by omega, rfl, rfl⟩
    case round =>
      obtain ⟨j, hj, rfl, ha⟩ := hrel
      by_cases hlt : j < 20
      · obtain ⟨pb, po, hix, hcx⟩ := (unhide H).idx hlt (j : Int) rfl
        by_cases hk : okb (ns[j]?.getD 0) = true
        · have hn := hide (all_next (by rw [unhide HL]; exact hlt) ha hk)
          have e1 : (ns[j]?.getD 0 == 0) = false := by unfold okb at hk; cases q : (ns[j]?.getD 0 == 0) <;> simp_all
          have e2 : (ns[j]?.getD 0 == 36) = false := by unfold okb at hk; cases q : (ns[j]?.getD 0 == 36) <;> simp_all
          generalize ns[j]?.getD 0 = X at *
          clear ha hk
          go_wp2_with fail
          go_round
          case rel => exact ⟨j + 1, by omega, by go_num, unhide hn⟩
          case measure => simp [intOf]; omega
        · have hk' : okb (ns[j]?.getD 0) = false := by simpa using hk
          have hno := hide (show R = 2 by rw [unhide HR]; exact nck_at (by rw [unhide HL]; exact hlt) hk')
          have hor : ns[j]?.getD 0 = 0 ∨ ns[j]?.getD 0 = 36 := by unfold okb at hk'; simp at hk'; omega
          clear ha hk hk'
          generalize ns[j]?.getD 0 = X at *
          rcases hor with rfl | rfl
          · go_wp2_with fail
            go_ret
            exact ⟨by rw [unhide hno]; rfl, rfl⟩
          · go_wp2_with fail
            go_ret
            exact ⟨by rw [unhide hno]; rfl, rfl⟩
      · have hjn : j = 20 := by omega
        subst hjn
        rw [List.take_of_length_le (by rw [unhide HL]; omega)] at ha
        have hyes := hide (show R = 0 by rw [unhide HR]; exact nck_of (unhide HL) ha)
        clear ha
        go_wp2_with fail
        go_ret
        exact ⟨by rw [unhide hyes]; rfl, rfl⟩
  · rw [nck_len (by omega)]
    have h20' : ((bn : Int) != 20) = true := by simp; omega
    clear h hlen h20
    go_enter Tryd.func13, Tryd.ntmps13
    go_wp2_with fail
    go_ret
    exact ⟨rfl, rfl⟩

/-- How long a hash of a kind is; 0 if there is no such kind. -/
def szE (k : Int) : Int := if k = 1 then 20 else if k = 2 then 32 else 0
set_option maxHeartbeats 400000 in
theorem size_any (k : Int) (w : World) : Calls Tryd.prog 26 #[.int .i64 k] w fun e w' => e = .returned (.int .i64 (szE k)) ∧ w' = w := by
  by_cases h1 : k = 1
  · subst h1
    rw [show szE 1 = 20 from rfl]
    go_enter Tryd.func26, Tryd.ntmps26
    go_wp2
    go_ret
    exact ⟨rfl, rfl⟩
  · by_cases h2 : k = 2
    · subst h2
      rw [show szE 2 = 32 from rfl]
      go_enter Tryd.func26, Tryd.ntmps26
      go_wp2
      go_ret
      exact ⟨rfl, rfl⟩
    · rw [show szE k = 0 by unfold szE; rw [if_neg h1, if_neg h2]]
      have e1 : (k == 1) = false := by simpa using h1
      have e2 : (k == 2) = false := by simpa using h2
      clear h1 h2
      go_enter Tryd.func26, Tryd.ntmps26
      go_wp2
      go_ret
      exact ⟨rfl, rfl⟩

set_option maxHeartbeats 400000 in
theorem scrSum_any (k : Int) (bo : Option Addr) (bn bc : Nat) (bs : List Int) (w : World) (hk : k = 1 ∨ k = 2) (hb : Bs w bo bn bc bs) (hv : Vars w) (hbd : bn ≤ 1000000000000) :
    Calls Tryd.prog 27 #[.int .i64 k, .slice bo bn bc] w fun e w' => OutB w (sumk k bs) e w' := by
  have c1 := hide (sum1_any bo bn bc bs w hb hv hbd)
  have c2 := hide (sum256_any bo bn bc bs w hb hv hbd)
  clear hb hv hbd
  rcases hk with rfl | rfl
  · go_enter Tryd.func27, Tryd.ntmps27
    go_wp2_with fail
    refine (unhide c1).mono ?_
    rintro e w6 ⟨ao, n, c, rfl, m6, b6⟩
    go_wp2_with fail
    go_ret
    exact ⟨ao, n, c, rfl, m6, b6⟩
  · go_enter Tryd.func27, Tryd.ntmps27
    go_wp2_with fail
    refine (unhide c2).mono ?_
    rintro e w6 ⟨ao, n, c, rfl, m6, b6⟩
    go_wp2_with fail
    go_ret
    exact ⟨ao, n, c, rfl, m6, b6⟩

theorem concat_new (ao : Option Addr) (n c : Nat) (xs : List Int) (bo : Option Addr) (m d : Nat) (ys : List Int) (w : World) (h : Bs w ao n c xs) (k : Bs w bo m d ys) (hn : n ≤ 400000) (hm : m ≤ 400000) (h0 : 0 < n + m) :
    Calls Tryd.prog 46 #[.slice (some ⟨w.heap.size, 0, none⟩) 2 2] (w.alloc (.cells #[.slice ao n c, .slice bo m d] 22)) fun e w' => ∃ ao n c, e = .returned (.slice ao n c) ∧ Mine w.heap.size w' ao n c (xs ++ ys) ∧ Below w.heap.size w w' := by
  refine (concat_any w.heap.size ao n c xs bo m d ys _ (h.later (below_alloc w _)) (k.later (below_alloc w _)) (by rw [cell_top w _ _ 0 _ rfl]; rfl) (by rw [cell_top w _ _ 1 _ rfl]; rfl) hn hm h0).mono ?_
  rintro e w' ⟨ao, n, c, rfl, m1, b1⟩
  have hz : w.heap.size ≤ (w.alloc (.cells #[.slice ao n c, .slice bo m d] 22)).heap.size := by simp
  exact ⟨ao, n, c, rfl, m1.mono (by simp), (below_alloc w _).trans (b1.mono (by simp))⟩

set_option maxHeartbeats 1000000 in
theorem cover_any (k : Int) (so : Option Addr) (sn sc : Nat) (ss : List Int) (no : Option Addr) (nn nc : Nat) (ns : List Int) (w : World) (hk : k = 1 ∨ k = 2) (hs : Bs w so sn sc ss) (hn : Bs w no nn nc ns) (hv : Vars w) (h1 : sn ≤ 400000) (h2 : nn ≤ 400000) (h0 : 0 < nn) :
    Calls Tryd.prog 36 #[.int .i64 k, .slice so sn sc, .slice no nn nc] w fun e w' => OutB w (cov k ss ns) e w' := by
  have HV := hide hv
  rcases hk with rfl | rfl
  · have cc := hide (concat_new no nn nc ns so sn sc ss w hn hs h2 h1 (by omega))
    have hl := hide (show (ns ++ ss).length ≤ 800000 by rw [List.length_append, hn.len, hs.len]; omega)
    have e := hide (show cov 1 ss ns = sumk 1 (ns ++ ss) from rfl)
    clear hs hn hv
    go_enter Tryd.func36, Tryd.ntmps36
    go_wp2_with fail
    refine (unhide cc).mono ?_
    rintro e w1 ⟨a1, n1, c1, rfl, m1, b1⟩
    have sc1 := hide (scrSum_any 1 a1 n1 c1 _ w1 (.inl rfl) m1.bs ((unhide HV).low b1) (by have := m1.len; have := unhide hl; omega))
    have B1 := hide b1
    clear m1 b1 cc
    go_wp2_with fail
    refine (unhide sc1).mono ?_
    rintro e w6 ⟨ao, n, c, rfl, m6, b6⟩
    have M6 := hide (m6.mono (unhide B1).size)
    have B6 := hide ((unhide B1).trans (b6.mono (unhide B1).size))
    clear m6 b6 sc1
    go_wp2_with fail
    go_ret
    exact ⟨ao, n, c, rfl, by rw [unhide e]; exact unhide M6, unhide B6⟩
  · have cc := hide (concat_new so sn sc ss no nn nc ns w hs hn h1 h2 (by omega))
    have hl := hide (show (ss ++ ns).length ≤ 800000 by rw [List.length_append, hn.len, hs.len]; omega)
    have e := hide (show cov 2 ss ns = sumk 2 (ss ++ ns) from rfl)
    clear hs hn hv
    go_enter Tryd.func36, Tryd.ntmps36
    go_wp2_with fail
    refine (unhide cc).mono ?_
    rintro e w1 ⟨a1, n1, c1, rfl, m1, b1⟩
    have sc1 := hide (scrSum_any 2 a1 n1 c1 _ w1 (.inr rfl) m1.bs ((unhide HV).low b1) (by have := m1.len; have := unhide hl; omega))
    have B1 := hide b1
    clear m1 b1 cc
    go_wp2_with fail
    refine (unhide sc1).mono ?_
    rintro e w6 ⟨ao, n, c, rfl, m6, b6⟩
    have M6 := hide (m6.mono (unhide B1).size)
    have B6 := hide ((unhide B1).trans (b6.mono (unhide B1).size))
    clear m6 b6 sc1
    go_wp2_with fail
    go_ret
    exact ⟨ao, n, c, rfl, by rw [unhide e]; exact unhide M6, unhide B6⟩

theorem run_idxOwn (g n c : Nat) {i : Nat} (hi : i < n) (I : Int) (hI : I = i) (wx : World) : (Instr.indexAt 22 (.slice (some ⟨g, 0, none⟩) n c) (.int .i64 I)).run Tryd.prog wx = .ok (.pointer (some ⟨g, i, none⟩)) wx := by
  subst hI
  rw [run_indexAt_slice wx 22 _ n c .i64 (i : Int) Tryd.elemBytes]
  simp [Tryd.sizeByte, hi, Addr.add_lit, Result.andThen]
theorem mine_cell {B : Nat} {w : World} {g n c : Nat} {bs : List Int} (h : Mine B w (some ⟨g, 0, none⟩) n c bs) {i : Nat} (hi : i < n) : w.cell? ⟨g, i, none⟩ = some (.int .u8 (bs[i]?.getD 0)) := by
  rcases h.bs.at' with q | ⟨b', o', e', c'⟩
  · omega
  · simp only [Option.some.injEq, Addr.mk.injEq, and_true] at e'
    obtain ⟨rfl, rfl⟩ := e'
    have := c' i hi
    rw [Nat.zero_add] at this
    simpa using this
theorem mine_drew {B : Nat} {w : World} {ao : Option Addr} {n c : Nat} {bs : List Int} (h : Mine B w ao n c bs) : Mine B w.drew ao n c bs := ⟨h.len, h.own.drew, h.byt⟩

set_option maxHeartbeats 2000000 in
theorem crossed_any (xo : Option Addr) (xn xc : Nat) (xs : List Int) (yo : Option Addr) (yn yc : Nat) (ys : List Int) (w : World) (hx : Bs w xo xn xc xs) (hy : Bs w yo yn yc ys) (hl : xn = yn) (hbd : xn ≤ 400000) :
    Calls Tryd.prog 35 #[.slice xo xn xc, .slice yo yn yc] w fun e w' => OutB w (crs xs ys) e w' := by
  subst hl
  have xl := hide hx.len
  have yl := hide hy.len
  have xle := hx.le
  have xmx := hx.max
  have yle := hy.le
  have ymx := hy.max
  have HX := hide hx
  have HY := hide hy
  clear hx hy
  go_enter Tryd.func35, Tryd.ntmps35
  go_wp2_with (first
    | (at_make; refine wpList_mkFull rfl _ _ rfl _ _ _ _ xn rfl rfl (by omega) (by omega) (by omega) ?_; intro w1 m1 b1 z1))
  go_loopw [12] (fun i ws => ∃ (j : Nat), j ≤ xn ∧ i = .int .i64 j ∧ Mine w.heap.size ws (some ⟨w.heap.size, 0, none⟩) xn xn (crs (xs.take j) ys ++ List.replicate (xn - j) 0) ∧ Below w.heap.size w ws) (fun i _ => xn - (intOf i).toNat)
  case atStart => exact ⟨0, by omega, rfl, by simpa [crs] using m1, b1⟩
  case round =>
    clear m1 b1 z1
    obtain ⟨j, hj, rfl, hM, hB⟩ := hrel
    by_cases hlt : j < xn
    · obtain ⟨pb, po, hix, hcx⟩ := ((unhide HX).later hB).idx hlt (j : Int) rfl
      obtain ⟨qb, qo, hiy, hcy⟩ := ((unhide HY).later hB).idx hlt (j : Int) rfl
      have hnx := hide (crs_next (a := xs) (b := ys) (j := j) (by rw [unhide xl]; exact hlt) (by rw [unhide yl]; exact hlt))
      have hcl : (crs (xs.take j) ys).length = j := by rw [crs_take _ _ (by rw [List.length_take, unhide xl, unhide yl]; omega), List.length_take, unhide xl]; omega
      have hfs := hide (fill_set (crs (xs.take j) ys) xn j (xr (xs[j]?.getD 0) (ys[j]?.getD 0)) hcl hlt)
      have hxb := (unhide HX).byt.at j
      have hyb := (unhide HY).byt.at j
      generalize xs[j]?.getD 0 = X at *
      generalize ys[j]?.getD 0 = Y at *
      have hio := run_idxOwn w.heap.size xn xn hlt (j : Int) rfl
      have cc := mine_cell hM hlt
      have fr := hM.free j
      have gB := hM.block
      have hv := xr_byt X Y
      have hxr : bits .xor .u8 X Y = xr X Y := rfl
      have HS := hide (hM.stored j (xr X Y) hv.1 hv.2)
      have HB := hide hB
      generalize xr X Y = V at *
      generalize (crs (xs.take j) ys ++ List.replicate (xn - j) 0)[j]?.getD 0 = V0 at *
      clear hM hB hcl
      go_wp2_with fail
      go_region
      all_goals go_wp2_with fail
      all_goals go_roundw
      all_goals first
        | exact ⟨j + 1, by omega, by go_num, mine_drew (by rw [unhide hnx, ← unhide hfs]; exact unhide HS), ((unhide HB).setCell gB.1 _).drew⟩
        | (simp [intOf] <;> omega)
    · have hjn : j = xn := by omega
      subst hjn
      rw [List.take_of_length_le (by rw [unhide xl]; omega), Nat.sub_self, List.replicate_zero, List.append_nil] at hM
      have HM := hide hM
      have HB := hide hB
      clear hM hB
      go_wp2_with fail
      go_ret
      exact ⟨_, _, _, rfl, unhide HM, unhide HB⟩

end Go.Proofs.YtfnnafhifpolmaaDoor
