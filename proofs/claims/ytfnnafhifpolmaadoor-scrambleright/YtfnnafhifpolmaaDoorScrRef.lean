/-
  What the functions of the document's own answer for package scramble return: the same plain functions. They write nothing that was there. Conditions: the slices can be read; lengths below 10,000.
-/
import Derived.Test.YtfnnafhifpolmaaDoorScrAll
import Derived.Test.YtfnnafhifpolmaaDoorShaRef1
import Derived.Test.YtfnnafhifpolmaaDoorShaRef2
namespace Go.Proofs.YtfnnafhifpolmaaDoor
open Go.RowKit
set_option linter.unusedVariables false
set_option linter.unusedSimpArgs false

set_option maxHeartbeats 1000000 in
theorem nonce_ref (bo : Option Addr) (bn bc : Nat) (ds : List Int) (w : World) (h : Bs w bo bn bc ds) :
    Calls Tryd.prog 19 #[.slice bo bn bc] w fun e w' => OutT w (nonA ds) (nonE ds) e w' := by
  have hlen := h.len
  have hle := h.le
  have hmx := h.max
  by_cases h20 : bn = 20
  · subst h20
    have eE : nonE ds = 0 := by unfold nonE; rw [if_pos hlen]
    have eA := hide (show nonA ds = ds.map nby by unfold nonA; rw [if_pos hlen])
    rw [eE]
    have H := hide h
    have HL := hide hlen
    clear h hlen eE
    go_enter Tryd.func19, Tryd.ntmps19
    go_wp2_with fail
    go_loopw [5, 4] (fun i v ws => ∃ (j : Nat) (ao : Option Addr) (c : Nat), j ≤ 20 ∧ i = .int .i64 j ∧ v = .slice ao j c ∧ Mine w.heap.size ws ao j c ((ds.take j).map nby) ∧ Below w.heap.size w ws) (fun i _ _ => 20 - (intOf i).toNat)
    case atStart => exact ⟨0, none, 0, by omega, rfl, rfl, Mine.nought _ _, Below.refl _ _⟩
    case round =>
      obtain ⟨j, ao, c, hj, rfl, rfl, hM, hB⟩ := hrel
      by_cases hlt : j < 20
      · obtain ⟨pb, po, hix, hcx⟩ := ((unhide H).later hB).idx hlt (j : Int) rfl
        have hst := hide (map_next nby (l := ds) (j := j) (by rw [unhide HL]; exact hlt))
        have hX := (unhide H).byt.at j
        generalize ds[j]?.getD 0 = X at *
        obtain ⟨X0, X1⟩ := hX
        have hNb := nby_byt X X0 X1
        have HM := hide hM
        have HB := hide hB
        have hBs := hB.size
        clear hM hB
        by_cases hh : 36 ≤ X % 254 + 1
        · rw [nby_hi hh] at hst hNb
          obtain ⟨Y0, Y1⟩ := hNb
          go_wp2_with (first
            | (at_builtin; refine wpList_app rfl (.tmp 26) (.tmp 28) rfl w.heap.size ao j c _ rfl ((unhide HM).later (below_alloc wr _)) _ 1 1 _ rfl (Bs.one wr (X % 254 + 1 + 1) Y0 Y1) (by omega) (by simp <;> omega) ?_; intro a3 c3 w3 m3 b3; have M3 := hide m3; have B3 := hide (((unhide HB).trans ((below_alloc wr _).mono hBs)).trans b3); clear m3 b3))
          go_roundw
          case rel =>
            refine ⟨j + 1, a3, c3, by omega, by go_num, rfl, ?_, unhide B3⟩
            rw [unhide hst]
            exact unhide M3
          case measure => simp [intOf]; omega
        · rw [nby_lo hh] at hst hNb
          obtain ⟨Y0, Y1⟩ := hNb
          go_wp2_with (first
            | (at_builtin; refine wpList_app rfl (.tmp 26) (.tmp 28) rfl w.heap.size ao j c _ rfl ((unhide HM).later (below_alloc wr _)) _ 1 1 _ rfl (Bs.one wr (X % 254 + 1) Y0 Y1) (by omega) (by simp <;> omega) ?_; intro a3 c3 w3 m3 b3; have M3 := hide m3; have B3 := hide (((unhide HB).trans ((below_alloc wr _).mono hBs)).trans b3); clear m3 b3))
          go_roundw
          case rel =>
            refine ⟨j + 1, a3, c3, by omega, by go_num, rfl, ?_, unhide B3⟩
            rw [unhide hst]
            exact unhide M3
          case measure => simp [intOf]; omega
      · have hjn : j = 20 := by omega
        subst hjn
        rw [List.take_of_length_le (by rw [unhide HL]; omega), ← unhide eA] at hM
        have HM := hide hM
        have HB := hide hB
        clear hM hB
        go_wp2_with fail
        go_ret2
        exact ⟨ao, _, c, rfl, unhide HM, unhide HB⟩
  · have eE : nonE ds = 2 := by unfold nonE; rw [if_neg (by omega)]
    have eA : nonA ds = [] := by unfold nonA; rw [if_neg (by omega)]
    have h20' : ((bn : Int) != 20) = true := by simp; omega
    rw [eE, eA]
    clear h hlen eE eA h20
    go_enter Tryd.func19, Tryd.ntmps19
    go_wp2_with fail
    go_ret2
    exact ⟨none, 0, 0, rfl, Mine.nought _ _, Below.refl _ _⟩

set_option maxHeartbeats 1000000 in
theorem check_ref (bo : Option Addr) (bn bc : Nat) (ns : List Int) (w : World) (h : Bs w bo bn bc ns) :
    Calls Tryd.prog 18 #[.slice bo bn bc] w fun e w' => e = .returned (.int .i64 (nck ns)) ∧ w' = w := by
  have hlen := h.len
  have hle := h.le
  have hmx := h.max
  by_cases h20 : bn = 20
  · subst h20
    obtain ⟨R, hR⟩ : ∃ R, R = nck ns := ⟨_, rfl⟩
    rw [← hR]
    have HR := hide hR
    have H := hide h
    have HL := hide hlen
    clear h hlen hR
    go_enter Tryd.func18, Tryd.ntmps18
    go_wp2_with fail
    go_loop [3] (fun i => ∃ (j : Nat), j ≤ 20 ∧ i = .int .i64 j ∧ (ns.take j).all okb = true) (fun i => 20 - (intOf i).toNat)
    case atStart => exact ⟨0, by omega, rfl, rfl⟩
    case round =>
      obtain ⟨j, hj, rfl, ha⟩ := hrel
      by_cases hlt : j < 20
      · obtain ⟨pb, po, hix, hcx⟩ := (unhide H).idx hlt (j : Int) rfl
        by_cases hk : okb (ns[j]?.getD 0) = true
        · have hn := hide (all_next (by rw [unhide HL]; exact hlt) ha hk)
          have e1 : (ns[j]?.getD 0 == 0) = false := by unfold okb at hk; cases q : (ns[j]?.getD 0 == 0) <;> simp_all
          have e2 : (ns[j]?.getD 0 == 36) = false := by unfold okb at hk; cases q : (ns[j]?.getD 0 == 36) <;> simp_all
          generalize ns[j]?.getD 0 = X at *
          clear ha hk
          go_wp2_with fail
          go_round
          case rel => exact ⟨j + 1, by omega, by go_num, unhide hn⟩
          case measure => simp [intOf]; omega
        · have hk' : okb (ns[j]?.getD 0) = false := by simpa using hk
          have hno := hide (show R = 2 by rw [unhide HR]; exact nck_at (by rw [unhide HL]; exact hlt) hk')
          have hor : ns[j]?.getD 0 = 0 ∨ ns[j]?.getD 0 = 36 := by unfold okb at hk'; simp at hk'; omega
          clear ha hk hk'
          generalize ns[j]?.getD 0 = X at *
          rcases hor with rfl | rfl
          · go_wp2_with fail
            go_ret
            exact ⟨by rw [unhide hno]; rfl, rfl⟩
          · go_wp2_with fail
            go_ret
            exact ⟨by rw [unhide hno]; rfl, rfl⟩
      · have hjn : j = 20 := by omega
        subst hjn
        rw [List.take_of_length_le (by rw [unhide HL]; omega)] at ha
        have hyes := hide (show R = 0 by rw [unhide HR]; exact nck_of (unhide HL) ha)
        clear ha
        go_wp2_with fail
        go_ret
        exact ⟨by rw [unhide hyes]; rfl, rfl⟩
  · rw [nck_len (by omega)]
    have h20' : ((bn : Int) != 20) = true := by simp; omega
    clear h hlen h20
    go_enter Tryd.func18, Tryd.ntmps18
    go_wp2_with fail
    go_ret
    exact ⟨rfl, rfl⟩

set_option maxHeartbeats 1000000 in
theorem joined_ref (xo : Option Addr) (xn xc : Nat) (xs : List Int) (yo : Option Addr) (yn yc : Nat) (ys : List Int) (w : World) (hx : Bs w xo xn xc xs) (hy : Bs w yo yn yc ys) (h1 : xn ≤ 10000) (h2 : yn ≤ 10000) :
    Calls Tryd.prog 41 #[.slice xo xn xc, .slice yo yn yc] w fun e w' => OutB w (xs ++ ys) e w' := by
  have ME := hide (Mine.empty w)
  have BE := hide (hx.later (below_alloc w (.cells #[] 5)))
  have HY := hide hy
  have zE : w.heap.size ≤ (w.alloc (.cells #[] 5)).heap.size := by simp
  clear hx hy
  go_enter Tryd.func41, Tryd.ntmps41
  go_wp2_with (first
    | (at_builtin; refine wpList_app rfl (.tmp 5) (.tmp 6) rfl w.heap.size _ 0 0 _ rfl (unhide ME) _ xn xc _ rfl (unhide BE) (by omega) zE ?_; intro a1 c1 w1 m1 b1; simp only [Nat.zero_add, List.nil_append] at m1 ⊢; have M1 := hide m1; have b1' := (below_alloc w (.cells #[] 5)).trans b1; have B1 := hide b1'; have s1 := b1'.size; clear m1 b1 b1')
    | (at_builtin; refine wpList_app rfl (.tmp 7) (.tmp 8) rfl w.heap.size _ xn c1 _ rfl (unhide M1) _ yn yc _ rfl ((unhide HY).later (unhide B1)) (by omega) s1 ?_; intro a2 c2 w2 m2 b2; have M2 := hide m2; have B2 := hide ((unhide B1).trans b2); clear m2 b2))
  go_ret
  exact ⟨a2, _, c2, rfl, unhide M2, unhide B2⟩

set_option maxHeartbeats 2000000 in
theorem both_ref (xo : Option Addr) (xn xc : Nat) (xs : List Int) (yo : Option Addr) (yn yc : Nat) (ys : List Int) (w : World) (hx : Bs w xo xn xc xs) (hy : Bs w yo yn yc ys) (hl : xn = yn) (hbd : xn ≤ 10000) :
    Calls Tryd.prog 32 #[.slice xo xn xc, .slice yo yn yc] w fun e w' => OutB w (crs xs ys) e w' := by
  subst hl
  have xl := hide hx.len
  have yl := hide hy.len
  have xle := hx.le
  have xmx := hx.max
  have yle := hy.le
  have ymx := hy.max
  have HX := hide hx
  have HY := hide hy
  clear hx hy
  go_enter Tryd.func32, Tryd.ntmps32
  go_wp2_with fail
  go_loopw [6, 5] (fun i v ws => ∃ (j : Nat) (ao : Option Addr) (c : Nat), j ≤ xn ∧ i = .int .i64 j ∧ v = .slice ao j c ∧ Mine w.heap.size ws ao j c (crs (xs.take j) ys) ∧ Below w.heap.size w ws) (fun i _ _ => xn - (intOf i).toNat)
  case atStart => exact ⟨0, none, 0, by omega, rfl, rfl, by simpa [crs] using Mine.nought _ _, Below.refl _ _⟩
  case round =>
    obtain ⟨j, ao, c, hj, rfl, rfl, hM, hB⟩ := hrel
    by_cases hlt : j < xn
    · obtain ⟨pb, po, hix, hcx⟩ := ((unhide HX).later hB).idx hlt (j : Int) rfl
      obtain ⟨qb, qo, hiy, hcy⟩ := ((unhide HY).later hB).idx hlt (j : Int) rfl
      have hpb : pb < w.heap.size := by
        obtain ⟨pb2, po2, hix2, hcx2⟩ := (unhide HX).idx hlt (j : Int) rfl
        have e := hix w
        rw [hix2 w] at e
        have e2 := (Result.ok.inj e).1
        simp only [Value.pointer.injEq, Option.some.injEq, Addr.mk.injEq, and_true] at e2
        rw [← e2.1]
        exact World.block_lt_of_cell? w _ hcx2
      have hqb : qb < w.heap.size := by
        obtain ⟨pb2, po2, hix2, hcx2⟩ := (unhide HY).idx hlt (j : Int) rfl
        have e := hiy w
        rw [hix2 w] at e
        have e2 := (Result.ok.inj e).1
        simp only [Value.pointer.injEq, Option.some.injEq, Addr.mk.injEq, and_true] at e2
        rw [← e2.1]
        exact World.block_lt_of_cell? w _ hcx2
      have hnx := hide (crs_next (a := xs) (b := ys) (j := j) (by rw [unhide xl]; exact hlt) (by rw [unhide yl]; exact hlt))
      have hxb := (unhide HX).byt.at j
      have hyb := (unhide HY).byt.at j
      generalize xs[j]?.getD 0 = X at *
      generalize ys[j]?.getD 0 = Y at *
      have hv := xr_byt X Y
      have hxr : bits .xor .u8 X Y = xr X Y := rfl
      generalize xr X Y = V at *
      obtain ⟨V0, V1⟩ := hv
      have hwr := hB.size
      have HM := hide hM
      have HB := hide hB
      have MW := hide (show Mine w.heap.size (wr.alloc (.cells #[.int .u8 V] 5)).drew ao j c (crs (xs.take j) ys) from (((unhide HM).later (below_alloc wr _)).later (below_drew _)))
      have BW := hide (show Bs (wr.alloc (.cells #[.int .u8 V] 5)).drew (some ⟨wr.heap.size, 0, none⟩) 1 1 [V] from (Bs.one wr V V0 V1).later (below_drew _))
      have hBW : w.heap.size ≤ (wr.alloc (.cells #[.int .u8 V] 5)).drew.heap.size := by show w.heap.size ≤ (wr.alloc (.cells #[.int .u8 V] 5)).heap.size; simp; omega
      have HBW := hide hBW
      have KC := hide (fun (w3 : World) (b3 : Below w.heap.size (wr.alloc (.cells #[.int .u8 V] 5)).drew w3) => (show w3.cell? ⟨pb, po, none⟩ = some (.int .u8 X) ∧ w3.cell? ⟨qb, qo, none⟩ = some (.int .u8 Y) from ⟨(b3.cell (p := ⟨pb, po, none⟩) hpb).trans ((cell_under wr _ pb po (by omega)).trans hcx), (b3.cell (p := ⟨qb, qo, none⟩) hqb).trans ((cell_under wr _ qb qo (by omega)).trans hcy)⟩))
      generalize crs (xs.take j) ys = CC at *
      clear hM hB hBW
      go_wp2_with fail
      go_region_held3 (fun w' => w'.cell? ⟨pb, po, none⟩ = some (.int .u8 X) ∧ w'.cell? ⟨qb, qo, none⟩ = some (.int .u8 Y)) (first | exact unhide KC _ b3 | go_keep) (first | (refine step_app rfl (.tmp 19) (.tmp 29) rfl w.heap.size ao j c CC (by simp [Act.eval, Act.put]) (unhide MW) ⟨wr.heap.size, 0, none⟩ 1 1 [V] (by simp [Act.eval, Act.put]) (unhide BW) (by omega) (unhide HBW) ?_; intro ao2 c2 w3 m3 b3))
      all_goals have M3 := hide m3
      all_goals have B3 := hide (((unhide HB).trans ((below_alloc wr (.cells #[.int .u8 V] 5)).mono hwr)).trans (Below.trans (b := (wr.alloc (.cells #[.int .u8 V] 5)).drew) ⟨rfl, rfl, rfl, Nat.le_refl _, fun _ _ => rfl⟩ b3))
      all_goals clear m3 b3
      all_goals go_wp2_with fail
      all_goals go_roundw
      all_goals first
        | (refine ⟨j + 1, ao2, c2, by omega, by go_num, rfl, ?_, unhide B3⟩
           have := unhide M3
           rw [← unhide hnx] at this
           exact this)
        | (simp [intOf]; omega)
    · have hjn : j = xn := by omega
      subst hjn
      rw [List.take_of_length_le (by rw [unhide xl]; omega)] at hM
      have HM := hide hM
      have HB := hide hB
      clear hM hB
      go_wp2_with fail
      go_ret
      exact ⟨_, _, _, rfl, unhide HM, unhide HB⟩

set_option maxHeartbeats 400000 in
theorem sum_ref (k : Int) (bo : Option Addr) (bn bc : Nat) (bs : List Int) (w : World) (hk : k = 1 ∨ k = 2) (hb : Bs w bo bn bc bs) (hbd : bn ≤ 50000) :
    Calls Tryd.prog 31 #[.int .i64 k, .slice bo bn bc] w fun e w' => OutB w (sumk k bs) e w' := by
  have c1 := hide (sum1_ref bo bn bc bs w hb (by omega))
  have c2 := hide (sum256_ref bo bn bc bs w hb (by omega))
  clear hb hbd
  rcases hk with rfl | rfl
  · go_enter Tryd.func31, Tryd.ntmps31
    go_wp2_with fail
    refine (unhide c1).mono ?_
    rintro e w6 ⟨ao, n, c, rfl, m6, b6⟩
    go_wp2_with fail
    go_ret
    exact ⟨ao, n, c, rfl, m6, b6⟩
  · go_enter Tryd.func31, Tryd.ntmps31
    go_wp2_with fail
    refine (unhide c2).mono ?_
    rintro e w6 ⟨ao, n, c, rfl, m6, b6⟩
    go_wp2_with fail
    go_ret
    exact ⟨ao, n, c, rfl, m6, b6⟩

set_option maxHeartbeats 1000000 in
theorem mixed_ref (k : Int) (so : Option Addr) (sn sc : Nat) (ss : List Int) (no : Option Addr) (nn nc : Nat) (ns : List Int) (w : World) (hk : k = 1 ∨ k = 2) (hs : Bs w so sn sc ss) (hn : Bs w no nn nc ns) (h1 : sn ≤ 10000) (h2 : nn ≤ 10000) :
    Calls Tryd.prog 33 #[.int .i64 k, .slice so sn sc, .slice no nn nc] w fun e w' => OutB w (cov k ss ns) e w' := by
  rcases hk with rfl | rfl
  · have cc := hide (joined_ref no nn nc ns so sn sc ss w hn hs h2 h1)
    have hl := hide (show (ns ++ ss).length ≤ 20000 by rw [List.length_append, hn.len, hs.len]; omega)
    have e := hide (show cov 1 ss ns = sumk 1 (ns ++ ss) from rfl)
    clear hs hn
    go_enter Tryd.func33, Tryd.ntmps33
    go_wp2_with fail
    refine (unhide cc).mono ?_
    rintro e w1 ⟨a1, n1, c1, rfl, m1, b1⟩
    have sc1 := hide (sum1_ref a1 n1 c1 _ w1 m1.bs (by have := m1.len; have := unhide hl; omega))
    have B1 := hide b1
    clear m1 b1 cc
    go_wp2_with fail
    refine (unhide sc1).mono ?_
    rintro e w6 ⟨ao, n, c, rfl, m6, b6⟩
    have M6 := hide (m6.mono (unhide B1).size)
    have B6 := hide ((unhide B1).trans (b6.mono (unhide B1).size))
    clear m6 b6 sc1
    go_wp2_with fail
    go_ret
    exact ⟨ao, n, c, rfl, by rw [unhide e]; exact unhide M6, unhide B6⟩
  · have cc := hide (joined_ref so sn sc ss no nn nc ns w hs hn h1 h2)
    have hl := hide (show (ss ++ ns).length ≤ 20000 by rw [List.length_append, hn.len, hs.len]; omega)
    have e := hide (show cov 2 ss ns = sumk 2 (ss ++ ns) from rfl)
    clear hs hn
    go_enter Tryd.func33, Tryd.ntmps33
    go_wp2_with fail
    refine (unhide cc).mono ?_
    rintro e w1 ⟨a1, n1, c1, rfl, m1, b1⟩
    have sc1 := hide (sum256_ref a1 n1 c1 _ w1 m1.bs (by have := m1.len; have := unhide hl; omega))
    have B1 := hide b1
    clear m1 b1 cc
    go_wp2_with fail
    refine (unhide sc1).mono ?_
    rintro e w6 ⟨ao, n, c, rfl, m6, b6⟩
    have M6 := hide (m6.mono (unhide B1).size)
    have B6 := hide ((unhide B1).trans (b6.mono (unhide B1).size))
    clear m6 b6 sc1
    go_wp2_with fail
    go_ret
    exact ⟨ao, n, c, rfl, by rw [unhide e]; exact unhide M6, unhide B6⟩

set_option maxHeartbeats 2000000 in
theorem stored_ref (k : Int) (p : ByteArray) (w : World) (hp : p.size ≤ 10000) :
    Calls Tryd.prog 20 #[.int .i64 k, .string p] w fun e w' => OutT w (stoA k (nums p)) (stoE k) e w' := by
  by_cases hk : k = 1 ∨ k = 2
  · have eE : stoE k = 0 := by unfold stoE; rw [if_pos hk]
    have eA : stoA k (nums p) = sto k (nums p) := by unfold stoA; rw [if_pos hk]
    rw [eE, eA]
    by_cases h0 : p.size = 0
    · have hR : sto k (nums p) = [] := by unfold sto; rw [if_pos (by rw [nums_length]; exact h0)]
      rw [hR]
      have := ba_nil h0
      subst this
      clear eE eA hR h0 hp
      rcases hk with rfl | rfl
      · go_enter Tryd.func20, Tryd.ntmps20
        go_wp2_with fail
        go_ret2
        exact ⟨none, 0, 0, rfl, Mine.nought _ _, Below.refl _ _⟩
      · go_enter Tryd.func20, Tryd.ntmps20
        go_wp2_with fail
        go_ret2
        exact ⟨none, 0, 0, rfl, Mine.nought _ _, Below.refl _ _⟩
    · have hR := hide (show sto k (nums p) = sumk k (sumk k (nums p)) by unfold sto; rw [if_neg (by rw [nums_length]; exact h0)])
      have hne := ba_ne h0
      have tb := run_toBytes p
      have b0 := below_bytesWorld w 5 p
      have c0 := hide (sum_ref k (some ⟨w.heap.size, 0, none⟩) p.size (grownCap w p.size 0 5) (nums p) (Lib.bytesWorld w 5 p) hk (bs_bytesWorld w p (by omega)) (by omega))
      have HK := hide hk
      have B0 := hide b0
      have hg : ((k != 1) = true ∧ (k != 2) = false) ∨ k = 1 := by
        rcases hk with rfl | rfl
        · exact .inr rfl
        · exact .inl ⟨rfl, rfl⟩
      clear eE eA h0 hk b0
      rcases hg with ⟨g1, g2⟩ | rfl
      · go_enter Tryd.func20, Tryd.ntmps20
        go_wp2_with fail
        refine (unhide c0).mono ?_
        rintro e w1 ⟨a1, n1, c1, rfl, m1, b1⟩
        have B1 := hide ((unhide B0).trans (b1.mono (unhide B0).size))
        have l1 := m1.len
        rw [sumk_len] at l1
        have hz3 := hsz_le k
        have c2 := hide (sum_ref k a1 n1 c1 _ w1 (unhide HK) m1.bs (by omega))
        clear m1 b1 c0
        go_wp2_with fail
        refine (unhide c2).mono ?_
        rintro e w2 ⟨a2, n2, c2, rfl, m2, b2⟩
        have M4 := hide (m2.mono (unhide B1).size)
        have B4 := hide ((unhide B1).trans (b2.mono (unhide B1).size))
        clear m2 b2
        go_wp2_with fail
        go_ret2
        exact ⟨a2, n2, c2, rfl, by rw [unhide hR]; exact unhide M4, unhide B4⟩
      · go_enter Tryd.func20, Tryd.ntmps20
        go_wp2_with fail
        refine (unhide c0).mono ?_
        rintro e w1 ⟨a1, n1, c1, rfl, m1, b1⟩
        have B1 := hide ((unhide B0).trans (b1.mono (unhide B0).size))
        have l1 := m1.len
        rw [sumk_len] at l1
        have hz3 := hsz_le 1
        have c2 := hide (sum_ref 1 a1 n1 c1 _ w1 (.inl rfl) m1.bs (by omega))
        clear m1 b1 c0
        go_wp2_with fail
        refine (unhide c2).mono ?_
        rintro e w2 ⟨a2, n2, c2, rfl, m2, b2⟩
        have M4 := hide (m2.mono (unhide B1).size)
        have B4 := hide ((unhide B1).trans (b2.mono (unhide B1).size))
        clear m2 b2
        go_wp2_with fail
        go_ret2
        exact ⟨a2, n2, c2, rfl, by rw [unhide hR]; exact unhide M4, unhide B4⟩
  · have eE : stoE k = 2 := by unfold stoE; rw [if_neg hk]
    have eA : stoA k (nums p) = [] := by unfold stoA; rw [if_neg hk]
    rw [eE, eA]
    have g1 : (k != 1) = true := by simp; exact fun e => hk (.inl e)
    have g2 : (k != 2) = true := by simp; exact fun e => hk (.inr e)
    clear eE eA hk hp
    go_enter Tryd.func20, Tryd.ntmps20
    go_wp2_with fail
    go_ret2
    exact ⟨none, 0, 0, rfl, Mine.nought _ _, Below.refl _ _⟩

set_option maxHeartbeats 2000000 in
theorem response_ref (k : Int) (p : ByteArray) (no : Option Addr) (nn nc : Nat) (ns : List Int) (w : World) (hk : k = 1 ∨ k = 2) (hn : Bs w no nn nc ns) (hp : p.size ≤ 10000) :
    Calls Tryd.prog 30 #[.int .i64 k, .string p, .slice no nn nc] w fun e w' => OutT w (rspA k (nums p) ns) (nck ns) e w' := by
  have ck := hide (check_ref no nn nc ns w hn)
  rcases nck_two ns with hE | hE
  · have hA : rspA k (nums p) ns = rsp k (nums p) ns := by unfold rspA; rw [if_pos hE]
    have hnn : nn = 20 := by have := hn.len; rw [nck_20 hE] at this; omega
    have HNN := hide hnn
    rw [hE] at ck
    rw [hE, hA]
    by_cases h0 : p.size = 0
    · have hR : rsp k (nums p) ns = [] := by unfold rsp; rw [if_pos (by rw [nums_length]; exact h0)]
      rw [hR]
      have := ba_nil h0
      subst this
      clear hA hR hE hn h0 hp hnn
      go_enter Tryd.func30, Tryd.ntmps30
      go_wp2_with fail
      refine same_world (unhide ck) ?_
      go_wp2_with fail
      go_ret2
      exact ⟨none, 0, 0, rfl, Mine.nought _ _, Below.refl _ _⟩
    · have hR := hide (show rsp k (nums p) ns = crs (sumk k (nums p)) (cov k (sumk k (sumk k (nums p))) ns) by unfold rsp; rw [if_neg (by rw [nums_length]; exact h0)])
      have hS := hide (show stoA k (nums p) = sumk k (sumk k (nums p)) by unfold stoA; rw [if_pos hk]; unfold sto; rw [if_neg (by rw [nums_length]; exact h0)])
      have hne := ba_ne h0
      have tb := run_toBytes p
      have c0 := hide (stored_ref k p w hp)
      have HN := hide hn
      have HK := hide hk
      have HP := hide hp
      clear hA hE hn h0 hk hnn
      go_enter Tryd.func30, Tryd.ntmps30
      go_wp2_with fail
      refine same_world (unhide ck) ?_
      go_wp2_with fail
      refine (unhide c0).mono ?_
      rintro e w1 ⟨a1, n1, c1, rfl, m1, b1⟩
      rw [unhide hS] at m1
      have B1 := hide b1
      have P1 := hide m1.bs
      have l1 := m1.len
      rw [sumk_len] at l1
      have hz := hsz_le k
      have b0 := below_bytesWorld w1 5 p
      have c2 := hide (sum_ref k (some ⟨w1.heap.size, 0, none⟩) p.size (grownCap w1 p.size 0 5) (nums p) (Lib.bytesWorld w1 5 p) (unhide HK) (bs_bytesWorld w1 p (by omega)) (by omega))
      have B1' := hide (b1.trans (b0.mono b1.size))
      have P1' := hide (m1.bs.later b0)
      clear m1 b1 c0 b0
      go_wp2_with fail
      refine (unhide c2).mono ?_
      rintro e w2 ⟨a2, n2, c2, rfl, m2, b2⟩
      have B2 := hide ((unhide B1').trans (b2.mono (unhide B1').size))
      have P2 := hide m2.bs
      have l2 := m2.len
      rw [sumk_len] at l2
      have c3 := hide (mixed_ref k a1 n1 c1 _ no nn nc ns w2 (unhide HK) ((unhide P1').later b2) ((unhide HN).later (unhide B2)) (by omega) (by have := unhide HNN; omega))
      clear m2 b2 P1 B1 P1' B1'
      go_wp2_with fail
      refine (unhide c3).mono ?_
      rintro e w3 ⟨a3, n3, c3, rfl, m3, b3⟩
      have B3 := hide ((unhide B2).trans (b3.mono (unhide B2).size))
      have P3 := hide ((unhide P2).later b3)
      have l3 := m3.len
      rw [cov_len] at l3
      have c4 := hide (both_ref a2 n2 c2 _ a3 n3 c3 _ w3 (unhide P3) m3.bs (by omega) (by omega))
      clear m3 b3 P2 B2
      go_wp2_with fail
      refine (unhide c4).mono ?_
      rintro e w4 ⟨a4, n4, c4, rfl, m4, b4⟩
      have M4 := hide (m4.mono (unhide B3).size)
      have B4 := hide ((unhide B3).trans (b4.mono (unhide B3).size))
      clear m4 b4 P3 B3
      go_wp2_with fail
      go_ret2
      exact ⟨a4, n4, c4, rfl, by rw [unhide hR]; exact unhide M4, unhide B4⟩
  · have hA : rspA k (nums p) ns = [] := by unfold rspA; rw [if_neg (by omega)]
    rw [hE] at ck
    rw [hE, hA]
    clear hA hE hn hp
    go_enter Tryd.func30, Tryd.ntmps30
    go_wp2_with fail
    refine same_world (unhide ck) ?_
    go_wp2_with fail
    go_ret2
    exact ⟨none, 0, 0, rfl, Mine.nought _ _, Below.refl _ _⟩

set_option maxHeartbeats 400000 in
theorem native_ref (p : ByteArray) (no : Option Addr) (nn nc : Nat) (ns : List Int) (w : World) (hn : Bs w no nn nc ns) (hp : p.size ≤ 10000) :
    Calls Tryd.prog 14 #[.string p, .slice no nn nc] w fun e w' => OutT w (rspA 1 (nums p) ns) (nck ns) e w' := by
  have c := hide (response_ref 1 p no nn nc ns w (.inl rfl) hn hp)
  clear hn hp
  go_enter Tryd.func14, Tryd.ntmps14
  go_wp2_with fail
  refine (unhide c).mono ?_
  rintro e w6 ⟨ao, n, c, rfl, m6, b6⟩
  go_wp2_with fail
  go_ret2
  exact ⟨ao, n, c, rfl, m6, b6⟩
set_option maxHeartbeats 400000 in
theorem fast_ref (p : ByteArray) (no : Option Addr) (nn nc : Nat) (ns : List Int) (w : World) (hn : Bs w no nn nc ns) (hp : p.size ≤ 10000) :
    Calls Tryd.prog 16 #[.string p, .slice no nn nc] w fun e w' => OutT w (rspA 2 (nums p) ns) (nck ns) e w' := by
  have c := hide (response_ref 2 p no nn nc ns w (.inr rfl) hn hp)
  clear hn hp
  go_enter Tryd.func16, Tryd.ntmps16
  go_wp2_with fail
  refine (unhide c).mono ?_
  rintro e w6 ⟨ao, n, c, rfl, m6, b6⟩
  go_wp2_with fail
  go_ret2
  exact ⟨ao, n, c, rfl, m6, b6⟩

set_option maxHeartbeats 2000000 in
theorem right_ref (k : Int) (so : Option Addr) (sn sc : Nat) (ss : List Int) (no : Option Addr) (nn nc : Nat) (ns : List Int) (ro : Option Addr) (rn rc : Nat) (rs : List Int) (w : World)
    (hs : Bs w so sn sc ss) (hn : Bs w no nn nc ns) (hr : Bs w ro rn rc rs) (h1 : sn ≤ 10000) (h3 : rn ≤ 10000) :
    Calls Tryd.prog 21 #[.int .i64 k, .slice so sn sc, .slice no nn nc, .slice ro rn rc] w fun e w' => OutQ w (rgA k ss ns rs) (rgE k ss ns) e w' := by
  have ck := hide (check_ref no nn nc ns w hn)
  have sl := hs.len
  have rl := hr.len
  have sle := hs.le
  have rle := hr.le
  have smx := hs.max
  have rmx := hr.max
  by_cases hk : k = 1 ∨ k = 2
  · have hz := hsz_pos k
    have hz2 := hsz_le k
    have hkz : (k = 1 ∧ hsz k = 20) ∨ (k = 2 ∧ hsz k = 32) := by
      rcases hk with rfl | rfl
      · exact .inl ⟨rfl, rfl⟩
      · exact .inr ⟨rfl, rfl⟩
    rcases nck_two ns with hE | hE
    · rw [hE] at ck
      have hnn : nn = 20 := by have := hn.len; rw [nck_20 hE] at this; omega
      by_cases h0 : sn = 0
      · have eE : rgE k ss ns = 0 := by unfold rgE; rw [if_pos hk, if_pos hE, if_pos (.inl (by omega))]
        have eA : rgA k ss ns rs = decide ((rn : Int) = 0) := by unfold rgA; rw [if_pos eE]; unfold rgt; rw [if_pos (by omega), rl]; simp
        rw [eE, eA]
        subst h0
        clear hE hs hn hr eE eA sl rl hnn hkz hz hz2
        rcases hk with rfl | rfl
        · go_enter Tryd.func21, Tryd.ntmps21
          go_wp2_with fail
          refine same_world (unhide ck) ?_
          go_wp2_with fail
          go_ret2
          exact ⟨rfl, Below.refl _ _⟩
        · go_enter Tryd.func21, Tryd.ntmps21
          go_wp2_with fail
          refine same_world (unhide ck) ?_
          go_wp2_with fail
          go_ret2
          exact ⟨rfl, Below.refl _ _⟩
      · have h0' : ((sn : Int) == 0) = false := by simp; omega
        by_cases hl : sn = hsz k
        · have eE : rgE k ss ns = 0 := by unfold rgE; rw [if_pos hk, if_pos hE, if_pos (.inr (by omega))]
          have eA : rgA k ss ns rs = rgt k ss ns rs := by unfold rgA; rw [if_pos eE]
          rw [eE, eA]
          by_cases hrl : rn = hsz k
          · have hR := hide (show rgt k ss ns rs = decide (sumk k (crs rs (cov k ss ns)) = ss) by unfold rgt; rw [if_neg (by omega), if_pos (by omega)])
            have c1 := hide (mixed_ref k so sn sc ss no nn nc ns w hk hs hn (by omega) (by omega))
            have HS := hide hs
            have HRR := hide hr
            have HK := hide hk
            have HL := hide hl
            have HRL := hide hrl
            have RL := hide rl
            obtain ⟨Rb, hRb⟩ : ∃ Rb, Rb = rgt k ss ns rs := ⟨_, rfl⟩
            rw [← hRb] at hR ⊢
            have hsn : (sn : Int) = 20 ∧ (rn : Int) = 20 ∧ k = 1 ∨ (sn : Int) = 32 ∧ (rn : Int) = 32 ∧ k = 2 := by omega
            clear hE hs hn hr eE eA sl rl hl hnn hkz hz hz2 hRb hrl hk
            rcases hsn with ⟨t1, t2, rfl⟩ | ⟨t1, t2, rfl⟩
            · go_enter Tryd.func21, Tryd.ntmps21
              go_wp2_with fail
              refine same_world (unhide ck) ?_
              go_wp2_with fail
              refine (unhide c1).mono ?_
              rintro e w1 ⟨a1, n1, c1, rfl, m1, b1⟩
              have B1 := hide b1
              have l1 := m1.len
              rw [cov_len] at l1
              have c2 := hide (both_ref ro rn rc rs a1 n1 c1 _ w1 ((unhide HRR).later b1) m1.bs (by have := unhide HRL; omega) h3)
              clear m1 b1
              go_wp2_with fail
              refine (unhide c2).mono ?_
              rintro e w2 ⟨a2, n2, c2, rfl, m2, b2⟩
              have B2 := hide ((unhide B1).trans (b2.mono (unhide B1).size))
              have l2 := m2.len
              rw [crs_len _ _ (by rw [cov_len, unhide RL, unhide HRL]), unhide RL] at l2
              have c3 := hide (sum_ref 1 a2 n2 c2 _ w2 (.inl rfl) m2.bs (by omega))
              clear m2 b2 B1 l1
              go_wp2_with fail
              refine (unhide c3).mono ?_
              rintro e w3 ⟨a3, n3, c3, rfl, m3, b3⟩
              have B3 := hide ((unhide B2).trans (b3.mono (unhide B2).size))
              have s1 := m3.bs.str
              have s2 := ((unhide HS).later (unhide B3)).str
              have he := hide ((str_eq m3.byt (unhide HS).byt).trans (unhide hR).symm)
              clear m3 b3 B2
              go_wp2_with fail
              go_ret2
              refine ⟨?_, unhide B3⟩
              rw [← unhide he]
              rfl
            · go_enter Tryd.func21, Tryd.ntmps21
              go_wp2_with fail
              refine same_world (unhide ck) ?_
              go_wp2_with fail
              refine (unhide c1).mono ?_
              rintro e w1 ⟨a1, n1, c1, rfl, m1, b1⟩
              have B1 := hide b1
              have l1 := m1.len
              rw [cov_len] at l1
              have c2 := hide (both_ref ro rn rc rs a1 n1 c1 _ w1 ((unhide HRR).later b1) m1.bs (by have := unhide HRL; omega) h3)
              clear m1 b1
              go_wp2_with fail
              refine (unhide c2).mono ?_
              rintro e w2 ⟨a2, n2, c2, rfl, m2, b2⟩
              have B2 := hide ((unhide B1).trans (b2.mono (unhide B1).size))
              have l2 := m2.len
              rw [crs_len _ _ (by rw [cov_len, unhide RL, unhide HRL]), unhide RL] at l2
              have c3 := hide (sum_ref 2 a2 n2 c2 _ w2 (.inr rfl) m2.bs (by omega))
              clear m2 b2 B1 l1
              go_wp2_with fail
              refine (unhide c3).mono ?_
              rintro e w3 ⟨a3, n3, c3, rfl, m3, b3⟩
              have B3 := hide ((unhide B2).trans (b3.mono (unhide B2).size))
              have s1 := m3.bs.str
              have s2 := ((unhide HS).later (unhide B3)).str
              have he := hide ((str_eq m3.byt (unhide HS).byt).trans (unhide hR).symm)
              clear m3 b3 B2
              go_wp2_with fail
              go_ret2
              refine ⟨?_, unhide B3⟩
              rw [← unhide he]
              rfl
          · have hR : rgt k ss ns rs = false := by unfold rgt; rw [if_neg (by omega), if_neg (by omega)]
            rw [hR]
            have hsn : (sn : Int) = 20 ∧ ((rn : Int) != 20) = true ∧ k = 1 ∨ (sn : Int) = 32 ∧ ((rn : Int) != 32) = true ∧ k = 2 := by simp; omega
            clear hE hs hn hr eE eA sl rl hl hnn hkz hz hz2 hrl hk hR
            rcases hsn with ⟨t1, t2, rfl⟩ | ⟨t1, t2, rfl⟩
            · go_enter Tryd.func21, Tryd.ntmps21
              go_wp2_with fail
              refine same_world (unhide ck) ?_
              go_wp2_with fail
              go_ret2
              exact ⟨rfl, Below.refl _ _⟩
            · go_enter Tryd.func21, Tryd.ntmps21
              go_wp2_with fail
              refine same_world (unhide ck) ?_
              go_wp2_with fail
              go_ret2
              exact ⟨rfl, Below.refl _ _⟩
        · have eE : rgE k ss ns = 5 := by unfold rgE; rw [if_pos hk, if_pos hE, if_neg (by omega)]
          have eA : rgA k ss ns rs = false := by unfold rgA; rw [if_neg (by omega)]
          rw [eE, eA]
          have hsn : ((sn : Int) != 20) = true ∧ k = 1 ∨ ((sn : Int) != 32) = true ∧ k = 2 := by simp; omega
          clear hE hs hn hr eE eA sl rl hl hnn hkz hz hz2 hk
          rcases hsn with ⟨t1, rfl⟩ | ⟨t1, rfl⟩
          · go_enter Tryd.func21, Tryd.ntmps21
            go_wp2_with fail
            refine same_world (unhide ck) ?_
            go_wp2_with fail
            go_ret2
            exact ⟨rfl, Below.refl _ _⟩
          · go_enter Tryd.func21, Tryd.ntmps21
            go_wp2_with fail
            refine same_world (unhide ck) ?_
            go_wp2_with fail
            go_ret2
            exact ⟨rfl, Below.refl _ _⟩
    · rw [hE] at ck
      have eE : rgE k ss ns = 2 := by unfold rgE; rw [if_pos hk, if_neg (by omega)]
      have eA : rgA k ss ns rs = false := by unfold rgA; rw [if_neg (by omega)]
      rw [eE, eA]
      clear hE hs hn hr eE eA sl rl hz hz2 hkz
      rcases hk with rfl | rfl
      · go_enter Tryd.func21, Tryd.ntmps21
        go_wp2_with fail
        refine same_world (unhide ck) ?_
        go_wp2_with fail
        go_ret2
        exact ⟨rfl, Below.refl _ _⟩
      · go_enter Tryd.func21, Tryd.ntmps21
        go_wp2_with fail
        refine same_world (unhide ck) ?_
        go_wp2_with fail
        go_ret2
        exact ⟨rfl, Below.refl _ _⟩
  · have eE : rgE k ss ns = 2 := by unfold rgE; rw [if_neg hk]
    have eA : rgA k ss ns rs = false := by unfold rgA; rw [if_neg (by omega)]
    rw [eE, eA]
    have g1 : (k != 1) = true := by simp; exact fun e => hk (.inl e)
    have g2 : (k != 2) = true := by simp; exact fun e => hk (.inr e)
    clear hs hn hr hk eE eA sl rl
    go_enter Tryd.func21, Tryd.ntmps21
    go_wp2_with fail
    go_ret2
    exact ⟨rfl, Below.refl _ _⟩

end Go.Proofs.YtfnnafhifpolmaaDoor
