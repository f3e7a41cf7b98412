/-
  ReplyBack walked: a reply that is written is read back as it was, and is known by its first byte. Conditions: the slice can be read; numbers within their kinds.
-/
import Derived.Test.YtkijdkbkbelliaaRySmall
import Derived.Test.YtkijdkbkbelliaaRyEq
import Derived.Deep.CutRange
import Derived.Deep.DeepCutAuto
namespace Go.Proofs.Ytkijdkbkbelliaa
open Go.RowKit
set_option linter.unusedVariables false
set_option linter.unusedSimpArgs false

/-- What a writer leaves, whether the reply may be or not. -/
def OutE (w : World) (ok : Bool) (l : List Int) (e : Ending) (w' : World) : Prop :=
  ∃ ao n c E L, e = .returned (.tuple #[.slice ao n c, .int .i64 E]) ∧ Bs w' ao n c L ∧ (E = 0 → ok = true ∧ L = l) ∧ Below w.heap.size w w'
theorem OutP.oute {w w' : World} {ok : Bool} {l : List Int} {e : Ending} (h : OutP w (if ok = true then some l else none) e w') : OutE w ok l e w' := by
  cases ok
  · rw [if_neg (by decide)] at h
    exact ⟨_, _, _, 2, [], h.1, Bs.nought _, fun q => absurd q (by decide), h.2⟩
  · rw [if_pos rfl] at h
    obtain ⟨ao, n, c, e1, hm, hb⟩ := h
    exact ⟨_, _, _, 0, _, e1, hm.bs, fun _ => ⟨rfl, rfl⟩, hb⟩

theorem sml_is {r : Rp} {xn : Nat} (h : sml r xn = true) : r.ok.info.size ≤ 3000 ∧ xn ≤ 3000 ∧ r.er.st.size ≤ 3000 ∧ r.er.tx.size ≤ 3000 ∧ r.fi.size ≤ 3000 := by
  unfold sml at h
  simp only [Bool.and_eq_true, decide_eq_true_eq] at h
  exact ⟨h.1, h.2.1, h.2.2.1, h.2.2.2.1, h.2.2.2.2⟩

set_option maxHeartbeats 16000000 in
set_option maxRecDepth 100000 in
theorem lawRyBack (c : Int) (r : Rp) (xo : Option Addr) (xn xc : Nat) (w : World) (hc : 0 ≤ c ∧ c < 4294967296) (hx : Bs w xo xn xc r.ok.tr) (hK : RpK r) :
    Calls Try.prog 6 #[.int .u32 c, .agg (r.row xo xn xc)] w fun e w' => e = .returned (.bool true) ∧ Below w.heap.size w w' := by
  obtain ⟨C, rfl⟩ := Int.eq_ofNat_of_zero_le hc.1
  have hC : C < 4294967296 := by have := hc.2; omega
  have O24 := hide (has_or (x := 16777216) hC (by omega) (by omega))
  have O7 := hide (has_or (x := 128) hC (by omega) (by omega))
  have N24 := hide (has_not (x := 16777216) hC (by omega))
  obtain ⟨c, hcc⟩ : ∃ z : Int, z = (C : Int) := ⟨_, rfl⟩
  rw [← hcc] at O24 O7 N24 ⊢
  clear hcc hc hC
  obtain ⟨c24, h24⟩ : ∃ z, bits .or .u32 c 16777216 = z := ⟨_, rfl⟩
  obtain ⟨c7, h7⟩ : ∃ z, bits .or .u32 c 128 = z := ⟨_, rfl⟩
  obtain ⟨n24, hn24⟩ : ∃ z, bits .andNot .u32 c 16777216 = z := ⟨_, rfl⟩
  have O24 : Hid (has c24 16777216 = true) := by rw [← h24]; exact O24
  have O7 : Hid (has c7 128 = true) := by rw [← h7]; exact O7
  have N24 : Hid (has n24 16777216 = false) := by rw [← hn24]; exact N24
  have HP := hide (Pk.new w (r.row xo xn xc))
  have SZ := hide (Try.rpSize r xo xn xc)
  have cM := hide (fun wx => small_any r xo xn xc wx (Nat.le_trans hx.le hx.max))
  have hxl := hide hx.len
  have HX := hide hx
  have hle := hx.le
  have hmx := hx.max
  have HBY := hide hx.byt
  have HK := hide hK
  have SM := hide (fun h => sml_is (r := r) (xn := xn) h)
  have cL := hide (lives_any (w.alloc (.cells (r.row xo xn xc) 50)))
  obtain ⟨Z, hZ⟩ : ∃ z, z = sml r xn := ⟨_, rfl⟩
  rw [← hZ] at cM SM
  simp only [Rp.row] at *
  clear hx hZ hK
  go_enter Try.func6, Try.ntmps6
  go_wp2_with fail
  refine (unhide cL).mono ?_
  rintro e w1 ⟨rfl, b1⟩
  have HP1 := hide ((unhide HP).later b1)
  clear b1 cL HP
  go_wp2_with (with_reducible show wpList Try.prog _ _ (Oper.mk _ (Op.load 50 _) _ _ _ none :: _) _ _; refine wpList_load_row rfl _ (.tmp 3) rfl w.heap.size rfl _ #[.int .u64 r.ok.af, .int .u64 r.ok.ins, .int .u16 r.ok.st, .int .u16 r.ok.wa, .string r.ok.info, .slice xo xn xc, .bool r.la, .int .u16 r.er.co, .string r.er.st, .string r.er.tx, .int .u16 r.eo.wa, .int .u16 r.eo.st, .int .u32 r.pr.id, .int .u16 r.pr.co, .int .u16 r.pr.pa, .int .u16 r.pr.wa, .string r.fi] (0, 0) _ (unhide HP1).par Try.underlying50 rfl (unhide SZ) ?_)
  refine (unhide cM _).mono ?_
  rintro e w2 ⟨rfl, b2⟩
  have HP2 := hide ((unhide HP1).later b2)
  clear b2 cM HP1 SZ
  cases Z
  · go_wp2_with fail
    go_ret
    exact ⟨rfl, (unhide HP2).bel⟩
  have SM1 := hide (unhide SM rfl)
  clear SM
  have p0 := (unhide HP2).cell (j := 0) (v := .int .u64 r.ok.af) rfl
  have p1 := (unhide HP2).cell (j := 1) (v := .int .u64 r.ok.ins) rfl
  have p2 := (unhide HP2).cell (j := 2) (v := .int .u16 r.ok.st) rfl
  have p3 := (unhide HP2).cell (j := 3) (v := .int .u16 r.ok.wa) rfl
  have p4 := (unhide HP2).cell (j := 4) (v := .string r.ok.info) rfl
  have p5 := (unhide HP2).cell (j := 5) (v := .slice xo xn xc) rfl
  have p6 := (unhide HP2).cell (j := 6) (v := .bool r.la) rfl
  have cA := hide ((appendOk_any none 0 0 [] c r.ok r.la xo xn xc _ (Bs.nought _) ((unhide HX).later (unhide HP2).bel) (unhide HK).ok (by have := unhide SM1; have := unhide hxl; simp only [List.length_nil]; omega)).mono fun _ _ h => OutP.oute h)
  rw [List.nil_append] at cA
  go_wp2_with fail
  refine (unhide cA).mono ?_
  rintro e w3 ⟨ao, an, ac, E, LB, rfl, hm, hok, b3⟩
  have HP3 := hide ((unhide HP2).later b3)
  have HM := hide hm
  have HOK := hide hok
  clear b3 hm hok cA HP2 p0 p1 p2 p3 p4 p5 p6
  go_upto_if 33 with fail
  go_cut [] (fun wx => Pk w #[.int .u64 r.ok.af, .int .u64 r.ok.ins, .int .u16 r.ok.st, .int .u16 r.ok.wa, .string r.ok.info, .slice xo xn xc, .bool r.la, .int .u16 r.er.co, .string r.er.st, .string r.er.tx, .int .u16 r.eo.wa, .int .u16 r.eo.st, .int .u32 r.pr.id, .int .u16 r.pr.co, .int .u16 r.pr.pa, .int .u16 r.pr.wa, .string r.fi] wx)
  case first =>
    by_cases he : E = 0
    · have he' : (E == 0) = true := by simpa using he
      obtain ⟨hk, hB⟩ := unhide HOK he
      have hl := okB_len (c := c) (last := r.la) (unhide SM1).1 (by have := unhide SM1; have := unhide hxl; omega)
      have hbn := (unhide HM).len
      have cR := hide (readOk_any ao an ac LB c w3 (unhide HM) (by rw [hB] at hbn; omega))
      rw [show okR LB c = (r.ok, 0) by rw [hB]; exact ok_back r.la hk (unhide HK).ok (unhide HBY) (by have := unhide SM1; omega) (by have := unhide SM1; have := unhide hxl; omega)] at cR
      have K1 := hide (fun (q : r.la = false) => show fiK LB c = 1 by rw [hB, q]; exact ok_first c r.ok)
      have K2 := hide (fun (q : r.la = true) => show laK LB c24 = 1 by rw [hB, q]; exact ok_last c24 (unhide O24) (unhide SM1).1 (by have := unhide SM1; have := unhide hxl; omega))
      clear he hk hB hl hbn
      go_wp2_with fail
      refine (unhide cR).mono ?_
      rintro e w4 ⟨yo, yn, yc, rfl, hy, b4⟩
      have HP4 := hide ((unhide HP3).later b4)
      have HM4 := hide ((unhide HM).later b4)
      have HY4 := hide hy
      clear b4 hy cR
      have SZO := hide (show (Try.prog.info? 31).map (·.size) = some (#[.int .u64 r.ok.af, .int .u64 r.ok.ins, .int .u16 r.ok.st, .int .u16 r.ok.wa, .string r.ok.info, .slice yo yn yc] : Array Value).size by kernel_rfl)
      go_wp2_with (first
        | (with_reducible show wpList Try.prog _ _ (Oper.mk _ (Op.store 31 _ _) _ _ _ none :: _) _ _; refine wpList_stN rfl _ (.tmp 7) (.tmp 38) rfl #[.int .u64 r.ok.af, .int .u64 r.ok.ins, .int .u16 r.ok.st, .int .u16 r.ok.wa, .string r.ok.info, .slice yo yn yc] (by simp [Act.eval, Act.put]) (by simp [Act.eval, Act.put]) (unhide SZO) rfl (by simp [Value.oneCell']) ?_; intro w5 h5 b5 z5; have H5 := hide h5; have HP5 := hide ((unhide HP4).later b5); have HM5 := hide ((unhide HM4).later b5); have HY5 := hide ((unhide HY4).later b5); have cS := hide (sameOk_self r.ok yo yn yc xo xn xc w5 (unhide HY5) ((unhide HX).later (unhide HP5).bel)); simp only [Ok.row] at cS; have p0 := (unhide HP5).cell (j := 0) (v := .int .u64 r.ok.af) rfl; have p1 := (unhide HP5).cell (j := 1) (v := .int .u64 r.ok.ins) rfl; have p2 := (unhide HP5).cell (j := 2) (v := .int .u16 r.ok.st) rfl; have p3 := (unhide HP5).cell (j := 3) (v := .int .u16 r.ok.wa) rfl; have p4 := (unhide HP5).cell (j := 4) (v := .string r.ok.info) rfl; have p5 := (unhide HP5).cell (j := 5) (v := .slice xo xn xc) rfl; clear h5 b5 z5)
        | (with_reducible show wpList Try.prog _ _ (Oper.mk (some 40) (Op.load _ _) _ _ _ none :: _) _ _; refine wpList_load_row rfl _ (.tmp 7) rfl w4.heap.size (by simp [Act.eval, Act.put]) _ #[.int .u64 r.ok.af, .int .u64 r.ok.ins, .int .u16 r.ok.st, .int .u16 r.ok.wa, .string r.ok.info, .slice yo yn yc] (0, 0) _ (unhide H5) Try.underlying31 rfl (unhide SZO) ?_))
      refine (unhide cS).mono ?_
      rintro e w6 ⟨rfl, b6⟩
      have HP6 := hide ((unhide HP5).later b6)
      have HM6 := hide ((unhide HM5).later b6)
      have p6 := (unhide HP6).cell (j := 6) (v := .bool r.la) rfl
      have cF := hide (first_any ao an ac LB c w6 (unhide HM6))
      have cG := hide (last_any ao an ac LB c24 w6 (unhide HM6))
      clear b6 cS p0 p1 p2 p3 p4 p5 HP5 HM5 H5 HY5 HY4 HP4 HM4 HP3 HM SZO
      obtain ⟨lq, ql⟩ : ∃ z, r.la = z := ⟨_, rfl⟩
      rw [ql] at p6
      cases lq
      · rw [unhide K1 ql] at cF
        clear K1 K2 cG ql
        go_wp2_with fail
        refine same_world (unhide cF) ?_
        go_wp2_with fail
        go_meet
        exact unhide HP6
      · rw [unhide K2 ql] at cG
        clear K1 K2 cF ql
        go_wp2_with fail
        refine same_world (unhide cG) ?_
        go_wp2_with fail
        go_meet
        exact unhide HP6
    · have he' : (E == 0) = false := by simpa using he
      clear he HOK
      go_wp2_with fail
      go_meet
      exact unhide HP3
  have HP4 := hide hcut
  clear hcut HOK HM HP3
  have p7 := (unhide HP4).cell (j := 7) (v := .int .u16 r.er.co) rfl
  have p8 := (unhide HP4).cell (j := 8) (v := .string r.er.st) rfl
  have p9 := (unhide HP4).cell (j := 9) (v := .string r.er.tx) rfl
  have cA := hide (fun wx => (appendErr_any none 0 0 [] r.er wx (Bs.nought _) (unhide HK).er (by have := unhide SM1; simp only [List.length_nil]; omega)).mono fun _ _ h => OutP.oute h)
  simp only [List.nil_append] at cA
  go_wp2_with fail
  refine (unhide cA _).mono ?_
  rintro e w5 ⟨bo, bn, bc, E2, LC, rfl, hm, hok, b5⟩
  have HP5 := hide ((unhide HP4).later b5)
  have HM := hide hm
  have HOK := hide hok
  clear b5 hm hok cA HP4 p7 p8 p9
  go_upto_if 78 with fail
  go_cut [] (fun wx => Pk w #[.int .u64 r.ok.af, .int .u64 r.ok.ins, .int .u16 r.ok.st, .int .u16 r.ok.wa, .string r.ok.info, .slice xo xn xc, .bool r.la, .int .u16 r.er.co, .string r.er.st, .string r.er.tx, .int .u16 r.eo.wa, .int .u16 r.eo.st, .int .u32 r.pr.id, .int .u16 r.pr.co, .int .u16 r.pr.pa, .int .u16 r.pr.wa, .string r.fi] wx)
  case first =>
    by_cases he : E2 = 0
    · have he' : (E2 == 0) = true := by simpa using he
      obtain ⟨hk, hB⟩ := unhide HOK he
      have hbn := (unhide HM).len
      have hl : (erB r.er).length ≤ 6100 := by have := unhide SM1; unfold erB; simp only [List.length_append, nums_length, le_length, List.length_singleton]; omega
      have cR := hide (readErr_any bo bn bc LC w5 (unhide HM) (by rw [hB] at hbn; omega))
      rw [show erR LC = (r.er, 0) by rw [hB]; exact er_back hk (unhide HK).er] at cR
      have K1 := hide (show fiK LC c = 2 by rw [hB]; exact er_first c r.er)
      have K2 := hide (show laK LC c = 2 by rw [hB]; exact er_last c r.er)
      clear he hk hB hl hbn
      go_wp2_with fail
      refine (unhide cR).mono ?_
      rintro e w6 ⟨rfl, b6⟩
      have HP6 := hide ((unhide HP5).later b6)
      have HM6 := hide ((unhide HM).later b6)
      clear b6 cR
      have ne := neq_er r.er
      have SZO := hide (show (Try.prog.info? 35).map (·.size) = some (#[.int .u16 r.er.co, .string r.er.st, .string r.er.tx] : Array Value).size by kernel_rfl)
      go_wp2_with (first
        | (with_reducible show wpList Try.prog _ _ (Oper.mk _ (Op.store 35 _ _) _ _ _ none :: _) _ _; refine wpList_stN rfl _ (.tmp 9) (.tmp 82) rfl #[.int .u16 r.er.co, .string r.er.st, .string r.er.tx] (by simp [Act.eval, Act.put]) (by simp [Act.eval, Act.put]) (unhide SZO) rfl (by simp [Value.oneCell']) ?_; intro w7 h7' b7 z7; have H7 := hide h7'; have HP7 := hide ((unhide HP6).later b7); have HM7 := hide ((unhide HM6).later b7); have cF := hide (first_any bo bn bc LC c w7 (unhide HM7)); have cG := hide (last_any bo bn bc LC c w7 (unhide HM7)); rw [unhide K1] at cF; rw [unhide K2] at cG; have p7 := (unhide HP7).cell (j := 7) (v := .int .u16 r.er.co) rfl; have p8 := (unhide HP7).cell (j := 8) (v := .string r.er.st) rfl; have p9 := (unhide HP7).cell (j := 9) (v := .string r.er.tx) rfl; clear h7' b7 z7)
        | (with_reducible show wpList Try.prog _ _ (Oper.mk (some 84) (Op.load _ _) _ _ _ none :: _) _ _; refine wpList_load_row rfl _ (.tmp 9) rfl w6.heap.size (by simp [Act.eval, Act.put]) _ #[.int .u16 r.er.co, .string r.er.st, .string r.er.tx] (0, 0) _ (unhide H7) Try.underlying35 rfl (unhide SZO) ?_)
        | (go_at_call 18; refine same_world (unhide cF) ?_)
        | (go_at_call 16; refine same_world (unhide cG) ?_))
      go_meet
      exact unhide HP7
    · have he' : (E2 == 0) = false := by simpa using he
      clear he HOK
      go_wp2_with fail
      go_meet
      exact unhide HP5
  have HP6 := hide hcut
  clear hcut HOK HM HP5
  have p16 := (unhide HP6).cell (j := 16) (v := .string r.fi) rfl
  have cA := hide (fun wx => (appendFile_any none 0 0 [] r.fi wx (Bs.nought _) (by have := unhide SM1; simp only [List.length_nil]; omega)).mono fun _ _ h => OutP.oute h)
  simp only [List.nil_append] at cA
  go_wp2_with fail
  refine (unhide cA _).mono ?_
  rintro e w7 ⟨fo, fn, fc, E3, LD, rfl, hm, hok, b7⟩
  have HP7 := hide ((unhide HP6).later b7)
  have HM := hide hm
  have HOK := hide hok
  clear b7 hm hok cA HP6 p16
  go_upto_if 111 with fail
  go_cut [] (fun wx => Pk w #[.int .u64 r.ok.af, .int .u64 r.ok.ins, .int .u16 r.ok.st, .int .u16 r.ok.wa, .string r.ok.info, .slice xo xn xc, .bool r.la, .int .u16 r.er.co, .string r.er.st, .string r.er.tx, .int .u16 r.eo.wa, .int .u16 r.eo.st, .int .u32 r.pr.id, .int .u16 r.pr.co, .int .u16 r.pr.pa, .int .u16 r.pr.wa, .string r.fi] wx)
  case first =>
    by_cases he : E3 = 0
    · have he' : (E3 == 0) = true := by simpa using he
      obtain ⟨hk, hB⟩ := unhide HOK he
      have hbn := (unhide HM).len
      have hl : (fiB r.fi).length ≤ 6100 := by have := unhide SM1; unfold fiB; simp only [List.length_append, nums_length, List.length_singleton]; omega
      have cR := hide (readFile_any fo fn fc LD w7 (unhide HM) (by rw [hB] at hbn; omega))
      rw [show fiR LD = (r.fi, 0) by rw [hB]; exact fi_back hk] at cR
      have K1 := hide (show fiK LD c7 = 4 by rw [hB]; exact fi_first r.fi (unhide O7))
      clear he hk hB hl hbn
      go_wp2_with fail
      refine (unhide cR).mono ?_
      rintro e w8 ⟨rfl, b8⟩
      have HP8 := hide ((unhide HP7).later b8)
      have HM8 := hide ((unhide HM).later b8)
      have cF := hide (first_any fo fn fc LD c7 w8 (unhide HM8))
      rw [unhide K1] at cF
      have p16 := (unhide HP8).cell (j := 16) (v := .string r.fi) rfl
      clear b8 cR
      go_wp2_with (go_at_call 18; refine same_world (unhide cF) ?_)
      go_meet
      exact unhide HP8
    · have he' : (E3 == 0) = false := by simpa using he
      clear he HOK
      go_wp2_with fail
      go_meet
      exact unhide HP7
  have HP8 := hide hcut
  clear hcut HOK HM HP7
  have p10 := (unhide HP8).cell (j := 10) (v := .int .u16 r.eo.wa) rfl
  have p11 := (unhide HP8).cell (j := 11) (v := .int .u16 r.eo.st) rfl
  have cA := hide (fun wx => appendEof_any none 0 0 [] r.eo wx (Bs.nought _) (unhide HK).eo (by decide))
  simp only [List.nil_append] at cA
  go_wp2_with fail
  refine (unhide cA _).mono ?_
  rintro e w9 ⟨go, gn, gc, rfl, hm, b9⟩
  have HP9 := hide ((unhide HP8).later b9)
  have HM := hide hm.bs
  have hg5 : gn ≤ 100 := by have h := hm.len; unfold eoB at h; simp only [List.length_append, le_length, List.length_singleton] at h; omega
  have cR := hide (readEof_any go gn gc _ w9 hm.bs (by omega))
  rw [eo_back (unhide HK).eo] at cR
  have KE := hide (eo_last r.eo (unhide N24))
  clear b9 hm cA HP8 p10 p11
  go_wp2_with fail
  refine (unhide cR).mono ?_
  rintro e w10 ⟨rfl, b10⟩
  have HP10 := hide ((unhide HP9).later b10)
  have HM10 := hide ((unhide HM).later b10)
  have SZE := hide (show (Try.prog.info? 41).map (·.size) = some (#[.int .u16 r.eo.wa, .int .u16 r.eo.st] : Array Value).size by kernel_rfl)
  have SZP := hide (show (Try.prog.info? 48).map (·.size) = some (#[.int .u32 r.pr.id, .int .u16 r.pr.co, .int .u16 r.pr.pa, .int .u16 r.pr.wa] : Array Value).size by kernel_rfl)
  clear b10 cR HP9 HM
  go_wp2_with (with_reducible show wpList Try.prog _ _ (Oper.mk _ (Op.store 41 _ _) _ _ _ none :: _) _ _; refine wpList_stN rfl _ (.tmp 14) (.tmp 138) rfl #[.int .u16 r.eo.wa, .int .u16 r.eo.st] (by simp [Act.eval, Act.put]) (by simp [Act.eval, Act.put]) (unhide SZE) rfl (by simp [Value.oneCell']) ?_; intro w11 h11 b11 z11; have H11 := hide h11; have HP11 := hide ((unhide HP10).later b11); have HM11 := hide ((unhide HM10).later b11); have p12 := (unhide HP11).cell (j := 12) (v := .int .u32 r.pr.id) rfl; have p13 := (unhide HP11).cell (j := 13) (v := .int .u16 r.pr.co) rfl; have p14 := (unhide HP11).cell (j := 14) (v := .int .u16 r.pr.pa) rfl; have p15 := (unhide HP11).cell (j := 15) (v := .int .u16 r.pr.wa) rfl; have cB := hide (appendPrepared_any none 0 0 [] r.pr w11 (Bs.nought _) (unhide HK).pr (by decide)); rw [List.nil_append] at cB; clear h11 b11 z11)
  refine (unhide cB).mono ?_
  rintro e w12 ⟨qo, qn, qc, rfl, hm, b12⟩
  have HP12 := hide ((unhide HP11).later b12)
  have HM12 := hide ((unhide HM11).later b12)
  have H12 := hide (row_later (unhide H11) b12)
  have hq : qn ≤ 100 := by have h := hm.len; unfold prB at h; simp only [List.length_append, le_length, List.length_singleton] at h; omega
  have cR := hide (readPrepared_any qo qn qc _ w12 hm.bs (by omega))
  rw [pr_back (unhide HK).pr] at cR
  clear b12 hm cB HP11 HM11 H11 HP10 HM10 p12 p13 p14 p15
  go_wp2_with fail
  refine (unhide cR).mono ?_
  rintro e w13 ⟨rfl, b13⟩
  have HP13 := hide ((unhide HP12).later b13)
  have HM13 := hide ((unhide HM12).later b13)
  have H13 := hide (row_later (unhide H12) b13)
  clear b13 cR HP12 HM12 H12
  have ne1 := eql_eo r.eo
  have ne2 := eql_pr r.pr
  go_wp2_with (first
    | (with_reducible show wpList Try.prog _ _ (Oper.mk _ (Op.store 48 _ _) _ _ _ none :: _) _ _; refine wpList_stN rfl _ (.tmp 16) (.tmp 146) rfl #[.int .u32 r.pr.id, .int .u16 r.pr.co, .int .u16 r.pr.pa, .int .u16 r.pr.wa] (by simp [Act.eval, Act.put]) (by simp [Act.eval, Act.put]) (unhide SZP) rfl (by simp [Value.oneCell']) ?_; intro w14 h14 b14 z14; have H14 := hide h14; have HP14 := hide ((unhide HP13).later b14); have HM14 := hide ((unhide HM13).later b14); have HE14 := hide (row_later (unhide H13) b14); have p10 := (unhide HP14).cell (j := 10) (v := .int .u16 r.eo.wa) rfl; have p11 := (unhide HP14).cell (j := 11) (v := .int .u16 r.eo.st) rfl; have p12 := (unhide HP14).cell (j := 12) (v := .int .u32 r.pr.id) rfl; have p13 := (unhide HP14).cell (j := 13) (v := .int .u16 r.pr.co) rfl; have p14 := (unhide HP14).cell (j := 14) (v := .int .u16 r.pr.pa) rfl; have p15 := (unhide HP14).cell (j := 15) (v := .int .u16 r.pr.wa) rfl; have s0 := row_cell (unhide H14) (j := 0) (v := .int .u32 r.pr.id) rfl; have s1 := row_cell (unhide H14) (j := 1) (v := .int .u16 r.pr.co) rfl; have s2 := row_cell (unhide H14) (j := 2) (v := .int .u16 r.pr.pa) rfl; have s3 := row_cell (unhide H14) (j := 3) (v := .int .u16 r.pr.wa) rfl; have cG := hide (last_any go gn gc _ n24 w14 (unhide HM14)); rw [unhide KE] at cG; clear h14 b14 z14)
    | (with_reducible show wpList Try.prog _ _ (Oper.mk (some 148) (Op.load _ _) _ _ _ none :: _) _ _; refine wpList_load_row rfl _ (.tmp 14) rfl w10.heap.size (by simp [Act.eval, Act.put]) _ #[.int .u16 r.eo.wa, .int .u16 r.eo.st] (0, 0) _ (unhide HE14) Try.underlying41 rfl (unhide SZE) ?_)
    | (go_at_call 16; refine same_world (unhide cG) ?_))
  go_ret
  exact ⟨rfl, (unhide HP14).bel⟩

end Go.Proofs.Ytkijdkbkbelliaa
