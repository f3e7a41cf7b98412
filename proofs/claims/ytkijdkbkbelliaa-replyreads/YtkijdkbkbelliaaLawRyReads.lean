/-
  ReplyReads walked: any bytes are read as each of the replies, and told apart, as the document's own answer does. Conditions: the slice can be read.
-/
import Derived.Test.YtkijdkbkbelliaaRySmall
import Derived.Test.YtkijdkbkbelliaaRyEq
import Derived.Test.YtkijdkbkbelliaaRyRrOk
import Derived.Test.YtkijdkbkbelliaaKit
namespace Go.Proofs.Ytkijdkbkbelliaa
open Go.RowKit
set_option linter.unusedVariables false
set_option linter.unusedSimpArgs false

/-- What stands through the whole: the copy, nothing old changed. -/
structure Rs (w0 : World) (g n : Nat) (b : List Int) (w : World) : Prop where
  own : Bs w (some ⟨g, 0, none⟩) (n + 8) (n + 8) (b ++ pad)
  bel : Below w0.heap.size w0 w
theorem Rs.later {w0 w w' : World} {g n : Nat} {b : List Int} (h : Rs w0 g n b w) (hb : Below w.heap.size w w') : Rs w0 g n b w' := ⟨h.own.later hb, bup h.bel hb⟩

set_option maxHeartbeats 16000000 in
set_option maxRecDepth 100000 in
theorem lawRyReads (bo : Option Addr) (bn bc : Nat) (b : List Int) (c : Int) (w : World) (hb : Bs w bo bn bc b) :
    Calls Try.prog 5 #[.slice bo bn bc, .int .u32 c] w fun e w' => e = .returned (.bool true) ∧ Below w.heap.size w w' := by
  have cL := hide (lives_any w)
  have hble := hb.le
  have hbmx := hb.max
  by_cases hbig : 3000 < bn
  · have q1 : (3000 : Int) < (bn : Int) := by omega
    clear hb
    go_enter Try.func5, Try.ntmps5
    go_wp2_with fail
    refine (unhide cL).mono ?_
    rintro e w1 ⟨rfl, b1⟩
    have B1 := hide b1
    clear b1 cL
    go_wp2_with fail
    go_ret
    exact ⟨rfl, unhide B1⟩
  have q1 : ¬ ((3000 : Int) < (bn : Int)) := by omega
  have hbl := hb.len
  have hn3 : bn ≤ 3000 := by omega
  have HB := hide hb
  have HBL := hide hbl
  have pO := hide (fun (wx : World) g (h : Rs w g bn b wx) => readOk_any (some ⟨g, 0, none⟩) bn (bn + 8) b c wx (h.own.pre hbl) (by omega))
  have rO := hide (fun (wx : World) g (h : Rs w g bn b wx) => readOk_ref bo bn bc b c wx (hb.later h.bel) (by omega))
  have pE := hide (fun (wx : World) g (h : Rs w g bn b wx) => readErr_any (some ⟨g, 0, none⟩) bn (bn + 8) b wx (h.own.pre hbl) (by omega))
  have rE := hide (fun (wx : World) g (h : Rs w g bn b wx) => readErr_ref bo bn bc b wx (hb.later h.bel) (by omega))
  have pF := hide (fun (wx : World) g (h : Rs w g bn b wx) => readEof_any (some ⟨g, 0, none⟩) bn (bn + 8) b wx (h.own.pre hbl) (by omega))
  have rF := hide (fun (wx : World) g (h : Rs w g bn b wx) => readEof_ref bo bn bc b wx (hb.later h.bel) (by omega))
  have pP := hide (fun (wx : World) g (h : Rs w g bn b wx) => readPrepared_any (some ⟨g, 0, none⟩) bn (bn + 8) b wx (h.own.pre hbl) (by omega))
  have rP := hide (fun (wx : World) g (h : Rs w g bn b wx) => readPrepared_ref bo bn bc b wx (hb.later h.bel) (by omega))
  have pN := hide (fun (wx : World) g (h : Rs w g bn b wx) => readFile_any (some ⟨g, 0, none⟩) bn (bn + 8) b wx (h.own.pre hbl) (by omega))
  have rN := hide (fun (wx : World) g (h : Rs w g bn b wx) => readFile_ref bo bn bc b wx (hb.later h.bel) (by omega))
  have pX := hide (fun (wx : World) g (h : Rs w g bn b wx) => first_any (some ⟨g, 0, none⟩) bn (bn + 8) b c wx (h.own.pre hbl))
  have rX := hide (fun (wx : World) g (h : Rs w g bn b wx) => first_ref bo bn bc b c wx (hb.later h.bel))
  have pY := hide (fun (wx : World) g (h : Rs w g bn b wx) => last_any (some ⟨g, 0, none⟩) bn (bn + 8) b c wx (h.own.pre hbl))
  have rY := hide (fun (wx : World) g (h : Rs w g bn b wx) => last_ref bo bn bc b c wx (hb.later h.bel))
  have rK := hide (fun (wx : World) g (h : Rs w g bn b wx) => kept_any g bn bc bo b wx h.own (hb.later h.bel) (by omega))
  have cO := hide (fun (wx : World) (hw : Below w.heap.size w wx) => own_any bo bn bc b wx (hb.later hw) (by omega))
  generalize okR b c = RO at *
  generalize erR b = RE at *
  generalize eoR b = RF at *
  generalize prR b = RP at *
  generalize fiR b = RN at *
  generalize fiK b c = KX at *
  generalize laK b c = KY at *
  obtain ⟨PO, EO⟩ := RO
  obtain ⟨PE, EE⟩ := RE
  obtain ⟨PF, EF⟩ := RF
  obtain ⟨PP, EP⟩ := RP
  obtain ⟨PN, EN⟩ := RN
  clear hb hbig hbl
  go_enter Try.func5, Try.ntmps5
  go_wp2_with fail
  refine (unhide cL).mono ?_
  rintro e w1 ⟨rfl, b1⟩
  have B1 := hide b1
  clear b1 cL
  go_wp2_with fail
  refine (unhide cO _ (unhide B1)).mono ?_
  rintro e w2 ⟨g, rfl, oO, b2⟩
  have H2 := hide (show Rs w g bn b w2 from ⟨oO, bup (unhide B1) b2⟩)
  clear oO b2 cO B1
  have SZ := hide (fun (uo : Option Addr) (un uc : Nat) => show (Try.prog.info? 31).map (·.size) = some (#[.int .u64 PO.af, .int .u64 PO.ins, .int .u16 PO.st, .int .u16 PO.wa, .string PO.info, .slice uo un uc] : Array Value).size by kernel_rfl)
  go_wp2_with fail
  refine (unhide pO _ g (unhide H2)).mono ?_
  rintro e w3 ⟨uo, un, uc, rfl, hU, bA⟩
  have H3 := hide ((unhide H2).later bA)
  clear bA H2 pO
  go_wp2_with (with_reducible show wpList Try.prog _ _ (Oper.mk _ (Op.store 31 _ _) _ _ _ none :: _) _ _; refine wpList_stN rfl _ (.tmp 6) (.tmp 29) rfl #[.int .u64 PO.af, .int .u64 PO.ins, .int .u16 PO.st, .int .u16 PO.wa, .string PO.info, .slice uo un uc] (by simp [Act.eval, Act.put]) (by simp [Act.eval, Act.put]) (unhide SZ uo un uc) rfl (by simp [Value.oneCell']) ?_; intro w4 hh bS zS; have HA := hide hh; have H4 := hide ((unhide H3).later bS); have HU := hide (hU.later bS); clear hh bS zS H3)
  clear hU
  refine (unhide rO _ g (unhide H4)).mono ?_
  rintro e w5 ⟨vo, vn, vc, rfl, hV, bA⟩
  have H5 := hide ((unhide H4).later bA)
  have HA5 := hide (row_later (unhide HA) bA)
  have HU3 := hide ((unhide HU).later bA)
  clear bA H4 HA rO HU
  go_wp2_with (first
    | (with_reducible show wpList Try.prog _ _ (Oper.mk _ (Op.store 31 _ _) _ _ _ none :: _) _ _; refine wpList_stN rfl _ (.tmp 8) (.tmp 35) rfl #[.int .u64 PO.af, .int .u64 PO.ins, .int .u16 PO.st, .int .u16 PO.wa, .string PO.info, .slice vo vn vc] (by simp [Act.eval, Act.put]) (by simp [Act.eval, Act.put]) (unhide SZ vo vn vc) rfl (by simp [Value.oneCell']) ?_; intro w6 hh bS zS; have HC := hide hh; have HA6 := hide (row_later (unhide HA5) bS); have H6 := hide ((unhide H5).later bS); have HU4 := hide ((unhide HU3).later bS); have HV4 := hide (hV.later bS); have cS := hide (sameOk_self PO uo un uc vo vn vc w6 (unhide HU4) (unhide HV4)); simp only [Ok.row] at cS; clear hh bS zS)
    | (with_reducible show wpList Try.prog _ _ (Oper.mk (some 37) (Op.load _ _) _ _ _ none :: _) _ _; refine wpList_load_row rfl _ (.tmp 6) rfl w3.heap.size (by simp [Act.eval, Act.put]) _ #[.int .u64 PO.af, .int .u64 PO.ins, .int .u16 PO.st, .int .u16 PO.wa, .string PO.info, .slice uo un uc] (0, 0) _ (unhide HA6) Try.underlying31 rfl (unhide SZ uo un uc) ?_)
    | (with_reducible show wpList Try.prog _ _ (Oper.mk (some 38) (Op.load _ _) _ _ _ none :: _) _ _; refine wpList_load_row rfl _ (.tmp 8) rfl w5.heap.size (by simp [Act.eval, Act.put]) _ #[.int .u64 PO.af, .int .u64 PO.ins, .int .u16 PO.st, .int .u16 PO.wa, .string PO.info, .slice vo vn vc] (0, 0) _ (unhide HC) Try.underlying31 rfl (unhide SZ vo vn vc) ?_))
  refine (unhide cS).mono ?_
  rintro e w7 ⟨rfl, b7⟩
  have H7 := hide ((unhide H6).later b7)
  clear b7 cS H6 H5 HC HA5 HA6 HU3 HU4 HV4 hV SZ
  go_wp2_with fail
  have SZE := hide (show (Try.prog.info? 35).map (·.size) = some (#[.int .u16 PE.co, .string PE.st, .string PE.tx] : Array Value).size by kernel_rfl)
  have neE := neq_er PE
  refine (unhide pE _ g (unhide H7)).mono ?_
  rintro e w8 ⟨rfl, bA⟩
  have H8 := hide ((unhide H7).later bA)
  clear bA H7 pE
  go_wp2_with (with_reducible show wpList Try.prog _ _ (Oper.mk _ (Op.store 35 _ _) _ _ _ none :: _) _ _; refine wpList_stN rfl _ (.tmp 10) (.tmp 49) rfl #[.int .u16 PE.co, .string PE.st, .string PE.tx] (by simp [Act.eval, Act.put]) (by simp [Act.eval, Act.put]) (unhide SZE) rfl (by simp [Value.oneCell']) ?_; intro w9 hh bS zS; have HA := hide hh; have H9 := hide ((unhide H8).later bS); clear hh bS zS H8)
  refine (unhide rE _ g (unhide H9)).mono ?_
  rintro e w10 ⟨rfl, bA⟩
  have H10 := hide ((unhide H9).later bA)
  have HA10 := hide (row_later (unhide HA) bA)
  clear bA H9 HA rE
  go_wp2_with (first
    | (with_reducible show wpList Try.prog _ _ (Oper.mk _ (Op.store 35 _ _) _ _ _ none :: _) _ _; refine wpList_stN rfl _ (.tmp 11) (.tmp 54) rfl #[.int .u16 PE.co, .string PE.st, .string PE.tx] (by simp [Act.eval, Act.put]) (by simp [Act.eval, Act.put]) (unhide SZE) rfl (by simp [Value.oneCell']) ?_; intro w11 hh bS zS; have HC := hide hh; have HA11 := hide (row_later (unhide HA10) bS); have H11 := hide ((unhide H10).later bS); clear hh bS zS)
    | (with_reducible show wpList Try.prog _ _ (Oper.mk (some 56) (Op.load _ _) _ _ _ none :: _) _ _; refine wpList_load_row rfl _ (.tmp 10) rfl w8.heap.size (by simp [Act.eval, Act.put]) _ #[.int .u16 PE.co, .string PE.st, .string PE.tx] (0, 0) _ (unhide HA11) Try.underlying35 rfl (unhide SZE) ?_)
    | (with_reducible show wpList Try.prog _ _ (Oper.mk (some 57) (Op.load _ _) _ _ _ none :: _) _ _; refine wpList_load_row rfl _ (.tmp 11) rfl w10.heap.size (by simp [Act.eval, Act.put]) _ #[.int .u16 PE.co, .string PE.st, .string PE.tx] (0, 0) _ (unhide HC) Try.underlying35 rfl (unhide SZE) ?_))
  clear HC HA10 HA11 H10 neE SZE
  have SZF := hide (show (Try.prog.info? 41).map (·.size) = some (#[.int .u16 PF.wa, .int .u16 PF.st] : Array Value).size by kernel_rfl)
  have neF := neq_eo PF
  refine (unhide pF _ g (unhide H11)).mono ?_
  rintro e w12 ⟨rfl, bA⟩
  have H12 := hide ((unhide H11).later bA)
  clear bA H11 pF
  go_wp2_with (with_reducible show wpList Try.prog _ _ (Oper.mk _ (Op.store 41 _ _) _ _ _ none :: _) _ _; refine wpList_stN rfl _ (.tmp 12) (.tmp 67) rfl #[.int .u16 PF.wa, .int .u16 PF.st] (by simp [Act.eval, Act.put]) (by simp [Act.eval, Act.put]) (unhide SZF) rfl (by simp [Value.oneCell']) ?_; intro w13 hh bS zS; have HA := hide hh; have H13 := hide ((unhide H12).later bS); clear hh bS zS H12)
  refine (unhide rF _ g (unhide H13)).mono ?_
  rintro e w14 ⟨rfl, bA⟩
  have H14 := hide ((unhide H13).later bA)
  have HA14 := hide (row_later (unhide HA) bA)
  clear bA H13 HA rF
  go_wp2_with (first
    | (with_reducible show wpList Try.prog _ _ (Oper.mk _ (Op.store 41 _ _) _ _ _ none :: _) _ _; refine wpList_stN rfl _ (.tmp 13) (.tmp 72) rfl #[.int .u16 PF.wa, .int .u16 PF.st] (by simp [Act.eval, Act.put]) (by simp [Act.eval, Act.put]) (unhide SZF) rfl (by simp [Value.oneCell']) ?_; intro w15 hh bS zS; have HC := hide hh; have HA15 := hide (row_later (unhide HA14) bS); have H15 := hide ((unhide H14).later bS); clear hh bS zS)
    | (with_reducible show wpList Try.prog _ _ (Oper.mk (some 74) (Op.load _ _) _ _ _ none :: _) _ _; refine wpList_load_row rfl _ (.tmp 12) rfl w12.heap.size (by simp [Act.eval, Act.put]) _ #[.int .u16 PF.wa, .int .u16 PF.st] (0, 0) _ (unhide HA15) Try.underlying41 rfl (unhide SZF) ?_)
    | (with_reducible show wpList Try.prog _ _ (Oper.mk (some 75) (Op.load _ _) _ _ _ none :: _) _ _; refine wpList_load_row rfl _ (.tmp 13) rfl w14.heap.size (by simp [Act.eval, Act.put]) _ #[.int .u16 PF.wa, .int .u16 PF.st] (0, 0) _ (unhide HC) Try.underlying41 rfl (unhide SZF) ?_))
  clear HC HA14 HA15 H14 neF SZF
  have SZP := hide (show (Try.prog.info? 48).map (·.size) = some (#[.int .u32 PP.id, .int .u16 PP.co, .int .u16 PP.pa, .int .u16 PP.wa] : Array Value).size by kernel_rfl)
  have neP := neq_pr PP
  refine (unhide pP _ g (unhide H15)).mono ?_
  rintro e w16 ⟨rfl, bA⟩
  have H16 := hide ((unhide H15).later bA)
  clear bA H15 pP
  go_wp2_with (with_reducible show wpList Try.prog _ _ (Oper.mk _ (Op.store 48 _ _) _ _ _ none :: _) _ _; refine wpList_stN rfl _ (.tmp 14) (.tmp 85) rfl #[.int .u32 PP.id, .int .u16 PP.co, .int .u16 PP.pa, .int .u16 PP.wa] (by simp [Act.eval, Act.put]) (by simp [Act.eval, Act.put]) (unhide SZP) rfl (by simp [Value.oneCell']) ?_; intro w17 hh bS zS; have HA := hide hh; have H17 := hide ((unhide H16).later bS); clear hh bS zS H16)
  refine (unhide rP _ g (unhide H17)).mono ?_
  rintro e w18 ⟨rfl, bA⟩
  have H18 := hide ((unhide H17).later bA)
  have HA18 := hide (row_later (unhide HA) bA)
  clear bA H17 HA rP
  go_wp2_with (first
    | (with_reducible show wpList Try.prog _ _ (Oper.mk _ (Op.store 48 _ _) _ _ _ none :: _) _ _; refine wpList_stN rfl _ (.tmp 15) (.tmp 90) rfl #[.int .u32 PP.id, .int .u16 PP.co, .int .u16 PP.pa, .int .u16 PP.wa] (by simp [Act.eval, Act.put]) (by simp [Act.eval, Act.put]) (unhide SZP) rfl (by simp [Value.oneCell']) ?_; intro w19 hh bS zS; have HC := hide hh; have HA19 := hide (row_later (unhide HA18) bS); have H19 := hide ((unhide H18).later bS); clear hh bS zS)
    | (with_reducible show wpList Try.prog _ _ (Oper.mk (some 92) (Op.load _ _) _ _ _ none :: _) _ _; refine wpList_load_row rfl _ (.tmp 14) rfl w16.heap.size (by simp [Act.eval, Act.put]) _ #[.int .u32 PP.id, .int .u16 PP.co, .int .u16 PP.pa, .int .u16 PP.wa] (0, 0) _ (unhide HA19) Try.underlying48 rfl (unhide SZP) ?_)
    | (with_reducible show wpList Try.prog _ _ (Oper.mk (some 93) (Op.load _ _) _ _ _ none :: _) _ _; refine wpList_load_row rfl _ (.tmp 15) rfl w18.heap.size (by simp [Act.eval, Act.put]) _ #[.int .u32 PP.id, .int .u16 PP.co, .int .u16 PP.pa, .int .u16 PP.wa] (0, 0) _ (unhide HC) Try.underlying48 rfl (unhide SZP) ?_))
  clear HC HA18 HA19 H18 neP SZP
  refine (unhide pN _ g (unhide H19)).mono ?_
  rintro e wM ⟨rfl, bA⟩
  have HM := hide ((unhide H19).later bA)
  clear bA H19 pN
  go_wp2_with fail
  refine (unhide rN _ g (unhide HM)).mono ?_
  rintro e wN ⟨rfl, bA⟩
  have HN := hide ((unhide HM).later bA)
  clear bA HM rN
  go_wp2_with (first | (go_at_call 18; refine same_world (unhide pX _ g (unhide HN)) ?_) | (go_at_call 36; refine same_world (unhide rX _ g (unhide HN)) ?_) | (go_at_call 16; refine same_world (unhide pY _ g (unhide HN)) ?_) | (go_at_call 37; refine same_world (unhide rY _ g (unhide HN)) ?_) | (go_at_call 38; refine same_world (unhide rK _ g (unhide HN)) ?_))
  go_ret
  exact ⟨rfl, (unhide HN).bel⟩

end Go.Proofs.Ytkijdkbkbelliaa
