/-
  ColumnReads walked: any bytes are read as a column, and as a count, as the document's own answer does. Conditions: the slice can be read.
-/
import Derived.Test.YtgdjeooiimjjcaaClRr
import Derived.Test.YtgdjeooiimjjcaaClLives
import Derived.Test.YtgdjeooiimjjcaaClEq
import Derived.Test.YtgdjeooiimjjcaaKit
namespace Go.Proofs.Ytgdjeooiimjjcaa
open Go.RowKit
set_option linter.unusedVariables false
set_option linter.unusedSimpArgs false

/-- What stands through the whole: the copy, nothing old changed. -/
structure Rs (w0 : World) (g n : Nat) (b : List Int) (w : World) : Prop where
  own : Bs w (some ⟨g, 0, none⟩) (n + 8) (n + 8) (b ++ pad)
  bel : Below w0.heap.size w0 w
theorem Rs.later {w0 w w' : World} {g n : Nat} {b : List Int} (h : Rs w0 g n b w) (hb : Below w.heap.size w w') : Rs w0 g n b w' := ⟨h.own.later hb, bup h.bel hb⟩

set_option maxHeartbeats 8000000 in
set_option maxRecDepth 100000 in
theorem lawClReads (bo : Option Addr) (bn bc : Nat) (b : List Int) (w : World) (hb : Bs w bo bn bc b) :
    Calls Try.prog 3 #[.slice bo bn bc] w fun e w' => e = .returned (.bool true) ∧ Below w.heap.size w w' := by
  have cL := hide (lives_any w)
  have hble := hb.le
  have hbmx := hb.max
  by_cases hbig : 3000 < bn
  · have q1 : (3000 : Int) < (bn : Int) := by omega
    clear hb
    go_enter Try.func3, Try.ntmps3
    go_wp2_with fail
    refine (unhide cL).mono ?_
    rintro e w1 ⟨rfl, b1⟩
    have B1 := hide b1
    clear b1 cL
    go_wp2_with fail
    go_ret
    exact ⟨rfl, unhide B1⟩
  have q1 : ¬ ((3000 : Int) < (bn : Int)) := by omega
  have hbl := hb.len
  have hn3 : bn ≤ 3000 := by omega
  have pO := hide (fun (wx : World) g (h : Rs w g bn b wx) => read_any (some ⟨g, 0, none⟩) bn (bn + 8) b wx (h.own.pre hbl) (by omega))
  have rO := hide (fun (wx : World) g (h : Rs w g bn b wx) => read_ref bo bn bc b wx (hb.later h.bel) (by omega))
  have pN := hide (fun (wx : World) g (h : Rs w g bn b wx) => readCount_any (some ⟨g, 0, none⟩) bn (bn + 8) b wx (h.own.pre hbl))
  have rN := hide (fun (wx : World) g (h : Rs w g bn b wx) => readCount_ref bo bn bc b wx (hb.later h.bel))
  have rK := hide (fun (wx : World) g (h : Rs w g bn b wx) => kept_any g bn bc bo b wx h.own (hb.later h.bel) (by omega))
  have cO := hide (fun (wx : World) (hw : Below w.heap.size w wx) => own_any bo bn bc b wx (hb.later hw) (by omega))
  generalize coR b = RO at *
  generalize ctR b = RN at *
  obtain ⟨P, EO⟩ := RO
  obtain ⟨N, EN⟩ := RN
  clear hb hbig hbl
  go_enter Try.func3, Try.ntmps3
  go_wp2_with fail
  refine (unhide cL).mono ?_
  rintro e w1 ⟨rfl, b1⟩
  have B1 := hide b1
  clear b1 cL
  go_wp2_with fail
  refine (unhide cO _ (unhide B1)).mono ?_
  rintro e w2 ⟨g, rfl, oO, b2⟩
  have H2 := hide (show Rs w g bn b w2 from ⟨oO, bup (unhide B1) b2⟩)
  clear oO b2 cO B1
  have SZ := hide (show (Try.prog.info? 28).map (·.size) = some (#[.string P.sc, .string P.ta, .string P.ot, .string P.na, .string P.on, .int .u16 P.ch, .int .u32 P.le, .int .u8 P.ty, .int .u16 P.fl, .int .u8 P.de] : Array Value).size by kernel_rfl)
  go_wp2_with fail
  refine (unhide pO _ g (unhide H2)).mono ?_
  rintro e w3 ⟨rfl, bA⟩
  have H3 := hide ((unhide H2).later bA)
  clear bA H2 pO
  go_wp2_with (with_reducible show wpList Try.prog _ _ (Oper.mk _ (Op.store 28 _ _) _ _ _ none :: _) _ _; refine wpList_stN rfl _ (.tmp 4) (.tmp 22) rfl #[.string P.sc, .string P.ta, .string P.ot, .string P.na, .string P.on, .int .u16 P.ch, .int .u32 P.le, .int .u8 P.ty, .int .u16 P.fl, .int .u8 P.de] (by simp [Act.eval, Act.put]) (by simp [Act.eval, Act.put]) (unhide SZ) rfl (by simp [Value.oneCell']) ?_; intro w4 hh bS zS; have HA := hide hh; have H4 := hide ((unhide H3).later bS); clear hh bS zS H3)
  refine (unhide rO _ g (unhide H4)).mono ?_
  rintro e w5 ⟨rfl, bA⟩
  have H5 := hide ((unhide H4).later bA)
  have HA5 := hide (row_later (unhide HA) bA)
  clear bA H4 HA rO
  go_wp2_with (with_reducible show wpList Try.prog _ _ (Oper.mk _ (Op.store 28 _ _) _ _ _ none :: _) _ _; refine wpList_stN rfl _ (.tmp 6) (.tmp 27) rfl #[.string P.sc, .string P.ta, .string P.ot, .string P.na, .string P.on, .int .u16 P.ch, .int .u32 P.le, .int .u8 P.ty, .int .u16 P.fl, .int .u8 P.de] (by simp [Act.eval, Act.put]) (by simp [Act.eval, Act.put]) (unhide SZ) rfl (by simp [Value.oneCell']) ?_; intro w6 hh bS zS; have HC := hide hh; have HA6 := hide (row_later (unhide HA5) bS); have H6 := hide ((unhide H5).later bS); clear hh bS zS H5 HA5)
  refine same_world (unhide pN _ g (unhide H6)) ?_
  clear pN
  go_wp2_with fail
  refine same_world (unhide rN _ g (unhide H6)) ?_
  clear rN
  have eqS := eql_self P
  have cK := hide (unhide rK _ g (unhide H6))
  clear rK
  go_wp2_with (first
    | (with_reducible show wpList Try.prog _ _ (Oper.mk (some 39) (Op.load _ _) _ _ _ none :: _) _ _; refine wpList_load_row rfl _ (.tmp 4) rfl w3.heap.size (by simp [Act.eval, Act.put]) _ #[.string P.sc, .string P.ta, .string P.ot, .string P.na, .string P.on, .int .u16 P.ch, .int .u32 P.le, .int .u8 P.ty, .int .u16 P.fl, .int .u8 P.de] (0, 0) _ (unhide HA6) Try.underlying28 rfl (unhide SZ) ?_)
    | (with_reducible show wpList Try.prog _ _ (Oper.mk (some 40) (Op.load _ _) _ _ _ none :: _) _ _; refine wpList_load_row rfl _ (.tmp 6) rfl w5.heap.size (by simp [Act.eval, Act.put]) _ #[.string P.sc, .string P.ta, .string P.ot, .string P.na, .string P.on, .int .u16 P.ch, .int .u32 P.le, .int .u8 P.ty, .int .u16 P.fl, .int .u8 P.de] (0, 0) _ (unhide HC) Try.underlying28 rfl (unhide SZ) ?_)
    | (go_at_call 11; refine same_world (unhide cK) ?_))
  go_ret
  exact ⟨rfl, (unhide H6).bel⟩

end Go.Proofs.Ytgdjeooiimjjcaa
