/-
  CommandReads: any bytes are read as a command, and told with another statement's id, as the document's answer says; what was handed in is as it was. Conditions: those of the statement.
-/
import Derived.Test.YtpidlfifipgadaaCmRf5
import Derived.Test.YtpidlfifipgadaaKit
namespace Go.Proofs.Ytpidlfifipgadaa
open Go.RowKit
set_option linter.unusedVariables false
set_option linter.unusedSimpArgs false

/-- What both WithStmt told is the same. -/
theorem outP_two {w : World} {R : Option (List Int)} {er : Int} {e : Ending} {w' : World} (h : OutP w R er e w') (hz : R ≠ none → er = 0) :
    ∃ ao n c l, e = .returned (.tuple #[.slice ao n c, .int .i64 er]) ∧ Bs w' ao n c l ∧ (l = R.getD []) ∧ Below w.heap.size w w' := by
  cases R with
  | none =>
    obtain ⟨h1, h2⟩ := h
    exact ⟨none, 0, 0, [], h1, Bs.nought _, rfl, h2⟩
  | some l =>
    obtain ⟨ao, n, c, h1, h2, h3⟩ := h
    have := hz (by simp)
    subst this
    exact ⟨ao, n, c, l, h1, h2.bs, rfl, h3⟩
theorem wsP_zero (b : List Int) (id : Int) : (wsP b id).1 ≠ none → (wsP b id).2 = 0 := by
  unfold wsP
  split
  · intro h; exact absurd rfl h
  · split
    · intro h; exact absurd rfl h
    · intro _; rfl

set_option maxHeartbeats 4000000 in
set_option maxRecDepth 100000 in
theorem lawCmReads (bo : Option Addr) (bn bc : Nat) (b : List Int) (id : Int) (w : World) (hb : Bs w bo bn bc b) (hi : 0 ≤ id ∧ id < 4294967296) :
    Calls Try.prog 3 #[.slice bo bn bc, .int .u32 id] w fun e w' => e = .returned (.bool true) ∧ Below w.heap.size w w' := by
  have hbl := hb.len
  have hbmx := hb.max
  have hble := hb.le
  have hz := wsP_zero b id
  have HBB := hide hb
  obtain ⟨c, er, hr⟩ : ∃ c er, rdP b = (c, er) := ⟨_, _, rfl⟩
  have HRB := hide hr
  obtain ⟨RW, EW, hW⟩ : ∃ RW EW, wsP b id = (RW, EW) := ⟨_, _, rfl⟩
  rw [hW] at hz
  have HWS := hide hW
  have HZ := hide (show RW ≠ none → EW = 0 from hz)
  clear hb hr hW hz
  go_enter Try.func3, Try.ntmps3
  go_wp2_with fail
  refine (cmLives_any _).mono ?_
  rintro e w1 ⟨rfl, b1⟩
  have HB1 := hide b1
  clear b1
  by_cases hbig : (bn : Int) > 3000
  · go_wp2_with fail
    go_ret
    exact ⟨rfl, unhide HB1⟩
  · have cO := hide (own_any bo bn bc b w1 ((unhide HBB).later (unhide HB1)) (by omega))
    go_wp2_with fail
    refine (unhide cO).mono ?_
    rintro e w2 ⟨g, rfl, o2, b2⟩
    have HB2 := hide ((unhide HB1).trans (b2.mono (unhide HB1).size))
    have O2 := hide o2
    have cR := hide (cmRead_any (some ⟨g, 0, none⟩) bn (bn + 8) b w2 (o2.pre hbl) (by omega))
    rw [unhide HRB] at cR
    clear o2 b2 cO
    go_wp2_with fail
    refine (unhide cR).mono ?_
    rintro e w3 ⟨xo, xn, xc, rfl, hb3, ho3, b3⟩
    have z4 := below_alloc w3 (.cells (c.cd xo xn xc).row 28)
    have b4 := b3.trans (z4.mono b3.size)
    have H4 := hide (heap_alloc_new w3 (.cells (c.cd xo xn xc).row 28))
    have HB4 := hide ((unhide HB2).trans (b4.mono (unhide HB2).size))
    have O4 := hide ((unhide O2).later b4)
    have X4 := hide (show Bs _ xo xn xc c.d from hb3.later z4)
    have y4 : w3.heap.size < (w3.alloc (.cells (c.cd xo xn xc).row 28)).heap.size := by simp
    have cD := hide (read_ref bo bn bc b _ ((unhide HBB).later (unhide HB4)) (by omega))
    rw [unhide HRB] at cD
    clear hb3 ho3 b3 z4 b4 cR
    go_wp2_with (with_reducible show wpList Try.prog _ _ (Oper.mk _ (Op.store 28 _ _) _ _ _ none :: _) _ _; refine wpList_storeN rfl (.tmp 6) (.tmp 24) rfl (c.cd xo xn xc) (by simp [Act.eval, Act.put]) (by simp [Act.eval, Act.put]) rfl ?_)
    refine (unhide cD).mono ?_
    rintro e w5 ⟨yo, yn, yc, rfl, hb5, ho5, b5⟩
    have z6 := below_alloc w5 (.cells (c.cd yo yn yc).row 28)
    have b6 := b5.trans (z6.mono b5.size)
    have H6 := hide ((b6.block w3.heap.size y4).trans (unhide H4))
    have J6 := hide (heap_alloc_new w5 (.cells (c.cd yo yn yc).row 28))
    have HB6 := hide ((unhide HB4).trans (b6.mono (unhide HB4).size))
    have O6 := hide ((unhide O4).later b6)
    have X6 := hide ((unhide X4).later b6)
    have Y6 := hide (show Bs _ yo yn yc c.d from hb5.later z6)
    have y6 : w5.heap.size < (w5.alloc (.cells (c.cd yo yn yc).row 28)).heap.size := by simp
    have y6' : w3.heap.size < (w5.alloc (.cells (c.cd yo yn yc).row 28)).heap.size := (Array.getElem?_eq_some_iff.1 (unhide H6)).1
    have cW := hide (cmWith_any (some ⟨g, 0, none⟩) bn (bn + 8) b id _ ((unhide O6).pre hbl) (by omega) hi)
    rw [unhide HWS] at cW
    clear hb5 ho5 b5 z6 b6 cD
    go_wp2_with (with_reducible show wpList Try.prog _ _ (Oper.mk _ (Op.store 28 _ _) _ _ _ none :: _) _ _; refine wpList_storeN rfl (.tmp 8) (.tmp 29) rfl (c.cd yo yn yc) (by simp [Act.eval, Act.put]) (by simp [Act.eval, Act.put]) rfl ?_)
    refine (unhide cW).mono ?_
    intro e w7 hp
    obtain ⟨so, sn, sc, ls, rfl, hs7, hls, b7⟩ := outP_two hp (unhide HZ)
    have H7 := hide ((b7.block w3.heap.size y6').trans (unhide H6))
    have J7 := hide ((b7.block w5.heap.size y6).trans (unhide J6))
    have HB7 := hide ((unhide HB6).trans (b7.mono (unhide HB6).size))
    have O7 := hide ((unhide O6).later b7)
    have X7 := hide ((unhide X6).later b7)
    have Y7 := hide ((unhide Y6).later b7)
    have S7 := hide hs7
    have HLS := hide hls
    have y7 := Nat.lt_of_lt_of_le y6 b7.size
    have y7' := Nat.lt_of_lt_of_le y6' b7.size
    have cV := hide (with_ref bo bn bc b id w7 ((unhide HBB).later (unhide HB7)) (by omega) hi)
    rw [unhide HWS] at cV
    clear hs7 hls b7 cW hp
    go_wp2_with fail
    refine (unhide cV).mono ?_
    intro e w8 hp
    obtain ⟨ro, rn, rc, lr, rfl, hr8, hlr, b8⟩ := outP_two hp (unhide HZ)
    have hll : lr = ls := by rw [hlr, unhide HLS]
    subst hll
    have H8 := hide ((b8.block w3.heap.size y7').trans (unhide H7))
    have J8 := hide ((b8.block w5.heap.size y7).trans (unhide J7))
    have HB8 := hide ((unhide HB7).trans (b8.mono (unhide HB7).size))
    have O8 := hide ((unhide O7).later b8)
    have S8 := hide ((unhide S7).later b8)
    have R8 := hide hr8
    have cC := hide (sameCommand_eq c xo xn xc yo yn yc w8 ((unhide X7).later b8) ((unhide Y7).later b8))
    clear hr8 hlr b8 cV hp HLS
    go_wp2_with (first | (with_reducible show wpList Try.prog _ _ (Oper.mk _ (Op.load 28 _) _ _ _ none :: _) _ _; refine wpList_loadC rfl (.tmp 6) rfl w3.heap.size (c.cd xo xn xc) (by simp [Act.eval, Act.put]) (unhide H8) ?_) | (with_reducible show wpList Try.prog _ _ (Oper.mk _ (Op.load 28 _) _ _ _ none :: _) _ _; refine wpList_loadC rfl (.tmp 8) rfl w5.heap.size (c.cd yo yn yc) (by simp [Act.eval, Act.put]) (unhide J8) ?_))
    refine (unhide cC).mono ?_
    rintro e w9 ⟨rfl, b9⟩
    have HB9 := hide ((unhide HB8).trans (b9.mono (unhide HB8).size))
    have cS := hide (same_self ro rn rc so sn sc lr w9 ((unhide S8).later b9) ((unhide R8).later b9))
    have cK := hide (kept_any g bn bc bo b w9 ((unhide O8).later b9) ((unhide HBB).later (unhide HB9)) (by omega))
    clear b9 cC
    go_wp2_with (first | (go_at_call 14; refine same_world (unhide cS) ?_) | (go_at_call 15; refine same_world (unhide cK) ?_))
    go_ret
    exact ⟨rfl, unhide HB9⟩

end Go.Proofs.Ytpidlfifipgadaa
