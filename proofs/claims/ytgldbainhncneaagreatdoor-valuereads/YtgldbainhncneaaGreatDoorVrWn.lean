/-
  The document's own answer for values: a date or a time, read field by field. It changes the fields alone. Conditions: the bytes can be read.
-/
import Derived.Test.YtgldbainhncneaaGreatDoorVrCk
import Derived.Deep.CutRange
import Derived.Deep.DeepCutAuto
namespace Go.Proofs.YtgldbainhncneaaGreatDoor
open Go.RowKit
set_option linter.unusedVariables false
set_option linter.unusedSimpArgs false

theorem waS_ne {s : FS} : ¬ (waS s false).e = 0 := by
  unfold waS
  by_cases h : s.e = 0 <;> simp [h]
def wnT (n : Int) (s1 : FS) : Wh × FS :=
  if (waS s1 (n == 0 || (n == 8 || n == 12))).e = 0 ∧ 0 < n then
    (ckO (fxS (fxS (waS s1 (n == 0 || (n == 8 || n == 12))) 1) 4) ⟨fxA (waS s1 (n == 0 || (n == 8 || n == 12))) 1 == 1, 0, 0, fxA (fxS (waS s1 (n == 0 || (n == 8 || n == 12))) 1) 4, 0, 0, 0, 0⟩ (n == 12),
      waS (ckS (fxS (fxS (waS s1 (n == 0 || (n == 8 || n == 12))) 1) 4) (n == 12)) (decide (fxA (waS s1 (n == 0 || (n == 8 || n == 12))) 1 ≤ 1)))
  else (wh0, waS s1 (n == 0 || (n == 8 || n == 12)))
def wnP (n : Int) (s2 : FS) : Wh × FS :=
  if s2.e = 0 ∧ 0 < n then (⟨false, fxA s2 2, fxA (fxS s2 2) 1, fxA (fxS (fxS s2 2) 1) 1, 0, 0, 0, 0⟩, fxS (fxS (fxS s2 2) 1) 1) else (wh0, s2)
def wnC (n : Int) (p : Wh × FS) : Wh × FS := if p.2.e = 0 ∧ 4 < n then (ckO p.2 p.1 (n == 11), ckS p.2 (n == 11)) else p
def wnD (n : Int) (s1 : FS) : Wh × FS := wnC n (wnP n (waS s1 (n == 0 || (n == 4 || (n == 7 || n == 11)))))
def wnQ (s0 : FS) (t : Int) : Wh × FS := if t = 11 then wnT (fxA s0 1) (fxS s0 1) else wnD (fxA s0 1) (fxS s0 1)
def wnR (s0 : FS) (t : Int) : Wh × FS := ((wnQ s0 t).1, waS (wnQ s0 t).2 (if t = 11 then tmOk (wnQ s0 t).1 else dtOk (wnQ s0 t).1 t))

set_option maxHeartbeats 4000000 in
set_option maxRecDepth 100000 in
theorem whenOf_ref (g : Nat) (s0 : FS) (t : Int) (w : World) (hd : Dx g w s0) (q0 : 0 ≤ t) (q1 : t < 256) : Calls Tryz.prog 29 #[.pointer (some ⟨g, 0, none⟩), .int .u8 t] w fun e w' => e = .returned (.agg (whC (wnR s0 t).1)) ∧ OutY g w (wnR s0 t).2 w' := by
  have hg0 := hd.lt
  have cW := hide (fun v wx => when_ref v t wx)
  have HQ := hide (show wnR s0 t = ((wnQ s0 t).1, waS (wnQ s0 t).2 (if t = 11 then tmOk (wnQ s0 t).1 else dtOk (wnQ s0 t).1 t)) from rfl)
  have HQ2 := hide (show wnQ s0 t = if t = 11 then wnT (fxA s0 1) (fxS s0 1) else wnD (fxA s0 1) (fxS s0 1) from rfl)
  obtain ⟨QQ, hQQ⟩ : ∃ z, z = wnQ s0 t := ⟨_, rfl⟩
  rw [← hQQ] at HQ HQ2
  rw [unhide HQ]
  clear hQQ HQ
  obtain ⟨VR, SR⟩ := QQ
  simp only at HQ2 ⊢
  have cV := hide (unhide cW VR)
  obtain ⟨OK, hOK⟩ : ∃ z, z = if t = 11 then tmOk VR else dtOk VR t := ⟨_, rfl⟩
  rw [← hOK] at cV ⊢
  have SEV := hide (whC_size VR)
  obtain ⟨CV, hCV⟩ : ∃ z, z = whC VR := ⟨_, rfl⟩
  rw [← hCV] at cV SEV ⊢
  have SOV := hide (show CV.all (·.oneCell') = true by rw [hCV]; exact whC_one _)
  have hCZ : CV.size = 8 := by rw [hCV]; rfl
  have HCV := hide hCV
  clear cW hOK hCV
  have D0 := hide (hd.later (below_alloc w (.cells #[.bool false, .int .i64 0, .int .i64 0, .int .i64 0, .int .i64 0, .int .i64 0, .int .i64 0, .int .i64 0] 30)))
  have RA := hide (heap_alloc_new w (.cells #[.bool false, .int .i64 0, .int .i64 0, .int .i64 0, .int .i64 0, .int .i64 0, .int .i64 0, .int .i64 0] 30))
  have LA : w.heap.size < (w.alloc (.cells #[.bool false, .int .i64 0, .int .i64 0, .int .i64 0, .int .i64 0, .int .i64 0, .int .i64 0, .int .i64 0] 30)).heap.size := by simp
  go_enter Tryz.func29, Tryz.ntmps29
  go_wp2_with fail
  refine (byte_dx _ _ _ (unhide D0)).mono ?_
  rintro e w1 ⟨⟨rfl, a1, c1⟩, o1⟩
  obtain ⟨n, hn⟩ : ∃ z, z = fxA s0 1 := ⟨_, rfl⟩
  obtain ⟨s1, hs1⟩ : ∃ z, z = fxS s0 1 := ⟨_, rfl⟩
  rw [← hn] at a1 c1 ⊢
  rw [← hs1] at o1
  rw [← hn, ← hs1] at HQ2
  have zw1 : wrap64 n = n := by unfold wrap64; omega
  have zw2 : IntKind.i64.wrap n = n := by rw [IntKind.wrap_i64]; omega
  have hA1 : w.heap.size < w1.heap.size := Nat.lt_of_lt_of_le LA o1.2.size
  have W1 := hide (show Wq w g w.heap.size w1.heap.size #[.bool false, .int .i64 0, .int .i64 0, .int .i64 0, .int .i64 0, .int .i64 0, .int .i64 0, .int .i64 0] #[.bool false, .int .i64 0, .int .i64 0, .int .i64 0, .int .i64 0, .int .i64 0, .int .i64 0, .int .i64 0] s1 (w1.alloc (.cells #[.bool false, .int .i64 0, .int .i64 0, .int .i64 0, .int .i64 0, .int .i64 0, .int .i64 0, .int .i64 0] 30)) from
    ⟨o1.1.later (below_alloc w1 _), vrow_later ((o1.2.block _ LA (by omega)).trans (unhide RA)) (below_alloc w1 _), heap_alloc_new w1 _, gb_up ((gb_up (Gb.refl g w) (below_alloc w _)).trans o1.2) (below_alloc w1 _), hg0, Nat.le_refl _, by omega, by omega⟩)
  clear D0 RA o1 hd hn hs1 LA
  go_upto_if 13 with fail
  go_cut [] (fun wx => Wq w g w.heap.size w1.heap.size #[.bool false, .int .i64 0, .int .i64 0, .int .i64 0, .int .i64 0, .int .i64 0, .int .i64 0, .int .i64 0] CV SR wx)
  case first =>
    by_cases ht : t = 11
    · rw [if_pos ht] at HQ2
      subst ht
      have HT := hide (unhide HQ2)
      unfold wnT at HT
      clear HQ2
      by_cases n0 : n = 0
      · subst n0
        rw [show ((0 : Int) == 0 || ((0 : Int) == 8 || (0 : Int) == 12)) = true from rfl, if_neg (by omega)] at HT
        injection (unhide HT) with h1 h2
        have hC : CV = #[.bool false, .int .i64 0, .int .i64 0, .int .i64 0, .int .i64 0, .int .i64 0, .int .i64 0, .int .i64 0] := by rw [unhide HCV, h1]; rfl
        have HC := hide hC
        subst h2
        clear HT h1 hC HCV
        go_wp2_with fail
        refine (wrong_dx _ _ _ true false rfl (unhide W1).d).mono ?_
        rintro e w2 ⟨rfl, o2⟩
        have W2 := hide ((unhide W1).call o2)
        clear o2
        have e2 := (unhide W2).d.c1
        cases he : ((waS s1 true).e == 0)
        · go_wp2_with fail
          go_meet
          rw [unhide HC]
          exact unhide W2
        · go_wp2_with fail
          go_meet
          rw [unhide HC]
          exact unhide W2
      by_cases n8 : n = 8
      · subst n8
        rw [show ((8 : Int) == 0 || ((8 : Int) == 8 || (8 : Int) == 12)) = true from rfl] at HT
        go_wp2_with fail
        refine (wrong_dx _ _ _ true false rfl (unhide W1).d).mono ?_
        rintro e w2 ⟨rfl, o2⟩
        have W2 := hide ((unhide W1).call o2)
        clear o2
        have e2 := (unhide W2).d.c1
        obtain ⟨s2, hs2⟩ : ∃ z, z = waS s1 true := ⟨_, rfl⟩
        rw [← hs2] at HT W2 e2
        clear hs2 W1
        by_cases he : s2.e = 0
        · have ge : (s2.e == 0) = true := by simpa using he
          rw [if_pos ⟨he, by omega⟩] at HT
          clear he
          go_wp2_with fail
          refine (byte_dx _ _ _ (unhide W2).d).mono ?_
          rintro e w3 ⟨⟨rfl, a3, c3⟩, o3⟩
          have W3c := (unhide W2).call o3
          obtain ⟨x2, hx2⟩ : ∃ z, z = fxA s2 1 := ⟨_, rfl⟩
          obtain ⟨s3, hs3⟩ : ∃ z, z = fxS s2 1 := ⟨_, rfl⟩
          rw [← hx2] at a3 c3 ⊢
          rw [← hs3] at W3c
          rw [← hx2, ← hs3] at HT
          have wx3 : wrap64 x2 = x2 := by unfold wrap64; omega
          have wy3 : IntKind.i64.wrap x2 = x2 := by rw [IntKind.wrap_i64]; omega
          obtain ⟨NB, hNB⟩ : ∃ z, (x2 == 1) = z := ⟨_, rfl⟩
          rw [hNB] at HT
          have fz := W3c.fb 0
          have kz := vrow_cell W3c.b (j := 0) (v := .bool false) rfl
          have W3 := hide (W3c.stB 0 (.bool NB) (cb' := #[.bool NB, .int .i64 0, .int .i64 0, .int .i64 0, .int .i64 0, .int .i64 0, .int .i64 0, .int .i64 0]) rfl)
          clear W3c W2 o3 hx2 hs3
          go_wp2_with fail
          clear fz kz
          refine (fixed_dx _ _ _ 4 4 4294967296 rfl (by omega) (by omega) (by decide) (unhide W3).d).mono ?_
          rintro e w4 ⟨⟨rfl, a4, c4⟩, o4⟩
          have W4c := (unhide W3).call o4
          obtain ⟨x3, hx3⟩ : ∃ z, z = fxA s3 4 := ⟨_, rfl⟩
          obtain ⟨s4, hs4⟩ : ∃ z, z = fxS s3 4 := ⟨_, rfl⟩
          rw [← hx3] at a4 c4 ⊢
          rw [← hs4] at W4c
          rw [← hx3, ← hs4] at HT
          have wx4 : wrap64 x3 = x3 := by unfold wrap64; omega
          have wy4 : IntKind.i64.wrap x3 = x3 := by rw [IntKind.wrap_i64]; omega
          have fz := W4c.fb 3
          have kz := vrow_cell W4c.b (j := 3) (v := .int .i64 0) rfl
          have W4 := hide (W4c.stB 3 (.int .i64 x3) (cb' := #[.bool NB, .int .i64 0, .int .i64 0, .int .i64 x3, .int .i64 0, .int .i64 0, .int .i64 0, .int .i64 0]) rfl)
          clear W4c W3 o4 hx3 hs4
          rw [show ((8 : Int) == 12) = false from rfl] at HT
          have SEk := hide (show (Tryz.prog.info? 30).map (·.size) = some (#[.bool NB, .int .i64 0, .int .i64 0, .int .i64 x3, .int .i64 0, .int .i64 0, .int .i64 0, .int .i64 0] : Array Value).size by kernel_rfl)
          have cK := hide (fun wx (h : Dx g wx s4) => clockOf_ref g s4 ⟨NB, 0, 0, x3, 0, 0, 0, 0⟩ false wx h)
          rw [show whC ⟨NB, 0, 0, x3, 0, 0, 0, 0⟩ = #[.bool NB, .int .i64 0, .int .i64 0, .int .i64 x3, .int .i64 0, .int .i64 0, .int .i64 0, .int .i64 0] from rfl] at cK
          obtain ⟨CK, hCK⟩ : ∃ z, z = whC (ckO s4 ⟨NB, 0, 0, x3, 0, 0, 0, 0⟩ false) := ⟨_, rfl⟩
          obtain ⟨s5, hs5⟩ : ∃ z, z = ckS s4 false := ⟨_, rfl⟩
          rw [← hCK, ← hs5] at cK
          rw [← hs5] at HT
          have SEc := hide (show (Tryz.prog.info? 30).map (·.size) = some CK.size by rw [hCK]; exact whC_size _)
          have SOc := hide (show CK.all (·.oneCell') = true by rw [hCK]; exact whC_one _)
          have hKZ : CK.size = 8 := by rw [hCK]; rfl
          have HSZ := hide (show (#[.bool NB, .int .i64 0, .int .i64 0, .int .i64 x3, .int .i64 0, .int .i64 0, .int .i64 0, .int .i64 0] : Array Value).size = CK.size by rw [hKZ]; rfl)
          have HCK := hide hCK
          clear hCK hs5
          go_wp2_with (with_reducible show wpList Tryz.prog _ _ (Oper.mk (some 45) (Op.load _ _) _ _ _ none :: _) _ _; refine wpList_load_row rfl _ (.tmp 6) rfl w1.heap.size (by simp [Act.eval, Act.put]) _ #[.bool NB, .int .i64 0, .int .i64 0, .int .i64 x3, .int .i64 0, .int .i64 0, .int .i64 0, .int .i64 0] (0, 0) _ (unhide W4).b Tryz.underlying30 rfl (unhide SEk) ?_)
          refine (unhide cK _ (unhide W4).d).mono ?_
          rintro e w5 ⟨rfl, o5⟩
          have W5 := hide ((unhide W4).call o5)
          clear o5 cK
          go_wp2_with (with_reducible show wpList Tryz.prog _ _ (Oper.mk _ (Op.store 30 _ _) _ _ _ none :: _) _ _; refine wpList_stG rfl _ (.tmp 6) (.tmp 48) rfl w1.heap.size CK #[.bool NB, .int .i64 0, .int .i64 0, .int .i64 x3, .int .i64 0, .int .i64 0, .int .i64 0, .int .i64 0] (by simp [Act.eval, Act.put]) (by simp [Act.eval, Act.put]) (unhide W5).b (unhide SEc) (unhide HSZ) (unhide SOc) ?_; intro w6 rS gS zS; have W6 := hide ((unhide W5).rowB rS gS); clear rS gS zS)
          have hy : decide (1 < x2) = !decide (x2 ≤ 1) := by by_cases hx : x2 ≤ 1 <;> simp [hx] <;> omega
          injection (unhide HT) with h1 h2
          have hC : CV = CK := by rw [unhide HCV, h1]; exact (unhide HCK).symm
          have HC := hide hC
          subst h2
          clear HT h1 hC HCV HCK
          refine (wrong_dx _ _ _ (decide (x2 ≤ 1)) (decide (1 < x2)) hy (unhide W6).d).mono ?_
          rintro e w7 ⟨rfl, o7⟩
          have W7 := hide ((unhide W6).call o7)
          clear o7
          go_wp2_with fail
          go_meet
          rw [unhide HC]
          exact unhide W7
        · have ge : (s2.e == 0) = false := by simpa using he
          rw [if_neg (fun z => he z.1)] at HT
          injection (unhide HT) with h1 h2
          have hC : CV = #[.bool false, .int .i64 0, .int .i64 0, .int .i64 0, .int .i64 0, .int .i64 0, .int .i64 0, .int .i64 0] := by rw [unhide HCV, h1]; rfl
          have HC := hide hC
          subst h2
          clear HT h1 hC HCV he
          go_wp2_with fail
          go_meet
          rw [unhide HC]
          exact unhide W2
      by_cases n12 : n = 12
      · subst n12
        rw [show ((12 : Int) == 0 || ((12 : Int) == 8 || (12 : Int) == 12)) = true from rfl] at HT
        go_wp2_with fail
        refine (wrong_dx _ _ _ true false rfl (unhide W1).d).mono ?_
        rintro e w2 ⟨rfl, o2⟩
        have W2 := hide ((unhide W1).call o2)
        clear o2
        have e2 := (unhide W2).d.c1
        obtain ⟨s2, hs2⟩ : ∃ z, z = waS s1 true := ⟨_, rfl⟩
        rw [← hs2] at HT W2 e2
        clear hs2 W1
        by_cases he : s2.e = 0
        · have ge : (s2.e == 0) = true := by simpa using he
          rw [if_pos ⟨he, by omega⟩] at HT
          clear he
          go_wp2_with fail
          refine (byte_dx _ _ _ (unhide W2).d).mono ?_
          rintro e w3 ⟨⟨rfl, a3, c3⟩, o3⟩
          have W3c := (unhide W2).call o3
          obtain ⟨x2, hx2⟩ : ∃ z, z = fxA s2 1 := ⟨_, rfl⟩
          obtain ⟨s3, hs3⟩ : ∃ z, z = fxS s2 1 := ⟨_, rfl⟩
          rw [← hx2] at a3 c3 ⊢
          rw [← hs3] at W3c
          rw [← hx2, ← hs3] at HT
          have wx3 : wrap64 x2 = x2 := by unfold wrap64; omega
          have wy3 : IntKind.i64.wrap x2 = x2 := by rw [IntKind.wrap_i64]; omega
          obtain ⟨NB, hNB⟩ : ∃ z, (x2 == 1) = z := ⟨_, rfl⟩
          rw [hNB] at HT
          have fz := W3c.fb 0
          have kz := vrow_cell W3c.b (j := 0) (v := .bool false) rfl
          have W3 := hide (W3c.stB 0 (.bool NB) (cb' := #[.bool NB, .int .i64 0, .int .i64 0, .int .i64 0, .int .i64 0, .int .i64 0, .int .i64 0, .int .i64 0]) rfl)
          clear W3c W2 o3 hx2 hs3
          go_wp2_with fail
          clear fz kz
          refine (fixed_dx _ _ _ 4 4 4294967296 rfl (by omega) (by omega) (by decide) (unhide W3).d).mono ?_
          rintro e w4 ⟨⟨rfl, a4, c4⟩, o4⟩
          have W4c := (unhide W3).call o4
          obtain ⟨x3, hx3⟩ : ∃ z, z = fxA s3 4 := ⟨_, rfl⟩
          obtain ⟨s4, hs4⟩ : ∃ z, z = fxS s3 4 := ⟨_, rfl⟩
          rw [← hx3] at a4 c4 ⊢
          rw [← hs4] at W4c
          rw [← hx3, ← hs4] at HT
          have wx4 : wrap64 x3 = x3 := by unfold wrap64; omega
          have wy4 : IntKind.i64.wrap x3 = x3 := by rw [IntKind.wrap_i64]; omega
          have fz := W4c.fb 3
          have kz := vrow_cell W4c.b (j := 3) (v := .int .i64 0) rfl
          have W4 := hide (W4c.stB 3 (.int .i64 x3) (cb' := #[.bool NB, .int .i64 0, .int .i64 0, .int .i64 x3, .int .i64 0, .int .i64 0, .int .i64 0, .int .i64 0]) rfl)
          clear W4c W3 o4 hx3 hs4
          rw [show ((12 : Int) == 12) = true from rfl] at HT
          have SEk := hide (show (Tryz.prog.info? 30).map (·.size) = some (#[.bool NB, .int .i64 0, .int .i64 0, .int .i64 x3, .int .i64 0, .int .i64 0, .int .i64 0, .int .i64 0] : Array Value).size by kernel_rfl)
          have cK := hide (fun wx (h : Dx g wx s4) => clockOf_ref g s4 ⟨NB, 0, 0, x3, 0, 0, 0, 0⟩ true wx h)
          rw [show whC ⟨NB, 0, 0, x3, 0, 0, 0, 0⟩ = #[.bool NB, .int .i64 0, .int .i64 0, .int .i64 x3, .int .i64 0, .int .i64 0, .int .i64 0, .int .i64 0] from rfl] at cK
          obtain ⟨CK, hCK⟩ : ∃ z, z = whC (ckO s4 ⟨NB, 0, 0, x3, 0, 0, 0, 0⟩ true) := ⟨_, rfl⟩
          obtain ⟨s5, hs5⟩ : ∃ z, z = ckS s4 true := ⟨_, rfl⟩
          rw [← hCK, ← hs5] at cK
          rw [← hs5] at HT
          have SEc := hide (show (Tryz.prog.info? 30).map (·.size) = some CK.size by rw [hCK]; exact whC_size _)
          have SOc := hide (show CK.all (·.oneCell') = true by rw [hCK]; exact whC_one _)
          have hKZ : CK.size = 8 := by rw [hCK]; rfl
          have HSZ := hide (show (#[.bool NB, .int .i64 0, .int .i64 0, .int .i64 x3, .int .i64 0, .int .i64 0, .int .i64 0, .int .i64 0] : Array Value).size = CK.size by rw [hKZ]; rfl)
          have HCK := hide hCK
          clear hCK hs5
          go_wp2_with (with_reducible show wpList Tryz.prog _ _ (Oper.mk (some 45) (Op.load _ _) _ _ _ none :: _) _ _; refine wpList_load_row rfl _ (.tmp 6) rfl w1.heap.size (by simp [Act.eval, Act.put]) _ #[.bool NB, .int .i64 0, .int .i64 0, .int .i64 x3, .int .i64 0, .int .i64 0, .int .i64 0, .int .i64 0] (0, 0) _ (unhide W4).b Tryz.underlying30 rfl (unhide SEk) ?_)
          refine (unhide cK _ (unhide W4).d).mono ?_
          rintro e w5 ⟨rfl, o5⟩
          have W5 := hide ((unhide W4).call o5)
          clear o5 cK
          go_wp2_with (with_reducible show wpList Tryz.prog _ _ (Oper.mk _ (Op.store 30 _ _) _ _ _ none :: _) _ _; refine wpList_stG rfl _ (.tmp 6) (.tmp 48) rfl w1.heap.size CK #[.bool NB, .int .i64 0, .int .i64 0, .int .i64 x3, .int .i64 0, .int .i64 0, .int .i64 0, .int .i64 0] (by simp [Act.eval, Act.put]) (by simp [Act.eval, Act.put]) (unhide W5).b (unhide SEc) (unhide HSZ) (unhide SOc) ?_; intro w6 rS gS zS; have W6 := hide ((unhide W5).rowB rS gS); clear rS gS zS)
          have hy : decide (1 < x2) = !decide (x2 ≤ 1) := by by_cases hx : x2 ≤ 1 <;> simp [hx] <;> omega
          injection (unhide HT) with h1 h2
          have hC : CV = CK := by rw [unhide HCV, h1]; exact (unhide HCK).symm
          have HC := hide hC
          subst h2
          clear HT h1 hC HCV HCK
          refine (wrong_dx _ _ _ (decide (x2 ≤ 1)) (decide (1 < x2)) hy (unhide W6).d).mono ?_
          rintro e w7 ⟨rfl, o7⟩
          have W7 := hide ((unhide W6).call o7)
          clear o7
          go_wp2_with fail
          go_meet
          rw [unhide HC]
          exact unhide W7
        · have ge : (s2.e == 0) = false := by simpa using he
          rw [if_neg (fun z => he z.1)] at HT
          injection (unhide HT) with h1 h2
          have hC : CV = #[.bool false, .int .i64 0, .int .i64 0, .int .i64 0, .int .i64 0, .int .i64 0, .int .i64 0, .int .i64 0] := by rw [unhide HCV, h1]; rfl
          have HC := hide hC
          subst h2
          clear HT h1 hC HCV he
          go_wp2_with fail
          go_meet
          rw [unhide HC]
          exact unhide W2
      have p0 : (n == 0) = false := by simpa using n0
      have p8 : (n == 8) = false := by simpa using n8
      have p12 : (n == 12) = false := by simpa using n12
      have r0 : (n != 0) = true := by simpa using n0
      have r8 : (n != 8) = true := by simpa using n8
      have r12 : (n != 12) = true := by simpa using n12
      rw [show (n == 0 || (n == 8 || n == 12)) = false by rw [p0, p8, p12]; rfl, if_neg (fun z => waS_ne z.1)] at HT
      injection (unhide HT) with h1 h2
      have hC : CV = #[.bool false, .int .i64 0, .int .i64 0, .int .i64 0, .int .i64 0, .int .i64 0, .int .i64 0, .int .i64 0] := by rw [unhide HCV, h1]; rfl
      have HC := hide hC
      subst h2
      clear HT h1 hC HCV n0 n8 n12 p0 p8 p12
      go_wp2_with fail
      refine (wrong_dx _ _ _ false true rfl (unhide W1).d).mono ?_
      rintro e w2 ⟨rfl, o2⟩
      have W2 := hide ((unhide W1).call o2)
      clear o2
      have e2 := (unhide W2).d.c1
      have ge : ((waS s1 false).e == 0) = false := by simpa using waS_ne
      go_wp2_with fail
      go_meet
      rw [unhide HC]
      exact unhide W2
    · rw [if_neg ht] at HQ2
      have gt : (t == 11) = false := by simpa using ht
      have HT := hide (unhide HQ2)
      unfold wnD at HT
      clear HQ2 ht
      by_cases n0 : n = 0
      · subst n0
        rw [show ((0 : Int) == 0 || ((0 : Int) == 4 || ((0 : Int) == 7 || (0 : Int) == 11))) = true from rfl] at HT
        go_wp2_with fail
        refine (wrong_dx _ _ _ true false rfl (unhide W1).d).mono ?_
        rintro e w2 ⟨rfl, o2⟩
        have W2 := hide ((unhide W1).call o2)
        clear o2
        have e2 := (unhide W2).d.c1
        obtain ⟨s2, hs2⟩ : ∃ z, z = waS s1 true := ⟨_, rfl⟩
        rw [← hs2] at HT W2 e2
        clear hs2 W1
        have eP : wnP 0 s2 = (wh0, s2) := if_neg (fun z => absurd z.2 (by decide))
        rw [eP] at HT
        have eC : wnC 0 (wh0, s2) = (wh0, s2) := if_neg (fun z => absurd z.2 (by decide))
        rw [eC] at HT
        clear eP eC
        cases he : (s2.e == 0)
        · injection (unhide HT) with h1 h2
          have hC : CV = #[.bool false, .int .i64 0, .int .i64 0, .int .i64 0, .int .i64 0, .int .i64 0, .int .i64 0, .int .i64 0] := by rw [unhide HCV, h1]; rfl
          have HC := hide hC
          subst h2
          clear HT h1 hC HCV
          go_wp2_with fail
          go_meet
          rw [unhide HC]
          exact unhide W2
        · injection (unhide HT) with h1 h2
          have hC : CV = #[.bool false, .int .i64 0, .int .i64 0, .int .i64 0, .int .i64 0, .int .i64 0, .int .i64 0, .int .i64 0] := by rw [unhide HCV, h1]; rfl
          have HC := hide hC
          subst h2
          clear HT h1 hC HCV
          go_wp2_with fail
          go_meet
          rw [unhide HC]
          exact unhide W2
      by_cases n4 : n = 4
      · subst n4
        rw [show ((4 : Int) == 0 || ((4 : Int) == 4 || ((4 : Int) == 7 || (4 : Int) == 11))) = true from rfl] at HT
        go_wp2_with fail
        refine (wrong_dx _ _ _ true false rfl (unhide W1).d).mono ?_
        rintro e w2 ⟨rfl, o2⟩
        have W2 := hide ((unhide W1).call o2)
        clear o2
        have e2 := (unhide W2).d.c1
        obtain ⟨s2, hs2⟩ : ∃ z, z = waS s1 true := ⟨_, rfl⟩
        rw [← hs2] at HT W2 e2
        clear hs2 W1
        by_cases he : s2.e = 0
        · have ge : (s2.e == 0) = true := by simpa using he
          have eP : wnP 4 s2 = (⟨false, fxA s2 2, fxA (fxS s2 2) 1, fxA (fxS (fxS s2 2) 1) 1, 0, 0, 0, 0⟩, fxS (fxS (fxS s2 2) 1) 1) := if_pos ⟨he, by decide⟩
          rw [eP] at HT
          clear he eP
          go_wp2_with fail
          refine (fixed_dx _ _ _ 2 2 65536 rfl (by omega) (by omega) (by decide) (unhide W2).d).mono ?_
          rintro e w3 ⟨⟨rfl, a3, c3⟩, o3⟩
          have W3c := (unhide W2).call o3
          obtain ⟨x1, hx1⟩ : ∃ z, z = fxA s2 2 := ⟨_, rfl⟩
          obtain ⟨s3, hs3⟩ : ∃ z, z = fxS s2 2 := ⟨_, rfl⟩
          rw [← hx1] at a3 c3 ⊢
          rw [← hs3] at W3c
          rw [← hx1, ← hs3] at HT
          have wx3 : wrap64 x1 = x1 := by unfold wrap64; omega
          have wy3 : IntKind.i64.wrap x1 = x1 := by rw [IntKind.wrap_i64]; omega
          have fz := W3c.fb 1
          have kz := vrow_cell W3c.b (j := 1) (v := .int .i64 0) rfl
          have W3 := hide (W3c.stB 1 (.int .i64 x1) (cb' := #[.bool false, .int .i64 x1, .int .i64 0, .int .i64 0, .int .i64 0, .int .i64 0, .int .i64 0, .int .i64 0]) rfl)
          clear W3c W2 o3 hx1 hs3
          clear ge e2
          go_wp2_with fail
          clear fz kz
          refine (byte_dx _ _ _ (unhide W3).d).mono ?_
          rintro e w4 ⟨⟨rfl, a4, c4⟩, o4⟩
          have W4c := (unhide W3).call o4
          obtain ⟨x2, hx2⟩ : ∃ z, z = fxA s3 1 := ⟨_, rfl⟩
          obtain ⟨s4, hs4⟩ : ∃ z, z = fxS s3 1 := ⟨_, rfl⟩
          rw [← hx2] at a4 c4 ⊢
          rw [← hs4] at W4c
          rw [← hx2, ← hs4] at HT
          have wx4 : wrap64 x2 = x2 := by unfold wrap64; omega
          have wy4 : IntKind.i64.wrap x2 = x2 := by rw [IntKind.wrap_i64]; omega
          have fz := W4c.fb 2
          have kz := vrow_cell W4c.b (j := 2) (v := .int .i64 0) rfl
          have W4 := hide (W4c.stB 2 (.int .i64 x2) (cb' := #[.bool false, .int .i64 x1, .int .i64 x2, .int .i64 0, .int .i64 0, .int .i64 0, .int .i64 0, .int .i64 0]) rfl)
          clear W4c W3 o4 hx2 hs4
          go_wp2_with fail
          clear fz kz
          refine (byte_dx _ _ _ (unhide W4).d).mono ?_
          rintro e w5 ⟨⟨rfl, a5, c5⟩, o5⟩
          have W5c := (unhide W4).call o5
          obtain ⟨x3, hx3⟩ : ∃ z, z = fxA s4 1 := ⟨_, rfl⟩
          obtain ⟨s5, hs5⟩ : ∃ z, z = fxS s4 1 := ⟨_, rfl⟩
          rw [← hx3] at a5 c5 ⊢
          rw [← hs5] at W5c
          rw [← hx3, ← hs5] at HT
          have wx5 : wrap64 x3 = x3 := by unfold wrap64; omega
          have wy5 : IntKind.i64.wrap x3 = x3 := by rw [IntKind.wrap_i64]; omega
          have fz := W5c.fb 3
          have kz := vrow_cell W5c.b (j := 3) (v := .int .i64 0) rfl
          have W5 := hide (W5c.stB 3 (.int .i64 x3) (cb' := #[.bool false, .int .i64 x1, .int .i64 x2, .int .i64 x3, .int .i64 0, .int .i64 0, .int .i64 0, .int .i64 0]) rfl)
          clear W5c W4 o5 hx3 hs5
          have e5 := (unhide W5).d.c1
          by_cases hf : s5.e = 0
          · have gf : (s5.e == 0) = true := by simpa using hf
            clear hf
            have eC : wnC 4 (⟨false, x1, x2, x3, 0, 0, 0, 0⟩, s5) = (⟨false, x1, x2, x3, 0, 0, 0, 0⟩, s5) := if_neg (fun z => absurd z.2 (by decide))
            rw [eC] at HT
            injection (unhide HT) with h1 h2
            have hC : CV = #[.bool false, .int .i64 x1, .int .i64 x2, .int .i64 x3, .int .i64 0, .int .i64 0, .int .i64 0, .int .i64 0] := by rw [unhide HCV, h1]; rfl
            have HC := hide hC
            subst h2
            clear HT h1 hC HCV eC
            go_wp2_with fail
            go_meet
            rw [unhide HC]
            exact unhide W5
          · have gf : (s5.e == 0) = false := by simpa using hf
            have eC : wnC 4 (⟨false, x1, x2, x3, 0, 0, 0, 0⟩, s5) = (⟨false, x1, x2, x3, 0, 0, 0, 0⟩, s5) := if_neg (fun z => hf z.1)
            rw [eC] at HT
            injection (unhide HT) with h1 h2
            have hC : CV = #[.bool false, .int .i64 x1, .int .i64 x2, .int .i64 x3, .int .i64 0, .int .i64 0, .int .i64 0, .int .i64 0] := by rw [unhide HCV, h1]; rfl
            have HC := hide hC
            subst h2
            clear HT h1 hC HCV eC
            go_wp2_with fail
            go_meet
            rw [unhide HC]
            exact unhide W5
        · have ge : (s2.e == 0) = false := by simpa using he
          have eP : wnP 4 s2 = (wh0, s2) := if_neg (fun z => he z.1)
          have eC : wnC 4 (wh0, s2) = (wh0, s2) := if_neg (fun z => he z.1)
          rw [eP, eC] at HT
          clear eP eC he
          injection (unhide HT) with h1 h2
          have hC : CV = #[.bool false, .int .i64 0, .int .i64 0, .int .i64 0, .int .i64 0, .int .i64 0, .int .i64 0, .int .i64 0] := by rw [unhide HCV, h1]; rfl
          have HC := hide hC
          subst h2
          clear HT h1 hC HCV
          go_wp2_with fail
          go_meet
          rw [unhide HC]
          exact unhide W2
      by_cases n7 : n = 7
      · subst n7
        rw [show ((7 : Int) == 0 || ((7 : Int) == 4 || ((7 : Int) == 7 || (7 : Int) == 11))) = true from rfl] at HT
        go_wp2_with fail
        refine (wrong_dx _ _ _ true false rfl (unhide W1).d).mono ?_
        rintro e w2 ⟨rfl, o2⟩
        have W2 := hide ((unhide W1).call o2)
        clear o2
        have e2 := (unhide W2).d.c1
        obtain ⟨s2, hs2⟩ : ∃ z, z = waS s1 true := ⟨_, rfl⟩
        rw [← hs2] at HT W2 e2
        clear hs2 W1
        by_cases he : s2.e = 0
        · have ge : (s2.e == 0) = true := by simpa using he
          have eP : wnP 7 s2 = (⟨false, fxA s2 2, fxA (fxS s2 2) 1, fxA (fxS (fxS s2 2) 1) 1, 0, 0, 0, 0⟩, fxS (fxS (fxS s2 2) 1) 1) := if_pos ⟨he, by decide⟩
          rw [eP] at HT
          clear he eP
          go_wp2_with fail
          refine (fixed_dx _ _ _ 2 2 65536 rfl (by omega) (by omega) (by decide) (unhide W2).d).mono ?_
          rintro e w3 ⟨⟨rfl, a3, c3⟩, o3⟩
          have W3c := (unhide W2).call o3
          obtain ⟨x1, hx1⟩ : ∃ z, z = fxA s2 2 := ⟨_, rfl⟩
          obtain ⟨s3, hs3⟩ : ∃ z, z = fxS s2 2 := ⟨_, rfl⟩
          rw [← hx1] at a3 c3 ⊢
          rw [← hs3] at W3c
          rw [← hx1, ← hs3] at HT
          have wx3 : wrap64 x1 = x1 := by unfold wrap64; omega
          have wy3 : IntKind.i64.wrap x1 = x1 := by rw [IntKind.wrap_i64]; omega
          have fz := W3c.fb 1
          have kz := vrow_cell W3c.b (j := 1) (v := .int .i64 0) rfl
          have W3 := hide (W3c.stB 1 (.int .i64 x1) (cb' := #[.bool false, .int .i64 x1, .int .i64 0, .int .i64 0, .int .i64 0, .int .i64 0, .int .i64 0, .int .i64 0]) rfl)
          clear W3c W2 o3 hx1 hs3
          clear ge e2
          go_wp2_with fail
          clear fz kz
          refine (byte_dx _ _ _ (unhide W3).d).mono ?_
          rintro e w4 ⟨⟨rfl, a4, c4⟩, o4⟩
          have W4c := (unhide W3).call o4
          obtain ⟨x2, hx2⟩ : ∃ z, z = fxA s3 1 := ⟨_, rfl⟩
          obtain ⟨s4, hs4⟩ : ∃ z, z = fxS s3 1 := ⟨_, rfl⟩
          rw [← hx2] at a4 c4 ⊢
          rw [← hs4] at W4c
          rw [← hx2, ← hs4] at HT
          have wx4 : wrap64 x2 = x2 := by unfold wrap64; omega
          have wy4 : IntKind.i64.wrap x2 = x2 := by rw [IntKind.wrap_i64]; omega
          have fz := W4c.fb 2
          have kz := vrow_cell W4c.b (j := 2) (v := .int .i64 0) rfl
          have W4 := hide (W4c.stB 2 (.int .i64 x2) (cb' := #[.bool false, .int .i64 x1, .int .i64 x2, .int .i64 0, .int .i64 0, .int .i64 0, .int .i64 0, .int .i64 0]) rfl)
          clear W4c W3 o4 hx2 hs4
          go_wp2_with fail
          clear fz kz
          refine (byte_dx _ _ _ (unhide W4).d).mono ?_
          rintro e w5 ⟨⟨rfl, a5, c5⟩, o5⟩
          have W5c := (unhide W4).call o5
          obtain ⟨x3, hx3⟩ : ∃ z, z = fxA s4 1 := ⟨_, rfl⟩
          obtain ⟨s5, hs5⟩ : ∃ z, z = fxS s4 1 := ⟨_, rfl⟩
          rw [← hx3] at a5 c5 ⊢
          rw [← hs5] at W5c
          rw [← hx3, ← hs5] at HT
          have wx5 : wrap64 x3 = x3 := by unfold wrap64; omega
          have wy5 : IntKind.i64.wrap x3 = x3 := by rw [IntKind.wrap_i64]; omega
          have fz := W5c.fb 3
          have kz := vrow_cell W5c.b (j := 3) (v := .int .i64 0) rfl
          have W5 := hide (W5c.stB 3 (.int .i64 x3) (cb' := #[.bool false, .int .i64 x1, .int .i64 x2, .int .i64 x3, .int .i64 0, .int .i64 0, .int .i64 0, .int .i64 0]) rfl)
          clear W5c W4 o5 hx3 hs5
          have e5 := (unhide W5).d.c1
          by_cases hf : s5.e = 0
          · have gf : (s5.e == 0) = true := by simpa using hf
            have eC : wnC 7 (⟨false, x1, x2, x3, 0, 0, 0, 0⟩, s5) = (ckO s5 ⟨false, x1, x2, x3, 0, 0, 0, 0⟩ false, ckS s5 false) := if_pos ⟨hf, by decide⟩
            rw [eC] at HT
            clear hf eC
            have SEk := hide (show (Tryz.prog.info? 30).map (·.size) = some (#[.bool false, .int .i64 x1, .int .i64 x2, .int .i64 x3, .int .i64 0, .int .i64 0, .int .i64 0, .int .i64 0] : Array Value).size by kernel_rfl)
            have cK := hide (fun wx (h : Dx g wx s5) => clockOf_ref g s5 ⟨false, x1, x2, x3, 0, 0, 0, 0⟩ false wx h)
            rw [show whC ⟨false, x1, x2, x3, 0, 0, 0, 0⟩ = #[.bool false, .int .i64 x1, .int .i64 x2, .int .i64 x3, .int .i64 0, .int .i64 0, .int .i64 0, .int .i64 0] from rfl] at cK
            obtain ⟨CK, hCK⟩ : ∃ z, z = whC (ckO s5 ⟨false, x1, x2, x3, 0, 0, 0, 0⟩ false) := ⟨_, rfl⟩
            obtain ⟨s6, hs6⟩ : ∃ z, z = ckS s5 false := ⟨_, rfl⟩
            rw [← hCK, ← hs6] at cK
            rw [← hs6] at HT
            have SEc := hide (show (Tryz.prog.info? 30).map (·.size) = some CK.size by rw [hCK]; exact whC_size _)
            have SOc := hide (show CK.all (·.oneCell') = true by rw [hCK]; exact whC_one _)
            have hKZ : CK.size = 8 := by rw [hCK]; rfl
            have HSZ := hide (show (#[.bool false, .int .i64 x1, .int .i64 x2, .int .i64 x3, .int .i64 0, .int .i64 0, .int .i64 0, .int .i64 0] : Array Value).size = CK.size by rw [hKZ]; rfl)
            have HCK := hide hCK
            clear hCK hs6
            go_wp2_with (with_reducible show wpList Tryz.prog _ _ (Oper.mk (some 100) (Op.load _ _) _ _ _ none :: _) _ _; refine wpList_load_row rfl _ (.tmp 6) rfl w1.heap.size (by simp [Act.eval, Act.put]) _ #[.bool false, .int .i64 x1, .int .i64 x2, .int .i64 x3, .int .i64 0, .int .i64 0, .int .i64 0, .int .i64 0] (0, 0) _ (unhide W5).b Tryz.underlying30 rfl (unhide SEk) ?_)
            refine (unhide cK _ (unhide W5).d).mono ?_
            rintro e w6 ⟨rfl, o6⟩
            have W6 := hide ((unhide W5).call o6)
            clear o6 cK
            go_wp2_with (with_reducible show wpList Tryz.prog _ _ (Oper.mk _ (Op.store 30 _ _) _ _ _ none :: _) _ _; refine wpList_stG rfl _ (.tmp 6) (.tmp 103) rfl w1.heap.size CK #[.bool false, .int .i64 x1, .int .i64 x2, .int .i64 x3, .int .i64 0, .int .i64 0, .int .i64 0, .int .i64 0] (by simp [Act.eval, Act.put]) (by simp [Act.eval, Act.put]) (unhide W6).b (unhide SEc) (unhide HSZ) (unhide SOc) ?_; intro w7 rS gS zS; have W7 := hide ((unhide W6).rowB rS gS); clear rS gS zS)
            injection (unhide HT) with h1 h2
            have hC : CV = CK := by rw [unhide HCV, h1]; exact (unhide HCK).symm
            have HC := hide hC
            subst h2
            clear HT h1 hC HCV HCK
            go_meet
            rw [unhide HC]
            exact unhide W7
          · have gf : (s5.e == 0) = false := by simpa using hf
            have eC : wnC 7 (⟨false, x1, x2, x3, 0, 0, 0, 0⟩, s5) = (⟨false, x1, x2, x3, 0, 0, 0, 0⟩, s5) := if_neg (fun z => hf z.1)
            rw [eC] at HT
            injection (unhide HT) with h1 h2
            have hC : CV = #[.bool false, .int .i64 x1, .int .i64 x2, .int .i64 x3, .int .i64 0, .int .i64 0, .int .i64 0, .int .i64 0] := by rw [unhide HCV, h1]; rfl
            have HC := hide hC
            subst h2
            clear HT h1 hC HCV eC
            go_wp2_with fail
            go_meet
            rw [unhide HC]
            exact unhide W5
        · have ge : (s2.e == 0) = false := by simpa using he
          have eP : wnP 7 s2 = (wh0, s2) := if_neg (fun z => he z.1)
          have eC : wnC 7 (wh0, s2) = (wh0, s2) := if_neg (fun z => he z.1)
          rw [eP, eC] at HT
          clear eP eC he
          injection (unhide HT) with h1 h2
          have hC : CV = #[.bool false, .int .i64 0, .int .i64 0, .int .i64 0, .int .i64 0, .int .i64 0, .int .i64 0, .int .i64 0] := by rw [unhide HCV, h1]; rfl
          have HC := hide hC
          subst h2
          clear HT h1 hC HCV
          go_wp2_with fail
          go_meet
          rw [unhide HC]
          exact unhide W2
      by_cases n11 : n = 11
      · subst n11
        rw [show ((11 : Int) == 0 || ((11 : Int) == 4 || ((11 : Int) == 7 || (11 : Int) == 11))) = true from rfl] at HT
        go_wp2_with fail
        refine (wrong_dx _ _ _ true false rfl (unhide W1).d).mono ?_
        rintro e w2 ⟨rfl, o2⟩
        have W2 := hide ((unhide W1).call o2)
        clear o2
        have e2 := (unhide W2).d.c1
        obtain ⟨s2, hs2⟩ : ∃ z, z = waS s1 true := ⟨_, rfl⟩
        rw [← hs2] at HT W2 e2
        clear hs2 W1
        by_cases he : s2.e = 0
        · have ge : (s2.e == 0) = true := by simpa using he
          have eP : wnP 11 s2 = (⟨false, fxA s2 2, fxA (fxS s2 2) 1, fxA (fxS (fxS s2 2) 1) 1, 0, 0, 0, 0⟩, fxS (fxS (fxS s2 2) 1) 1) := if_pos ⟨he, by decide⟩
          rw [eP] at HT
          clear he eP
          go_wp2_with fail
          refine (fixed_dx _ _ _ 2 2 65536 rfl (by omega) (by omega) (by decide) (unhide W2).d).mono ?_
          rintro e w3 ⟨⟨rfl, a3, c3⟩, o3⟩
          have W3c := (unhide W2).call o3
          obtain ⟨x1, hx1⟩ : ∃ z, z = fxA s2 2 := ⟨_, rfl⟩
          obtain ⟨s3, hs3⟩ : ∃ z, z = fxS s2 2 := ⟨_, rfl⟩
          rw [← hx1] at a3 c3 ⊢
          rw [← hs3] at W3c
          rw [← hx1, ← hs3] at HT
          have wx3 : wrap64 x1 = x1 := by unfold wrap64; omega
          have wy3 : IntKind.i64.wrap x1 = x1 := by rw [IntKind.wrap_i64]; omega
          have fz := W3c.fb 1
          have kz := vrow_cell W3c.b (j := 1) (v := .int .i64 0) rfl
          have W3 := hide (W3c.stB 1 (.int .i64 x1) (cb' := #[.bool false, .int .i64 x1, .int .i64 0, .int .i64 0, .int .i64 0, .int .i64 0, .int .i64 0, .int .i64 0]) rfl)
          clear W3c W2 o3 hx1 hs3
          clear ge e2
          go_wp2_with fail
          clear fz kz
          refine (byte_dx _ _ _ (unhide W3).d).mono ?_
          rintro e w4 ⟨⟨rfl, a4, c4⟩, o4⟩
          have W4c := (unhide W3).call o4
          obtain ⟨x2, hx2⟩ : ∃ z, z = fxA s3 1 := ⟨_, rfl⟩
          obtain ⟨s4, hs4⟩ : ∃ z, z = fxS s3 1 := ⟨_, rfl⟩
          rw [← hx2] at a4 c4 ⊢
          rw [← hs4] at W4c
          rw [← hx2, ← hs4] at HT
          have wx4 : wrap64 x2 = x2 := by unfold wrap64; omega
          have wy4 : IntKind.i64.wrap x2 = x2 := by rw [IntKind.wrap_i64]; omega
          have fz := W4c.fb 2
          have kz := vrow_cell W4c.b (j := 2) (v := .int .i64 0) rfl
          have W4 := hide (W4c.stB 2 (.int .i64 x2) (cb' := #[.bool false, .int .i64 x1, .int .i64 x2, .int .i64 0, .int .i64 0, .int .i64 0, .int .i64 0, .int .i64 0]) rfl)
          clear W4c W3 o4 hx2 hs4
          go_wp2_with fail
          clear fz kz
          refine (byte_dx _ _ _ (unhide W4).d).mono ?_
          rintro e w5 ⟨⟨rfl, a5, c5⟩, o5⟩
          have W5c := (unhide W4).call o5
          obtain ⟨x3, hx3⟩ : ∃ z, z = fxA s4 1 := ⟨_, rfl⟩
          obtain ⟨s5, hs5⟩ : ∃ z, z = fxS s4 1 := ⟨_, rfl⟩
          rw [← hx3] at a5 c5 ⊢
          rw [← hs5] at W5c
          rw [← hx3, ← hs5] at HT
          have wx5 : wrap64 x3 = x3 := by unfold wrap64; omega
          have wy5 : IntKind.i64.wrap x3 = x3 := by rw [IntKind.wrap_i64]; omega
          have fz := W5c.fb 3
          have kz := vrow_cell W5c.b (j := 3) (v := .int .i64 0) rfl
          have W5 := hide (W5c.stB 3 (.int .i64 x3) (cb' := #[.bool false, .int .i64 x1, .int .i64 x2, .int .i64 x3, .int .i64 0, .int .i64 0, .int .i64 0, .int .i64 0]) rfl)
          clear W5c W4 o5 hx3 hs5
          have e5 := (unhide W5).d.c1
          by_cases hf : s5.e = 0
          · have gf : (s5.e == 0) = true := by simpa using hf
            have eC : wnC 11 (⟨false, x1, x2, x3, 0, 0, 0, 0⟩, s5) = (ckO s5 ⟨false, x1, x2, x3, 0, 0, 0, 0⟩ true, ckS s5 true) := if_pos ⟨hf, by decide⟩
            rw [eC] at HT
            clear hf eC
            have SEk := hide (show (Tryz.prog.info? 30).map (·.size) = some (#[.bool false, .int .i64 x1, .int .i64 x2, .int .i64 x3, .int .i64 0, .int .i64 0, .int .i64 0, .int .i64 0] : Array Value).size by kernel_rfl)
            have cK := hide (fun wx (h : Dx g wx s5) => clockOf_ref g s5 ⟨false, x1, x2, x3, 0, 0, 0, 0⟩ true wx h)
            rw [show whC ⟨false, x1, x2, x3, 0, 0, 0, 0⟩ = #[.bool false, .int .i64 x1, .int .i64 x2, .int .i64 x3, .int .i64 0, .int .i64 0, .int .i64 0, .int .i64 0] from rfl] at cK
            obtain ⟨CK, hCK⟩ : ∃ z, z = whC (ckO s5 ⟨false, x1, x2, x3, 0, 0, 0, 0⟩ true) := ⟨_, rfl⟩
            obtain ⟨s6, hs6⟩ : ∃ z, z = ckS s5 true := ⟨_, rfl⟩
            rw [← hCK, ← hs6] at cK
            rw [← hs6] at HT
            have SEc := hide (show (Tryz.prog.info? 30).map (·.size) = some CK.size by rw [hCK]; exact whC_size _)
            have SOc := hide (show CK.all (·.oneCell') = true by rw [hCK]; exact whC_one _)
            have hKZ : CK.size = 8 := by rw [hCK]; rfl
            have HSZ := hide (show (#[.bool false, .int .i64 x1, .int .i64 x2, .int .i64 x3, .int .i64 0, .int .i64 0, .int .i64 0, .int .i64 0] : Array Value).size = CK.size by rw [hKZ]; rfl)
            have HCK := hide hCK
            clear hCK hs6
            go_wp2_with (with_reducible show wpList Tryz.prog _ _ (Oper.mk (some 100) (Op.load _ _) _ _ _ none :: _) _ _; refine wpList_load_row rfl _ (.tmp 6) rfl w1.heap.size (by simp [Act.eval, Act.put]) _ #[.bool false, .int .i64 x1, .int .i64 x2, .int .i64 x3, .int .i64 0, .int .i64 0, .int .i64 0, .int .i64 0] (0, 0) _ (unhide W5).b Tryz.underlying30 rfl (unhide SEk) ?_)
            refine (unhide cK _ (unhide W5).d).mono ?_
            rintro e w6 ⟨rfl, o6⟩
            have W6 := hide ((unhide W5).call o6)
            clear o6 cK
            go_wp2_with (with_reducible show wpList Tryz.prog _ _ (Oper.mk _ (Op.store 30 _ _) _ _ _ none :: _) _ _; refine wpList_stG rfl _ (.tmp 6) (.tmp 103) rfl w1.heap.size CK #[.bool false, .int .i64 x1, .int .i64 x2, .int .i64 x3, .int .i64 0, .int .i64 0, .int .i64 0, .int .i64 0] (by simp [Act.eval, Act.put]) (by simp [Act.eval, Act.put]) (unhide W6).b (unhide SEc) (unhide HSZ) (unhide SOc) ?_; intro w7 rS gS zS; have W7 := hide ((unhide W6).rowB rS gS); clear rS gS zS)
            injection (unhide HT) with h1 h2
            have hC : CV = CK := by rw [unhide HCV, h1]; exact (unhide HCK).symm
            have HC := hide hC
            subst h2
            clear HT h1 hC HCV HCK
            go_meet
            rw [unhide HC]
            exact unhide W7
          · have gf : (s5.e == 0) = false := by simpa using hf
            have eC : wnC 11 (⟨false, x1, x2, x3, 0, 0, 0, 0⟩, s5) = (⟨false, x1, x2, x3, 0, 0, 0, 0⟩, s5) := if_neg (fun z => hf z.1)
            rw [eC] at HT
            injection (unhide HT) with h1 h2
            have hC : CV = #[.bool false, .int .i64 x1, .int .i64 x2, .int .i64 x3, .int .i64 0, .int .i64 0, .int .i64 0, .int .i64 0] := by rw [unhide HCV, h1]; rfl
            have HC := hide hC
            subst h2
            clear HT h1 hC HCV eC
            go_wp2_with fail
            go_meet
            rw [unhide HC]
            exact unhide W5
        · have ge : (s2.e == 0) = false := by simpa using he
          have eP : wnP 11 s2 = (wh0, s2) := if_neg (fun z => he z.1)
          have eC : wnC 11 (wh0, s2) = (wh0, s2) := if_neg (fun z => he z.1)
          rw [eP, eC] at HT
          clear eP eC he
          injection (unhide HT) with h1 h2
          have hC : CV = #[.bool false, .int .i64 0, .int .i64 0, .int .i64 0, .int .i64 0, .int .i64 0, .int .i64 0, .int .i64 0] := by rw [unhide HCV, h1]; rfl
          have HC := hide hC
          subst h2
          clear HT h1 hC HCV
          go_wp2_with fail
          go_meet
          rw [unhide HC]
          exact unhide W2
      have p0 : (n == 0) = false := by simpa using n0
      have p4 : (n == 4) = false := by simpa using n4
      have p7 : (n == 7) = false := by simpa using n7
      have p11 : (n == 11) = false := by simpa using n11
      have r0 : (n != 0) = true := by simpa using n0
      have r4 : (n != 4) = true := by simpa using n4
      have r7 : (n != 7) = true := by simpa using n7
      have r11 : (n != 11) = true := by simpa using n11
      rw [show (n == 0 || (n == 4 || (n == 7 || n == 11))) = false by rw [p0, p4, p7, p11]; rfl] at HT
      have eP : wnP n (waS s1 false) = (wh0, waS s1 false) := if_neg (fun z => waS_ne z.1)
      have eC : wnC n (wh0, waS s1 false) = (wh0, waS s1 false) := if_neg (fun z => waS_ne z.1)
      rw [eP, eC] at HT
      clear eP eC
      injection (unhide HT) with h1 h2
      have hC : CV = #[.bool false, .int .i64 0, .int .i64 0, .int .i64 0, .int .i64 0, .int .i64 0, .int .i64 0, .int .i64 0] := by rw [unhide HCV, h1]; rfl
      have HC := hide hC
      subst h2
      clear HT h1 hC HCV
      clear n0 n4 n7 n11 p0 p4 p7 p11
      go_wp2_with fail
      refine (wrong_dx _ _ _ false true rfl (unhide W1).d).mono ?_
      rintro e w2 ⟨rfl, o2⟩
      have W2 := hide ((unhide W1).call o2)
      clear o2
      have e2 := (unhide W2).d.c1
      have ge : ((waS s1 false).e == 0) = false := by simpa using waS_ne
      go_wp2_with fail
      go_meet
      rw [unhide HC]
      exact unhide W2
  have W5 := hide hcut
  clear hcut W1 HQ2
  go_wp2_with (with_reducible show wpList Tryz.prog _ _ (Oper.mk (some 105) (Op.load _ _) _ _ _ none :: _) _ _; refine wpList_load_row rfl _ (.tmp 6) rfl w1.heap.size (by simp [Act.eval, Act.put]) _ CV (0, 0) _ (unhide W5).b Tryz.underlying30 rfl (unhide SEV) ?_)
  refine (unhide cV _).mono ?_
  rintro e w6 ⟨rfl, b6⟩
  have W6 := hide ((unhide W5).later b6)
  clear b6 cV W5
  cases OK
  · go_wp2_with fail
    refine (wrong_dx _ _ _ false true rfl (unhide W6).d).mono ?_
    rintro e w7 ⟨rfl, o7⟩
    have W7 := hide ((unhide W6).call o7)
    clear o7 W6
    have SZE := hide (show (#[.bool false, .int .i64 0, .int .i64 0, .int .i64 0, .int .i64 0, .int .i64 0, .int .i64 0, .int .i64 0] : Array Value).size = CV.size by rw [hCZ]; rfl)
    go_wp2_with (first | (with_reducible show wpList Tryz.prog _ _ (Oper.mk (some 110) (Op.load _ _) _ _ _ none :: _) _ _; refine wpList_load_row rfl _ (.tmp 6) rfl w1.heap.size (by simp [Act.eval, Act.put]) _ CV (0, 0) _ (unhide W7).b Tryz.underlying30 rfl (unhide SEV) ?_) | (with_reducible show wpList Tryz.prog _ _ (Oper.mk _ (Op.store 30 _ _) _ _ _ none :: _) _ _; refine wpList_stG rfl _ (.tmp 4) (.tmp 110) rfl w.heap.size CV #[.bool false, .int .i64 0, .int .i64 0, .int .i64 0, .int .i64 0, .int .i64 0, .int .i64 0, .int .i64 0] (by simp [Act.eval, Act.put]) (by simp [Act.eval, Act.put]) (unhide W7).a (unhide SEV) (unhide SZE) (unhide SOV) ?_; intro wS rS gS zS; have WS := hide ((unhide W7).rowA rS gS); clear rS gS zS))
    refine bodyPost_ret (results_cell_row rfl _ _ w.heap.size _ _ _ _ rfl (unhide WS).a Tryz.underlying30 rfl (unhide SEV)) rfl ?_
    exact ⟨rfl, (unhide WS).d, (unhide WS).o⟩
  · go_wp2_with fail
    refine (wrong_dx _ _ _ true false rfl (unhide W6).d).mono ?_
    rintro e w7 ⟨rfl, o7⟩
    have W7 := hide ((unhide W6).call o7)
    clear o7 W6
    have SZE := hide (show (#[.bool false, .int .i64 0, .int .i64 0, .int .i64 0, .int .i64 0, .int .i64 0, .int .i64 0, .int .i64 0] : Array Value).size = CV.size by rw [hCZ]; rfl)
    go_wp2_with (first | (with_reducible show wpList Tryz.prog _ _ (Oper.mk (some 110) (Op.load _ _) _ _ _ none :: _) _ _; refine wpList_load_row rfl _ (.tmp 6) rfl w1.heap.size (by simp [Act.eval, Act.put]) _ CV (0, 0) _ (unhide W7).b Tryz.underlying30 rfl (unhide SEV) ?_) | (with_reducible show wpList Tryz.prog _ _ (Oper.mk _ (Op.store 30 _ _) _ _ _ none :: _) _ _; refine wpList_stG rfl _ (.tmp 4) (.tmp 110) rfl w.heap.size CV #[.bool false, .int .i64 0, .int .i64 0, .int .i64 0, .int .i64 0, .int .i64 0, .int .i64 0, .int .i64 0] (by simp [Act.eval, Act.put]) (by simp [Act.eval, Act.put]) (unhide W7).a (unhide SEV) (unhide SZE) (unhide SOV) ?_; intro wS rS gS zS; have WS := hide ((unhide W7).rowA rS gS); clear rS gS zS))
    refine bodyPost_ret (results_cell_row rfl _ _ w.heap.size _ _ _ _ rfl (unhide WS).a Tryz.underlying30 rfl (unhide SEV)) rfl ?_
    exact ⟨rfl, (unhide WS).d, (unhide WS).o⟩


end Go.Proofs.YtgldbainhncneaaGreatDoor
